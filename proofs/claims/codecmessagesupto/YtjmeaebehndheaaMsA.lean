import Derived.Test.YtjmeaebehndheaaTwK
import Derived.Deep.MidRow
import Derived.Deep.Cut
import Derived.Great.BuildSlice
import Derived.Deep.CutRange
import Derived.Test.YtjmeaebehndheaaWhole
/-
  The reading of many kids.
-/
namespace Go.Proofs.Ytjmeaebehndheaa
open Go.RowKit

def kdZ : List Value := kdC 0 (.slice none 0 0) 0 (List.replicate 65 0)
theorem info155 : (Try.prog.info? 156).map (fun i => (i.zero, i.size, i.bytes)) = some (some (.agg kdZ.toArray), 68, 112) := by kernel_rfl

/-- What reading n kids gives. -/
def manyS (T : List Int) : Nat → Nat → Int → List KS × Nat × Int
  | 0, a, err => ([], a, err)
  | n + 1, a, err => if err = 0 then ((kidS T a err) :: (manyS T n (kidS T a err).at_ (kidS T a err).err).1, (manyS T n (kidS T a err).at_ (kidS T a err).err).2) else ([], a, err)
theorem manyS_err {T : List Int} {n a : Nat} {err : Int} (h : ¬ err = 0) : manyS T n a err = ([], a, err) := by
  cases n with
  | zero => rfl
  | succ n => simp [manyS, h]
theorem manyS_step {T : List Int} {n a : Nat} : manyS T (n + 1) a 0 = ((kidS T a 0) :: (manyS T n (kidS T a 0).at_ (kidS T a 0).err).1, (manyS T n (kidS T a 0).at_ (kidS T a 0).err).2) := by simp [manyS]

theorem own_block5 {w : World} {v : Value} {l : List Int} (h : Own w v l) {g : Nat} (hg : v.ownBlock = some g) : ∃ cur, w.heap[g]? = some (.cells cur 5 (0, 0)) := by
  rcases h.2 with ⟨e, _⟩ | ⟨b, cap, cur, e, _, hgg, _⟩
  · rw [e] at hg; simp [Value.ownBlock] at hg
  · rw [e] at hg
    simp [Value.ownBlock] at hg
    rw [← hg]
    exact ⟨cur, hgg⟩

/-- Kids in a list of their own, each with its key. -/
def kdsC (ks : List (KS × Value)) : List Value := ks.flatMap fun k => kdC k.1.lv k.2 k.1.ct k.1.z
structure ML (w : World) (v : Value) (ks : List (KS × Value)) : Prop where
  row : w.ownsRow 0 156 68 v ks.length (kdsC ks)
  key : ∀ k, k ∈ ks → Own w k.2 k.1.kl ∧ k.2.oneCell' = true
  ap : ks.Pairwise (fun a b => ∀ g, a.2.ownBlock = some g → ¬ b.2.ownBlock = some g)

section
variable {w w' : World} {v : Value} {ks : List (KS × Value)}
theorem ML.blk (h : ML w v ks) {g : Nat} (hg : v.ownBlock = some g) : ∃ cur, w.heap[g]? = some (.cells cur 156 (0, 0)) := by
  rcases h.row.2 with ⟨e, _⟩ | ⟨b, cap, cur, e, _, hgg, _⟩
  · rw [e] at hg; simp [Value.ownBlock] at hg
  · rw [e] at hg
    simp [Value.ownBlock] at hg
    rw [← hg]
    exact ⟨cur, hgg⟩
theorem ML.form (h : ML w v ks) : ∃ a c, v = .slice a ks.length c := by
  rcases h.row.2 with ⟨e, h0⟩ | ⟨b, cap, cur, e, _⟩
  · exact ⟨_, _, by rw [e, h0]⟩
  · exact ⟨_, _, e⟩
theorem ML.kept (h : ML w v ks) {S : Nat → Prop} (c : Chg S w w') (hv : ∀ g cur, w.heap[g]? = some (.cells cur 156 (0, 0)) → ¬ S g) (hk : ∀ g cur, w.heap[g]? = some (.cells cur 5 (0, 0)) → ¬ S g) : ML w' v ks := by
  refine ⟨⟨h.row.1, ?_⟩, fun k hk' => ⟨Own.kept (h.key k hk').1 c (fun g hg => ?_), (h.key k hk').2⟩, h.ap⟩
  · rcases h.row.2 with e | ⟨b, cap, cur, rfl, hb, hgg, rest⟩
    · exact .inl e
    · exact .inr ⟨b, cap, cur, rfl, hb, c.heap_some hgg (hv b cur hgg), rest⟩
  · obtain ⟨cur, e⟩ := own_block5 (h.key k hk').1 hg
    exact hk g cur e
end

theorem kdsC_len (ks : List (KS × Value)) (h : ∀ k, k ∈ ks → k.1.z.length = 65) : (kdsC ks).length = ks.length * 68 := by
  induction ks with
  | nil => rfl
  | cons k r ih =>
    have h1 := h k (List.mem_cons_self ..)
    have h2 := ih (fun q hq => h q (List.mem_cons_of_mem _ hq))
    simp only [kdsC, List.flatMap_cons, List.length_append, List.length_cons] at h2 ⊢
    rw [h2, kdC_len, h1]
    omega
theorem kdsC_one (ks : List (KS × Value)) (k : KS) (s : Value) : kdsC (ks ++ [(k, s)]) = kdsC ks ++ kdC k.lv s k.ct k.z := by simp [kdsC]
/-- One kid more. -/
theorem ML.add {w : World} {v : Value} {ks : List (KS × Value)} (h : ML w v ks) {k : KS} {s : Value} (hs : Own w s k.kl) (h1 : s.oneCell' = true) (hz : k.z.length = 65) (hb : ks.length + 1 ≤ 1000000) (ty : TypeId) {C : Nat} (hC1 : ∀ g, s.ownBlock = some g → C ≤ g) (hC2 : ∀ q, q ∈ ks → ∀ g, q.2.ownBlock = some g → g < C) :
    ∃ v' w', (Builtin.append_ #[67, 67] ty #[v, .slice (some ⟨w.heap.size, 0, none⟩) 1 1]).run Try.prog (w.alloc (.cells (kdC k.lv s k.ct k.z).toArray 156)) = .ok v' w' ∧ ML w' v' (ks ++ [(k, s)]) ∧ Chg (fun g => some g = v.ownBlock) w w' ∧ (v'.ownBlock = v.ownBlock ∨ ∃ q, v'.ownBlock = some q ∧ w.heap.size ≤ q) := by
  have k3 : Chg (fun _ => False) w (w.alloc (.cells (kdC k.lv s k.ct k.z).toArray 156)) := (Chg.refl _ _).alloc _
  have h3 := h.kept k3 (fun _ _ _ e => e) (fun _ _ _ e => e)
  obtain ⟨i0, hi, hz0, hz1, hz2⟩ := info_parts info155
  obtain ⟨v', w1, r1, r2, r3, _, r5⟩ := run_append_own_at (P := Try.prog) (w.alloc (.cells (kdC k.lv s k.ct k.z).toArray 156)) 0 67 ty 156 i0 _ 68 112 Try.underlying67 hi hz0 hz1 hz2 rfl (by decide) v ks.length (kdsC ks) h3.row ⟨w.heap.size, 0, none⟩ 1 1 (kdC k.lv s k.ct k.z) (by rw [kdC_len, hz]) (fun j u hu => by rw [addr_add, Nat.zero_add, cell_of_row _ _ _ _ _ _ (heap_alloc_new _ _)]; simpa using hu) (kdC_one _ h1 _ _) (by unfold maxLen; omega) (by omega) (Nat.zero_le _)
  have c1 : Chg (fun g => some g = v.ownBlock) w w1 := (k3.mono (fun _ _ e => e.elim)).trans (Chg.of_grown r3) (fun _ e => .inl e)
  have no5 : ∀ {u : Value} {l : List Int}, Own w u l → ∀ g, u.ownBlock = some g → ¬ some g = v.ownBlock := fun ho g hg e => by
    obtain ⟨_, e1⟩ := own_block5 ho hg
    obtain ⟨_, e2⟩ := h.blk e.symm
    rw [e1] at e2
    injection e2 with e2
    injection e2 with _ e2
    exact absurd e2 (by decide)
  refine ⟨v', w1, r1, ⟨by rw [List.length_append, kdsC_one]; exact r2, fun q hq => ?_, List.pairwise_append.2 ⟨h.ap, List.pairwise_singleton _ _, fun x hx y hy g g1 g2 => ?_⟩⟩, c1, r5.imp id (fun e => ⟨_, e, k3.size⟩)⟩
  · rcases List.mem_append.1 hq with hq | hq
    · exact ⟨Own.kept (h.key q hq).1 c1 (no5 (h.key q hq).1), (h.key q hq).2⟩
    · have e : q = (k, s) := by simpa using hq
      subst e
      exact ⟨Own.kept hs c1 (no5 hs), h1⟩
  · have e : y = (k, s) := by simpa using hy
    subst e
    have := hC1 g g2
    have := hC2 x hx g g1
    omega
theorem wpList_appK {ops : Array Oper} {rest : List Oper} {o : Oper} {a : Act} {w w' : World} {Q : Exit → Act → World → Prop} (hgd : o.guard = none) (s x : Operand)
    (ho : o.op = .call { callee := .builtin .append, args := #[s, x], argTypes := #[67, 67] }) {v u v' : Value} (hs : a.eval s = v) (hx : a.eval x = u) (hr : (Builtin.append_ #[67, 67] o.type #[v, u]).run Try.prog w = .ok v' w')
    (h : wpList Try.prog ops Q rest (a.put o.dst v') w') : wpList Try.prog ops Q (o :: rest) a w := by
  refine wpList_plain hgd fun K hK => ?_
  unfold Oper.wp execOp
  simp only [ho, resolve, invoke, builtin, Sem.run_bind, Sem.run_pure, Result.andThen_ok, List.map_toArray, List.map_cons, List.map_nil, hs, hx, hr]
  exact hK _ _ h
theorem wpList_buildK {ops : Array Oper} {rest : List Oper} {o : Oper} {a : Act} {w : World} {Q : Exit → Act → World → Prop} (hgd : o.guard = none) (x : Operand)
    (ho : o.op = .buildSlice 67 1 #[(0, x)]) {C : List Value} (hx : a.eval x = .agg C.toArray) (hC : C.length = 68)
    (h : wpList Try.prog ops Q rest (a.put o.dst (.slice (some ⟨w.heap.size, 0, none⟩) 1 1)) (w.alloc (.cells C.toArray 156))) : wpList Try.prog ops Q (o :: rest) a w := by
  obtain ⟨i0, hi, hz0, hz1, hz2⟩ := info_parts info155
  refine wpList_buildSlice hgd 67 156 1 #[(0, x)] ho C.toArray i0 _ Try.underlying67 hi hz0 (by rw [hz1]; decide) (by rw [hz1]; decide) ?_ h
  have h9 := Go.Great.fill_whole (s := 68) (by decide) [.agg C.toArray] ((Array.range (1 * 68)).map ((Value.agg kdZ.toArray).cells[· % (Value.agg kdZ.toArray).cells.size]!)) (fun v hv => by
    have e : v = .agg C.toArray := by simpa using hv
    rw [e]
    simpa [Value.cells] using hC) (by simp)
  rw [hz1]
  simpa [hx, Value.cells] using h9
theorem run_mk67 (c : Nat) (h : c ≤ 1000000) (w : World) : (Instr.makeSlice 67 (.int .i64 0) (.int .u64 c)).run Try.prog w = .ok (.slice (some ⟨w.heap.size, 0, none⟩) 0 c) (w.alloc (.cells (madeCells kdZ.toArray (c * 68)) 156)) := by
  obtain ⟨i0, hi, hz0, hz1, hz2⟩ := info_parts info155
  have := run_make (P := Try.prog) w 67 156 i0 _ Try.underlying67 hi hz0 .i64 .u64 0 c (by omega) (by omega) (by rw [hz2]; omega) (by omega)
  rw [this, hz1, Int.toNat_natCast]
  rfl

set_option maxRecDepth 100000 in
set_option maxHeartbeats 4000000 in
theorem many_any {w : World} {p : Nat} {tv : Value} {T : List Int} {a : Nat} {err : Int} (h : RS w p 195 tv T a err) (n : Nat) (hn : n ≤ 1000) :
    Calls Try.prog 114 #[.pointer (some ⟨p, 0, none⟩), .int .u64 n, .func (.func 115) #[] #[]] w fun e w' => ∃ v ks, e = .returned v ∧ ks.map Prod.fst = (manyS T n a err).1 ∧ ML w' v ks ∧ RP w w' p 195 tv T (manyS T n a err).2.1 (manyS T n a err).2.2 ∧ (∀ g, v.ownBlock = some g → w.heap.size ≤ g) ∧ ∀ k, k ∈ ks → ∀ g, k.2.ownBlock = some g → w.heap.size ≤ g := by
  have hle := h.le
  have hbig := h.big
  have A0 : Hid _ := At.start h
  have HL : Hid _ := rLeft_any h
  clear h
  have mk0 : ∀ (m1 c : Nat), c ≤ 1000000 → At w ((w.drewN m1).alloc (.cells (madeCells kdZ.toArray (c * 68)) 156)) p 195 tv T a err ∧ ML ((w.drewN m1).alloc (.cells (madeCells kdZ.toArray (c * 68)) 156)) (.slice (some ⟨w.heap.size, 0, none⟩) 0 c) [] := fun m1 c hc =>
    ⟨(A0.out.drewN m1).alloc _, ⟨World.ownsRow_made (w.drewN m1) _ c (Nat.zero_le _) (by unfold maxLen; omega) (by rw [size_madeCells]), (fun k hk => by cases hk), List.Pairwise.nil⟩⟩
  have MK0 : Hid _ := mk0
  clear mk0
  go_enter Try.func114, Try.ntmps114
  go_upto_region 1 with fail
  go_cut [7] from 9 (fun v wx => Hid (At w wx p 195 tv T a err ∧ ML wx v [] ∧ ∀ g, v.ownBlock = some g → w.heap.size ≤ g))
  case first =>
    by_cases hm : (n : Int) ≤ (T.length : Int) - a
    · have hmk := run_mk67 n (by omega)
      go_wp2_with (go_at_call 76; refine Calls.mono HL.out ?_; rintro e w1 ⟨rfl, m1, rfl⟩)
      go_meet
      case rel => exact ⟨(MK0.out m1 n (by omega)).1, (MK0.out m1 n (by omega)).2, fun g hg => by simp [Value.ownBlock] at hg; omega⟩
    · have hq : ((T.length : Int) - a) = ((T.length - a : Nat) : Int) := by omega
      have HQ : Hid _ := hq
      have hmk : ∀ w : World, (Instr.makeSlice 67 (.int .i64 0) (.int .u64 ((T.length : Int) - a))).run Try.prog w = .ok (.slice (some ⟨w.heap.size, 0, none⟩) 0 (T.length - a)) (w.alloc (.cells (madeCells kdZ.toArray ((T.length - a) * 68)) 156)) := by
        rw [hq]
        exact run_mk67 (T.length - a) (by omega)
      clear hq
      go_wp2_with (go_at_call 76; refine Calls.mono HL.out ?_; rintro e w1 ⟨rfl, m1, rfl⟩)
      go_meet
      case rel => exact ⟨(MK0.out m1 (T.length - a) (by omega)).1, (MK0.out m1 (T.length - a) (by omega)).2, fun g hg => by simp [Value.ownBlock] at hg; omega⟩
  case rest =>
    have H0 : Hid _ := hcut.out
    clear hcut MK0 HL A0
    go_wp2_with fail
    go_loopw [7, 8] (fun v i wr => ∃ (j : Nat) (ai : Nat) (ei : Int) (ks : List (KS × Value)), j ≤ n ∧ i = .int .u64 j ∧ Hid (At w wr p 195 tv T ai ei ∧ ML wr v ks ∧ ks.length = j ∧ manyS T n a err = (ks.map Prod.fst ++ (manyS T (n - j) ai ei).1, (manyS T (n - j) ai ei).2) ∧ (∀ g, v.ownBlock = some g → w.heap.size ≤ g) ∧ ∀ k, k ∈ ks → ∀ g, k.2.ownBlock = some g → w.heap.size ≤ g)) (fun _ i _ => n - (intOf i).toNat)
    case atStart => exact ⟨0, a, err, [], Nat.zero_le _, rfl, H0.out.1, H0.out.2.1, rfl, by simp, H0.out.2.2, fun k hk => by cases hk⟩
    case round =>
      obtain ⟨j, ai, ei, ks, hj, rfl, hid⟩ := hrel
      obtain ⟨at_, ml, hks, hms, hnv, hnk⟩ := hid.out
      have HE : Hid _ := rErr_any at_.rp.1
      have AT : Hid _ := at_
      have MLH : Hid _ := ml
      have HKS : Hid _ := hks
      have HMS : Hid _ := hms
      have HNV : Hid _ := hnv
      have HNK : Hid _ := hnk
      clear hid at_ ml hks hms hnv hnk
      by_cases hlt : j < n
      · by_cases he : ei = 0
        · subst he
          go_upto_region 5 with (go_at_call 78; refine Calls.mono HE.out ?_; rintro e w1 ⟨rfl, hw1⟩; subst hw1)
          clear HE
          go_wp2_with fail
          refine Calls.mono (kid_any AT.out.rp.1) ?_
          rintro e w2 ⟨s, rfl, h1, o2, r2, hs⟩
          obtain ⟨sa, sc, hsf⟩ := Own.form o2
          obtain ⟨kk, hkk⟩ : ∃ kk, kk = kidS T ai 0 := ⟨_, rfl⟩
          rw [← hkk] at o2 r2 hsf ⊢
          have hz : kk.z.length = 65 := by rw [hkk]; exact kidS_len _ _ _
          have ml2 : ML w2 u7 ks := MLH.out.kept r2.2 (fun g cur hg e => by
            have h9 := AT.out.rp.1.blk
            rw [e] at hg
            rw [h9] at hg
            injection hg with hg
            injection hg with _ hg
            exact absurd hg (by decide)) (fun g cur hg e => by
            have h9 := AT.out.rp.1.blk
            rw [e] at hg
            rw [h9] at hg
            injection hg with hg
            injection hg with _ hg
            exact absurd hg (by decide))
          obtain ⟨v', w3, hr3, ml3, k3, b3⟩ := ml2.add o2 h1 hz (by have := HKS.out; omega) 67 hs (fun q hq g hg => Own.lt (MLH.out.key q hq).1 hg)
          have at3 : At w w3 p 195 tv T kk.at_ kk.err := by
            have a2 := AT.out.call r2
            refine ⟨⟨a2.rp.1.keep2 k3 (fun e => ?_) (fun g hg => ?_), a2.rp.2.trans k3 (fun g e => .inr (HNV.out g e.symm))⟩, a2.plt, a2.tlt⟩
            · have := HNV.out p e.symm
              have := a2.plt
              omega
            · rcases a2.tlt g hg with e | e
              · exact .inl (fun e2 => by have := HNV.out g e2.symm; omega)
              · exact .inr e
          have s2 := AT.out.rp.2.size
          have FIN : Hid (At w w3 p 195 tv T kk.at_ kk.err ∧ ML w3 v' (ks ++ [(kk, s)]) ∧ (ks ++ [(kk, s)]).length = j + 1 ∧ manyS T n a err = ((ks ++ [(kk, s)]).map Prod.fst ++ (manyS T (n - (j + 1)) kk.at_ kk.err).1, (manyS T (n - (j + 1)) kk.at_ kk.err).2) ∧ (∀ g, v'.ownBlock = some g → w.heap.size ≤ g) ∧ ∀ k, k ∈ ks ++ [(kk, s)] → ∀ g, k.2.ownBlock = some g → w.heap.size ≤ g) := by
            refine ⟨at3, ml3, by rw [List.length_append, HKS.out]; rfl, ?_, fun g hg => ?_, fun q hq g hg => ?_⟩
            · rw [HMS.out, show n - j = (n - (j + 1)) + 1 by omega, manyS_step, ← hkk]
              simp
            · rcases b3 with e | ⟨q, e, hq⟩
              · exact HNV.out g (by rw [← e]; exact hg)
              · rw [hg] at e
                injection e with e
                have := r2.2.size
                omega
            · rcases List.mem_append.1 hq with hq | hq
              · exact HNK.out q hq g hg
              · have e : q = (kk, s) := by simpa using hq
                subst e
                have := hs g hg
                omega
          obtain ⟨ya, yc, hyf⟩ := ml3.form
          have HYF : Hid _ := hyf
          have HR3 : Hid _ := hr3
          have HSF : Hid _ := hsf
          rw [hsf]
          rw [hsf] at hr3
          have HR4 : Hid _ := hr3
          clear hr3 ml2 ml3 k3 b3 at3 s2 o2 r2 hs h1 hsf hyf hkk AT MLH HKS HMS HNV HNK
          have LC : (kdC kk.lv (.slice sa kk.kl.length sc) kk.ct kk.z).length = 68 := by rw [kdC_len, hz]
          rw [show v' = .slice ya (ks ++ [(kk, s)]).length yc from HYF.out] at HR4 FIN
          obtain ⟨ln, hln⟩ : ∃ ln, ln = (ks ++ [(kk, s)]).length := ⟨_, rfl⟩
          rw [← hln] at HR4 FIN
          have HLN : Hid _ := hln
          clear hln
          go_wp2_with (first | refine wpList_buildK rfl (.tmp 32) rfl (C := kdC kk.lv (.slice sa kk.kl.length sc) kk.ct kk.z) rfl LC ?_ | refine wpList_appK rfl (.tmp 29) (.tmp 33) rfl (v := u7) (u := .slice (some ⟨w2.heap.size, 0, none⟩) 1 1) (v' := .slice ya ln yc) (w' := w3) rfl rfl HR4.out ?_)
          go_roundw
          case rel => exact ⟨j + 1, _, _, ks ++ [(kk, s)], by omega, by go_num, FIN.out.1, FIN.out.2.1, HLN.out.symm.trans FIN.out.2.2.1, FIN.out.2.2.2⟩
          case measure => simp [intOf]; omega
        · have F : Hid (ks.map Prod.fst = (manyS T n a err).1 ∧ RP w wr p 195 tv T (manyS T n a err).2.1 (manyS T n a err).2.2) := by
            rw [HMS.out, manyS_err he, List.append_nil]
            exact ⟨rfl, AT.out.rp⟩
          go_wp2_with (go_at_call 78; refine Calls.mono HE.out ?_; rintro e w1 ⟨rfl, hw1⟩; subst hw1)
          go_ret
          exact ⟨u7, ks, rfl, F.out.1, MLH.out, F.out.2, HNV.out, HNK.out⟩
      · have hjn : j = n := by omega
        subst hjn
        have F : Hid (ks.map Prod.fst = (manyS T j a err).1 ∧ RP w wr p 195 tv T (manyS T j a err).2.1 (manyS T j a err).2.2) := by
          rw [HMS.out, Nat.sub_self]
          exact ⟨by simp [manyS], AT.out.rp⟩
        clear HE
        go_wp2_with fail
        go_ret
        exact ⟨u7, ks, rfl, F.out.1, MLH.out, F.out.2, HNV.out, HNK.out⟩
end Go.Proofs.Ytjmeaebehndheaa

/-
  A record that is being read: the reader, the record under way, the result, what they hold. Spans and changes are read.
-/
namespace Go.Proofs.Ytjmeaebehndheaa
open Go.RowKit

/-- What stands whatever is done to a reader or to a record of that type. -/
def St (ty : TypeId) (I : World → Prop) : Prop := ∀ w w' g cur t, I w → w.heap[g]? = some (.cells cur t (0, 0)) → t = 195 ∨ t = ty → Chg (fun k => k = g) w w' → I w'
theorem St.true (ty : TypeId) : St ty (fun _ => True) := fun _ _ _ _ _ _ _ _ _ => trivial
theorem St.and {ty : TypeId} {I J : World → Prop} (h : St ty I) (k : St ty J) : St ty (fun w => I w ∧ J w) := fun w w' g cur t hi hg ht c => ⟨h w w' g cur t hi.1 hg ht c, k w w' g cur t hi.2 hg ht c⟩
theorem St.own {ty : TypeId} (h : ty ≠ 5) (s : Value) (l : List Int) : St ty (fun w => Own w s l) := fun w w' g cur t hi hg ht c => hi.kept c (fun k hk e => by
  obtain ⟨cur', e2⟩ := own_block5 hi hk
  rw [e, hg] at e2
  injection e2 with e2
  injection e2 with _ e2
  rcases ht with ht | ht
  · rw [ht] at e2
    exact absurd e2 (by decide)
  · exact h (ht.symm.trans e2))
/-- A record under way. -/
structure Bld (w : World) (p : Nat) (tv : Value) (T : List Int) (ty : TypeId) (Z : List Value) (I : World → Prop) (wr : World) (a : Nat) (err : Int) (cs : List Value) : Prop where
  st_ : At w wr p 195 tv T a err
  res : Blk wr w.heap.size Z ty
  row : Blk wr (w.heap.size + 1) cs ty
  inv : I wr
  st : St ty I
section
variable {w wr w' : World} {p : Nat} {tv : Value} {T : List Int} {ty : TypeId} {Z cs : List Value} {I J : World → Prop} {a a1 : Nat} {err e1 : Int}
theorem Bld.start (h : RS w p 195 tv T a err) (Z : List Value) (ty : TypeId) : Bld w p tv T ty Z (fun _ => True) ((w.alloc (.cells Z.toArray ty)).alloc (.cells Z.toArray ty)) a err Z :=
  ⟨((At.start h).alloc _).alloc _, (Blk.made w _ ty).alloc _, by have := Blk.made (w.alloc (.cells Z.toArray ty)) Z ty; rwa [World.size_alloc] at this, trivial, St.true ty⟩
theorem Bld.call (h : Bld w p tv T ty Z I wr a err cs) (r : RP wr w' p 195 tv T a1 e1) : Bld w p tv T ty Z I w' a1 e1 cs :=
  ⟨h.st_.call r, h.st_.blk h.res (Nat.le_refl _) r, h.st_.blk h.row (Nat.le_succ _) r, h.st _ _ _ _ _ h.inv h.st_.rp.1.blk (.inl rfl) r.2, h.st⟩
theorem Bld.more (h : Bld w p tv T ty Z I wr a err cs) (st : St ty J) (j : J wr) : Bld w p tv T ty Z (fun w => I w ∧ J w) wr a err cs := ⟨h.st_, h.res, h.row, ⟨h.inv, j⟩, h.st.and st⟩
theorem Bld.chg {cs' : List Value} (h : Bld w p tv T ty Z I wr a err cs) (b : Blk w' (w.heap.size + 1) cs' ty) (c : Chg (fun k => k = w.heap.size + 1) wr w') : Bld w p tv T ty Z I w' a err cs' :=
  ⟨h.st_.chg c (Nat.le_succ _), h.res.keep c (by omega), b, h.st _ _ _ _ _ h.inv h.row.eq (.inr rfl) c, h.st⟩
theorem Bld.set (h : Bld w p tv T ty Z I wr a err cs) (i : Nat) (v : Value) : Bld w p tv T ty Z I (wr.setCell ⟨w.heap.size + 1, i, none⟩ v) a err (cs.set i v) :=
  h.chg (h.row.set i v) ((Chg.refl (fun k => k = w.heap.size + 1) wr).setCell (p := ⟨w.heap.size + 1, i, none⟩) (.inl rfl) v)
theorem Bld.fin (h : Bld w p tv T ty Z I wr a err cs) (c : Chg (fun k => k = w.heap.size) wr w') : RP w w' p 195 tv T a err ∧ I w' :=
  ⟨(h.st_.chg c (Nat.le_refl _)).rp, h.st _ _ _ _ _ h.inv h.res.eq (.inr rfl) c⟩
end

/-- Spans. -/
def spC (lo hi : Value) (op : Bool) : List Value := [lo, hi, .bool op]
theorem Try.size89 : (Try.prog.info? 89).map (·.size) = some 3 := by kernel_rfl
theorem Try.spSz (lo hi : Value) (op : Bool) : (Try.prog.info? 89).map (·.size) = some (spC lo hi op).length := Try.size89
theorem spC_one {lo hi : Value} (h1 : lo.oneCell' = true) (h2 : hi.oneCell' = true) (op : Bool) : ∀ u ∈ spC lo hi op, u.oneCell' = true := by
  intro u hu
  simp only [spC, List.mem_cons, List.not_mem_nil, or_false] at hu
  rcases hu with rfl | rfl | rfl
  · exact h1
  · exact h2
  · rfl
/-- Three texts lie apart, behind B. -/
structure Ap3 (B : Nat) (k o n : Value) : Prop where
  ge : ∀ g, k.ownBlock = some g ∨ o.ownBlock = some g ∨ n.ownBlock = some g → B ≤ g
  k1 : ∀ g, k.ownBlock = some g → ¬ o.ownBlock = some g
  k2 : ∀ g, k.ownBlock = some g → ¬ n.ownBlock = some g
  o1 : ∀ g, o.ownBlock = some g → ¬ n.ownBlock = some g
theorem nilB {P : Nat → Prop} : ∀ g, (Value.slice none 0 0).ownBlock = some g → P g := fun g hg => by simp [Value.ownBlock] at hg
theorem Ap3.of {B x y : Nat} {k o n : Value} (h1 : B ≤ x) (h2 : x ≤ y) (hk : ∀ g, k.ownBlock = some g → B ≤ g ∧ g < x) (ho : ∀ g, o.ownBlock = some g → x ≤ g ∧ g < y) (hn : ∀ g, n.ownBlock = some g → y ≤ g) : Ap3 B k o n :=
  ⟨fun g hg => by
    rcases hg with e | e | e
    · exact (hk g e).1
    · have := ho g e; omega
    · have := hn g e; omega, fun g e e2 => by have := hk g e; have := ho g e2; omega, fun g e e2 => by have := hk g e; have := hn g e2; omega, fun g e e2 => by have := ho g e; have := hn g e2; omega⟩
theorem Ap3.nil (B : Nat) : Ap3 B (.slice none 0 0) (.slice none 0 0) (.slice none 0 0) := Ap3.of (Nat.le_refl _) (Nat.le_refl _) nilB nilB nilB
theorem le_set (w : World) (p : Addr) (v : Value) : w.heap.size ≤ (w.setCell p v).heap.size := ((Chg.refl (fun _ => True) w).setCell (p := p) (.inl trivial) v).size
structure SpS where
  lo : List Int
  hi : List Int
  op : Bool
  at_ : Nat
  err : Int
def spanS (T : List Int) (a : Nat) (err : Int) : SpS :=
  let F := flagS T a err
  let L := textS T F.2.1 F.2.2 1025
  if F.1 = true then ⟨L.1, [], F.1, L.2.1, L.2.2⟩ else ⟨L.1, (textS T L.2.1 L.2.2 1025).1, F.1, (textS T L.2.1 L.2.2 1025).2.1, (textS T L.2.1 L.2.2 1025).2.2⟩
structure SpQ (w w' : World) (p : Nat) (tv : Value) (T : List Int) (S : SpS) (e : Ending) : Prop where
  ex : ∃ lo hi, e = .returned (.agg (spC lo hi S.op).toArray) ∧ Own w' lo S.lo ∧ Own w' hi S.hi ∧ RP w w' p 195 tv T S.at_ S.err ∧ Ap3 w.heap.size lo hi (.slice none 0 0)
theorem Own.one {w : World} {v : Value} {l : List Int} (h : Own w v l) : v.oneCell' = true := by
  obtain ⟨a, c, e⟩ := h.form
  rw [e]; rfl

set_option maxRecDepth 100000 in
set_option maxHeartbeats 16000000 in
theorem span_any {w : World} {p : Nat} {tv : Value} {T : List Int} {a : Nat} {err : Int} (h : RS w p 195 tv T a err) :
    Calls Try.prog 117 #[.pointer (some ⟨p, 0, none⟩)] w fun e w' => SpQ w w' p tv T (spanS T a err) e := by
  have HF : Hid _ := h
  have B0 : Hid (Bld w p tv T 89 (spC (.slice none 0 0) (.slice none 0 0) false) (fun _ => True) ((w.alloc (.cells (spC (.slice none 0 0) (.slice none 0 0) false).toArray 89)).alloc (.cells (spC (.slice none 0 0) (.slice none 0 0) false).toArray 89)) a err (spC (.slice none 0 0) (.slice none 0 0) false)) := Bld.start h _ 89
  have hlt := h.lt
  clear h HF
  obtain ⟨S, hS⟩ : ∃ S, S = spanS T a err := ⟨_, rfl⟩
  rw [← hS]
  unfold spanS at hS
  have HC : Hid _ := rFlag_any B0.out.st_.rp.1
  obtain ⟨F, a1, e1, hF⟩ : ∃ F b c, flagS T a err = (F, b, c) := ⟨_, _, _, rfl⟩
  simp only [hF] at HC hS
  have HSS : Hid _ := hS
  clear hF hS
  go_enter Try.func117, Try.ntmps117
  go_wp2_with fail
  refine Calls.mono HC.out ?_
  rintro e w1 ⟨rfl, r1⟩
  have B1 : Hid _ := B0.out.call r1
  clear r1 HC B0
  have hc : w1.cell? ⟨w.heap.size + 1, 2, none⟩ = some (.bool false) := B1.out.row.cell 2
  have hf : w1.frozen? ⟨w.heap.size + 1, 2, none⟩ = false := B1.out.row.fr 2
  have B2 : Hid (Bld w p tv T 89 _ _ (w1.setCell ⟨w.heap.size + 1, 2, none⟩ (.bool F)) a1 e1 (spC (.slice none 0 0) (.slice none 0 0) F)) := B1.out.set 2 (.bool F)
  clear B1
  have HC : Hid _ := rText_any B2.out.st_.rp.1 1025 (by decide) (by decide)
  obtain ⟨L, a2, e2, hL⟩ : ∃ F b c, textS T a1 e1 1025 = (F, b, c) := ⟨_, _, _, rfl⟩
  have hS := HSS.out
  simp only [hL] at HC hS
  clear HSS
  have HSS : Hid _ := hS
  clear hL hS
  go_wp2_with fail
  refine Calls.mono HC.out ?_
  rintro e w2 ⟨s, rfl, o1, r1, g1⟩
  have G1 : Hid (w.heap.size ≤ w2.heap.size ∧ ∀ g, s.ownBlock = some g → w.heap.size ≤ g ∧ g < w2.heap.size) := ⟨Nat.le_trans B2.out.st_.rp.2.size r1.2.size, fun g hg => ⟨Nat.le_trans B2.out.st_.rp.2.size (g1 g hg), o1.lt hg⟩⟩
  clear g1
  obtain ⟨sa, sc, hsf⟩ := Own.form o1
  obtain ⟨n, hn⟩ : ∃ n, n = L.length := ⟨_, rfl⟩
  rw [← hn] at hsf
  subst hsf
  have B3 : Hid _ := (B2.out.call r1).more (St.own (by decide) _ _) o1
  clear r1 HC B2 o1 hn hc hf
  have hc : w2.cell? ⟨w.heap.size + 1, 0, none⟩ = some (.slice none 0 0) := B3.out.row.cell 0
  have hf : w2.frozen? ⟨w.heap.size + 1, 0, none⟩ = false := B3.out.row.fr 0
  have B4 : Hid (Bld w p tv T 89 _ _ (w2.setCell ⟨w.heap.size + 1, 0, none⟩ (.slice sa n sc)) a2 e2 (spC (.slice sa n sc) (.slice none 0 0) F)) := B3.out.set 0 (.slice sa n sc)
  clear B3
  have hd : (w2.setCell ⟨w.heap.size + 1, 0, none⟩ (.slice sa n sc)).cell? ⟨w.heap.size + 1, 2, none⟩ = some (.bool F) := B4.out.row.cell 2
  by_cases hb : F = true
  · subst hb
    have h9 := HSS.out
    rw [if_pos rfl] at h9
    have HS1 : Hid _ := h9
    clear HSS h9
    go_wp2_with (first
      | (refine wpList_load_part rfl 89 (.tmp 3) rfl (w.heap.size + 1) 0 (spC (.slice sa n sc) (.slice none 0 0) true) rfl B4.out.row (by simp) Try.underlying89 rfl (Try.spSz _ _ _) ?_)
      | (refine wpList_store_part rfl 89 (.tmp 2) (.tmp 20) rfl w.heap.size 0 (spC (.slice sa n sc) (.slice none 0 0) true) rfl rfl B4.out.res (by simp [spC]) (Try.spSz _ _ _) (spC_one rfl rfl _) ?_; intro w8 b8 c8; rw [splice_all _ _ (by simp [spC])] at b8; have RR : Hid _ := b8; have FF : Hid _ := B4.out.fin c8; clear b8 c8))
    exact bodyPost_ret (v := .agg (spC (.slice sa n sc) (.slice none 0 0) true).toArray) (results_row1 rfl _ _ w.heap.size 89 _ _ _ rfl RR.out.eq Try.underlying89 rfl (Try.spSz _ _ _)) rfl (by rw [HS1.out]; exact ⟨⟨.slice sa n sc, .slice none 0 0, rfl, FF.out.2.2, Own.nil _, FF.out.1, Ap3.of G1.out.1 (Nat.le_refl _) G1.out.2 nilB nilB⟩⟩)
  · have hb2 : F = false := by cases F <;> simp_all
    subst hb2
    clear hb
    have h9 := HSS.out
    rw [if_neg (by decide)] at h9
    clear HSS
    have HC : Hid _ := rText_any B4.out.st_.rp.1 1025 (by decide) (by decide)
    obtain ⟨M, a3, e3, hM⟩ : ∃ F b c, textS T a2 e2 1025 = (F, b, c) := ⟨_, _, _, rfl⟩
    simp only [hM] at HC h9
    have HS1 : Hid _ := h9
    clear hM h9
    go_wp2_with fail
    refine Calls.mono HC.out ?_
    rintro e w3 ⟨s, rfl, o1, r1, g1⟩
    have G2 : Hid (w2.heap.size ≤ w3.heap.size ∧ ∀ g, s.ownBlock = some g → w2.heap.size ≤ g ∧ g < w3.heap.size) := ⟨Nat.le_trans (le_set _ _ _) r1.2.size, fun g hg => ⟨Nat.le_trans (le_set _ _ _) (g1 g hg), o1.lt hg⟩⟩
    clear g1
    obtain ⟨sb, sd, hsf⟩ := Own.form o1
    obtain ⟨m, hm⟩ : ∃ n, n = M.length := ⟨_, rfl⟩
    rw [← hm] at hsf
    subst hsf
    have B5 : Hid _ := (B4.out.call r1).more (St.own (by decide) _ _) o1
    clear r1 HC B4 o1 hm hc hf hd
    have hc : w3.cell? ⟨w.heap.size + 1, 1, none⟩ = some (.slice none 0 0) := B5.out.row.cell 1
    have hf : w3.frozen? ⟨w.heap.size + 1, 1, none⟩ = false := B5.out.row.fr 1
    have B6 : Hid (Bld w p tv T 89 _ _ (w3.setCell ⟨w.heap.size + 1, 1, none⟩ (.slice sb m sd)) a3 e3 (spC (.slice sa n sc) (.slice sb m sd) false)) := B5.out.set 1 (.slice sb m sd)
    clear B5
    go_wp2_with (first
      | (refine wpList_load_part rfl 89 (.tmp 3) rfl (w.heap.size + 1) 0 (spC (.slice sa n sc) (.slice sb m sd) false) rfl B6.out.row (by simp) Try.underlying89 rfl (Try.spSz _ _ _) ?_)
      | (refine wpList_store_part rfl 89 (.tmp 2) (.tmp 20) rfl w.heap.size 0 (spC (.slice sa n sc) (.slice sb m sd) false) rfl rfl B6.out.res (by simp [spC]) (Try.spSz _ _ _) (spC_one rfl rfl _) ?_; intro w8 b8 c8; rw [splice_all _ _ (by simp [spC])] at b8; have RR : Hid _ := b8; have FF : Hid _ := B6.out.fin c8; clear b8 c8))
    exact bodyPost_ret (v := .agg (spC (.slice sa n sc) (.slice sb m sd) false).toArray) (results_row1 rfl _ _ w.heap.size 89 _ _ _ rfl RR.out.eq Try.underlying89 rfl (Try.spSz _ _ _)) rfl (by rw [HS1.out]; exact ⟨⟨.slice sa n sc, .slice sb m sd, rfl, FF.out.2.1.2, FF.out.2.2, FF.out.1, Ap3.of G1.out.1 G2.out.1 G1.out.2 G2.out.2 nilB⟩⟩)
end Go.Proofs.Ytjmeaebehndheaa
