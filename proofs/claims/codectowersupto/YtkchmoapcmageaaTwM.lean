/-
  The reading of many kids.
-/
import Derived.Test.YtkchmoapcmageaaTwK
import Derived.Deep.MidRow
import Derived.Deep.Cut
import Derived.Great.BuildSlice
import Derived.Deep.CutRange
import Derived.Test.YtkchmoapcmageaaWhole
namespace Go.Proofs.Ytkchmoapcmageaa
open Go.RowKit

def kdZ : List Value := kdC 0 (.slice none 0 0) 0 (List.replicate 65 0)
theorem info155 : (Try.prog.info? 112).map (fun i => (i.zero, i.size, i.bytes)) = some (some (.agg kdZ.toArray), 68, 112) := by kernel_rfl

/-- What reading n kids gives. -/
def manyS (T : List Int) : Nat → Nat → Int → List KS × Nat × Int
  | 0, a, err => ([], a, err)
  | n + 1, a, err => if err = 0 then ((kidS T a err) :: (manyS T n (kidS T a err).at_ (kidS T a err).err).1, (manyS T n (kidS T a err).at_ (kidS T a err).err).2) else ([], a, err)
theorem manyS_err {T : List Int} {n a : Nat} {err : Int} (h : ¬ err = 0) : manyS T n a err = ([], a, err) := by
  cases n with
  | zero => rfl
  | succ n => simp [manyS, h]
theorem manyS_step {T : List Int} {n a : Nat} : manyS T (n + 1) a 0 = ((kidS T a 0) :: (manyS T n (kidS T a 0).at_ (kidS T a 0).err).1, (manyS T n (kidS T a 0).at_ (kidS T a 0).err).2) := by simp [manyS]

theorem own_block5 {w : World} {v : Value} {l : List Int} (h : Own w v l) {g : Nat} (hg : v.ownBlock = some g) : ∃ cur, w.heap[g]? = some (.cells cur 5 (0, 0)) := by
  rcases h.2 with ⟨e, _⟩ | ⟨b, cap, cur, e, _, hgg, _⟩
  · rw [e] at hg; simp [Value.ownBlock] at hg
  · rw [e] at hg
    simp [Value.ownBlock] at hg
    rw [← hg]
    exact ⟨cur, hgg⟩

/-- Kids in a list of their own, each with its key. -/
def kdsC (ks : List (KS × Value)) : List Value := ks.flatMap fun k => kdC k.1.lv k.2 k.1.ct k.1.z
structure ML (w : World) (v : Value) (ks : List (KS × Value)) : Prop where
  row : w.ownsRow 0 112 68 v ks.length (kdsC ks)
  key : ∀ k, k ∈ ks → Own w k.2 k.1.kl ∧ k.2.oneCell' = true
  ap : ks.Pairwise (fun a b => ∀ g, a.2.ownBlock = some g → ¬ b.2.ownBlock = some g)

section
variable {w w' : World} {v : Value} {ks : List (KS × Value)}
theorem ML.blk (h : ML w v ks) {g : Nat} (hg : v.ownBlock = some g) : ∃ cur, w.heap[g]? = some (.cells cur 112 (0, 0)) := by
  rcases h.row.2 with ⟨e, _⟩ | ⟨b, cap, cur, e, _, hgg, _⟩
  · rw [e] at hg; simp [Value.ownBlock] at hg
  · rw [e] at hg
    simp [Value.ownBlock] at hg
    rw [← hg]
    exact ⟨cur, hgg⟩
theorem ML.form (h : ML w v ks) : ∃ a c, v = .slice a ks.length c := by
  rcases h.row.2 with ⟨e, h0⟩ | ⟨b, cap, cur, e, _⟩
  · exact ⟨_, _, by rw [e, h0]⟩
  · exact ⟨_, _, e⟩
theorem ML.kept (h : ML w v ks) {S : Nat → Prop} (c : Chg S w w') (hv : ∀ g cur, w.heap[g]? = some (.cells cur 112 (0, 0)) → ¬ S g) (hk : ∀ g cur, w.heap[g]? = some (.cells cur 5 (0, 0)) → ¬ S g) : ML w' v ks := by
  refine ⟨⟨h.row.1, ?_⟩, fun k hk' => ⟨Own.kept (h.key k hk').1 c (fun g hg => ?_), (h.key k hk').2⟩, h.ap⟩
  · rcases h.row.2 with e | ⟨b, cap, cur, rfl, hb, hgg, rest⟩
    · exact .inl e
    · exact .inr ⟨b, cap, cur, rfl, hb, c.heap_some hgg (hv b cur hgg), rest⟩
  · obtain ⟨cur, e⟩ := own_block5 (h.key k hk').1 hg
    exact hk g cur e
end

theorem kdsC_len (ks : List (KS × Value)) (h : ∀ k, k ∈ ks → k.1.z.length = 65) : (kdsC ks).length = ks.length * 68 := by
  induction ks with
  | nil => rfl
  | cons k r ih =>
    have h1 := h k (List.mem_cons_self ..)
    have h2 := ih (fun q hq => h q (List.mem_cons_of_mem _ hq))
    simp only [kdsC, List.flatMap_cons, List.length_append, List.length_cons] at h2 ⊢
    rw [h2, kdC_len, h1]
    omega
theorem kdsC_one (ks : List (KS × Value)) (k : KS) (s : Value) : kdsC (ks ++ [(k, s)]) = kdsC ks ++ kdC k.lv s k.ct k.z := by simp [kdsC]
/-- One kid more. -/
theorem ML.add {w : World} {v : Value} {ks : List (KS × Value)} (h : ML w v ks) {k : KS} {s : Value} (hs : Own w s k.kl) (h1 : s.oneCell' = true) (hz : k.z.length = 65) (hb : ks.length + 1 ≤ 1000000) (ty : TypeId) {C : Nat} (hC1 : ∀ g, s.ownBlock = some g → C ≤ g) (hC2 : ∀ q, q ∈ ks → ∀ g, q.2.ownBlock = some g → g < C) :
    ∃ v' w', (Builtin.append_ #[67, 67] ty #[v, .slice (some ⟨w.heap.size, 0, none⟩) 1 1]).run Try.prog (w.alloc (.cells (kdC k.lv s k.ct k.z).toArray 112)) = .ok v' w' ∧ ML w' v' (ks ++ [(k, s)]) ∧ Chg (fun g => some g = v.ownBlock) w w' ∧ (v'.ownBlock = v.ownBlock ∨ ∃ q, v'.ownBlock = some q ∧ w.heap.size ≤ q) := by
  have k3 : Chg (fun _ => False) w (w.alloc (.cells (kdC k.lv s k.ct k.z).toArray 112)) := (Chg.refl _ _).alloc _
  have h3 := h.kept k3 (fun _ _ _ e => e) (fun _ _ _ e => e)
  obtain ⟨i0, hi, hz0, hz1, hz2⟩ := info_parts info155
  obtain ⟨v', w1, r1, r2, r3, _, r5⟩ := run_append_own_at (P := Try.prog) (w.alloc (.cells (kdC k.lv s k.ct k.z).toArray 112)) 0 67 ty 112 i0 _ 68 112 Try.underlying67 hi hz0 hz1 hz2 rfl (by decide) v ks.length (kdsC ks) h3.row ⟨w.heap.size, 0, none⟩ 1 1 (kdC k.lv s k.ct k.z) (by rw [kdC_len, hz]) (fun j u hu => by rw [addr_add, Nat.zero_add, cell_of_row _ _ _ _ _ _ (heap_alloc_new _ _)]; simpa using hu) (kdC_one _ h1 _ _) (by unfold maxLen; omega) (by omega) (Nat.zero_le _)
  have c1 : Chg (fun g => some g = v.ownBlock) w w1 := (k3.mono (fun _ _ e => e.elim)).trans (Chg.of_grown r3) (fun _ e => .inl e)
  have no5 : ∀ {u : Value} {l : List Int}, Own w u l → ∀ g, u.ownBlock = some g → ¬ some g = v.ownBlock := fun ho g hg e => by
    obtain ⟨_, e1⟩ := own_block5 ho hg
    obtain ⟨_, e2⟩ := h.blk e.symm
    rw [e1] at e2
    injection e2 with e2
    injection e2 with _ e2
    exact absurd e2 (by decide)
  refine ⟨v', w1, r1, ⟨by rw [List.length_append, kdsC_one]; exact r2, fun q hq => ?_, List.pairwise_append.2 ⟨h.ap, List.pairwise_singleton _ _, fun x hx y hy g g1 g2 => ?_⟩⟩, c1, r5.imp id (fun e => ⟨_, e, k3.size⟩)⟩
  · rcases List.mem_append.1 hq with hq | hq
    · exact ⟨Own.kept (h.key q hq).1 c1 (no5 (h.key q hq).1), (h.key q hq).2⟩
    · have e : q = (k, s) := by simpa using hq
      subst e
      exact ⟨Own.kept hs c1 (no5 hs), h1⟩
  · have e : y = (k, s) := by simpa using hy
    subst e
    have := hC1 g g2
    have := hC2 x hx g g1
    omega
theorem wpList_appK {ops : Array Oper} {rest : List Oper} {o : Oper} {a : Act} {w w' : World} {Q : Exit → Act → World → Prop} (hgd : o.guard = none) (s x : Operand)
    (ho : o.op = .call { callee := .builtin .append, args := #[s, x], argTypes := #[67, 67] }) {v u v' : Value} (hs : a.eval s = v) (hx : a.eval x = u) (hr : (Builtin.append_ #[67, 67] o.type #[v, u]).run Try.prog w = .ok v' w')
    (h : wpList Try.prog ops Q rest (a.put o.dst v') w') : wpList Try.prog ops Q (o :: rest) a w := by
  refine wpList_plain hgd fun K hK => ?_
  unfold Oper.wp execOp
  simp only [ho, resolve, invoke, builtin, Sem.run_bind, Sem.run_pure, Result.andThen_ok, List.map_toArray, List.map_cons, List.map_nil, hs, hx, hr]
  exact hK _ _ h
theorem wpList_buildK {ops : Array Oper} {rest : List Oper} {o : Oper} {a : Act} {w : World} {Q : Exit → Act → World → Prop} (hgd : o.guard = none) (x : Operand)
    (ho : o.op = .buildSlice 67 1 #[(0, x)]) {C : List Value} (hx : a.eval x = .agg C.toArray) (hC : C.length = 68)
    (h : wpList Try.prog ops Q rest (a.put o.dst (.slice (some ⟨w.heap.size, 0, none⟩) 1 1)) (w.alloc (.cells C.toArray 112))) : wpList Try.prog ops Q (o :: rest) a w := by
  obtain ⟨i0, hi, hz0, hz1, hz2⟩ := info_parts info155
  refine wpList_buildSlice hgd 67 112 1 #[(0, x)] ho C.toArray i0 _ Try.underlying67 hi hz0 (by rw [hz1]; decide) (by rw [hz1]; decide) ?_ h
  have h9 := Go.Great.fill_whole (s := 68) (by decide) [.agg C.toArray] ((Array.range (1 * 68)).map ((Value.agg kdZ.toArray).cells[· % (Value.agg kdZ.toArray).cells.size]!)) (fun v hv => by
    have e : v = .agg C.toArray := by simpa using hv
    rw [e]
    simpa [Value.cells] using hC) (by simp)
  rw [hz1]
  simpa [hx, Value.cells] using h9
theorem run_mk67 (c : Nat) (h : c ≤ 1000000) (w : World) : (Instr.makeSlice 67 (.int .i64 0) (.int .u64 c)).run Try.prog w = .ok (.slice (some ⟨w.heap.size, 0, none⟩) 0 c) (w.alloc (.cells (madeCells kdZ.toArray (c * 68)) 112)) := by
  obtain ⟨i0, hi, hz0, hz1, hz2⟩ := info_parts info155
  have := run_make (P := Try.prog) w 67 112 i0 _ Try.underlying67 hi hz0 .i64 .u64 0 c (by omega) (by omega) (by rw [hz2]; omega) (by omega)
  rw [this, hz1, Int.toNat_natCast]
  rfl

set_option maxRecDepth 100000 in
set_option maxHeartbeats 4000000 in
theorem many_any {w : World} {p : Nat} {tv : Value} {T : List Int} {a : Nat} {err : Int} (h : RS w p 193 tv T a err) (n : Nat) (hn : n ≤ 1000) :
    Calls Try.prog 114 #[.pointer (some ⟨p, 0, none⟩), .int .u64 n, .func (.func 115) #[] #[]] w fun e w' => ∃ v ks, e = .returned v ∧ ks.map Prod.fst = (manyS T n a err).1 ∧ ML w' v ks ∧ RP w w' p 193 tv T (manyS T n a err).2.1 (manyS T n a err).2.2 ∧ (∀ g, v.ownBlock = some g → w.heap.size ≤ g) ∧ ∀ k, k ∈ ks → ∀ g, k.2.ownBlock = some g → w.heap.size ≤ g := by
  have hle := h.le
  have hbig := h.big
  have A0 : Hid _ := At.start h
  have HL : Hid _ := rLeft_any h
  clear h
  have mk0 : ∀ (m1 c : Nat), c ≤ 1000000 → At w ((w.drewN m1).alloc (.cells (madeCells kdZ.toArray (c * 68)) 112)) p 193 tv T a err ∧ ML ((w.drewN m1).alloc (.cells (madeCells kdZ.toArray (c * 68)) 112)) (.slice (some ⟨w.heap.size, 0, none⟩) 0 c) [] := fun m1 c hc =>
    ⟨(A0.out.drewN m1).alloc _, ⟨World.ownsRow_made (w.drewN m1) _ c (Nat.zero_le _) (by unfold maxLen; omega) (by rw [size_madeCells]), (fun k hk => by cases hk), List.Pairwise.nil⟩⟩
  have MK0 : Hid _ := mk0
  clear mk0
  go_enter Try.func114, Try.ntmps114
  go_upto_region 1 with fail
  go_cut [7] from 9 (fun v wx => Hid (At w wx p 193 tv T a err ∧ ML wx v [] ∧ ∀ g, v.ownBlock = some g → w.heap.size ≤ g))
  case first =>
    by_cases hm : (n : Int) ≤ (T.length : Int) - a
    · have hmk := run_mk67 n (by omega)
      go_wp2_with (go_at_call 76; refine Calls.mono HL.out ?_; rintro e w1 ⟨rfl, m1, rfl⟩)
      go_meet
      case rel => exact ⟨(MK0.out m1 n (by omega)).1, (MK0.out m1 n (by omega)).2, fun g hg => by simp [Value.ownBlock] at hg; omega⟩
    · have hq : ((T.length : Int) - a) = ((T.length - a : Nat) : Int) := by omega
      have HQ : Hid _ := hq
      have hmk : ∀ w : World, (Instr.makeSlice 67 (.int .i64 0) (.int .u64 ((T.length : Int) - a))).run Try.prog w = .ok (.slice (some ⟨w.heap.size, 0, none⟩) 0 (T.length - a)) (w.alloc (.cells (madeCells kdZ.toArray ((T.length - a) * 68)) 112)) := by
        rw [hq]
        exact run_mk67 (T.length - a) (by omega)
      clear hq
      go_wp2_with (go_at_call 76; refine Calls.mono HL.out ?_; rintro e w1 ⟨rfl, m1, rfl⟩)
      go_meet
      case rel => exact ⟨(MK0.out m1 (T.length - a) (by omega)).1, (MK0.out m1 (T.length - a) (by omega)).2, fun g hg => by simp [Value.ownBlock] at hg; omega⟩
  case rest =>
    have H0 : Hid _ := hcut.out
    clear hcut MK0 HL A0
    go_wp2_with fail
    go_loopw [7, 8] (fun v i wr => ∃ (j : Nat) (ai : Nat) (ei : Int) (ks : List (KS × Value)), j ≤ n ∧ i = .int .u64 j ∧ Hid (At w wr p 193 tv T ai ei ∧ ML wr v ks ∧ ks.length = j ∧ manyS T n a err = (ks.map Prod.fst ++ (manyS T (n - j) ai ei).1, (manyS T (n - j) ai ei).2) ∧ (∀ g, v.ownBlock = some g → w.heap.size ≤ g) ∧ ∀ k, k ∈ ks → ∀ g, k.2.ownBlock = some g → w.heap.size ≤ g)) (fun _ i _ => n - (intOf i).toNat)
    case atStart => exact ⟨0, a, err, [], Nat.zero_le _, rfl, H0.out.1, H0.out.2.1, rfl, by simp, H0.out.2.2, fun k hk => by cases hk⟩
    case round =>
      obtain ⟨j, ai, ei, ks, hj, rfl, hid⟩ := hrel
      obtain ⟨at_, ml, hks, hms, hnv, hnk⟩ := hid.out
      have HE : Hid _ := rErr_any at_.rp.1
      have AT : Hid _ := at_
      have MLH : Hid _ := ml
      have HKS : Hid _ := hks
      have HMS : Hid _ := hms
      have HNV : Hid _ := hnv
      have HNK : Hid _ := hnk
      clear hid at_ ml hks hms hnv hnk
      by_cases hlt : j < n
      · by_cases he : ei = 0
        · subst he
          go_upto_region 5 with (go_at_call 78; refine Calls.mono HE.out ?_; rintro e w1 ⟨rfl, hw1⟩; subst hw1)
          clear HE
          go_wp2_with fail
          refine Calls.mono (kid_any AT.out.rp.1) ?_
          rintro e w2 ⟨s, rfl, h1, o2, r2, hs⟩
          obtain ⟨sa, sc, hsf⟩ := Own.form o2
          obtain ⟨kk, hkk⟩ : ∃ kk, kk = kidS T ai 0 := ⟨_, rfl⟩
          rw [← hkk] at o2 r2 hsf ⊢
          have hz : kk.z.length = 65 := by rw [hkk]; exact kidS_len _ _ _
          have ml2 : ML w2 u7 ks := MLH.out.kept r2.2 (fun g cur hg e => by
            have h9 := AT.out.rp.1.blk
            rw [e] at hg
            rw [h9] at hg
            injection hg with hg
            injection hg with _ hg
            exact absurd hg (by decide)) (fun g cur hg e => by
            have h9 := AT.out.rp.1.blk
            rw [e] at hg
            rw [h9] at hg
            injection hg with hg
            injection hg with _ hg
            exact absurd hg (by decide))
          obtain ⟨v', w3, hr3, ml3, k3, b3⟩ := ml2.add o2 h1 hz (by have := HKS.out; omega) 67 hs (fun q hq g hg => Own.lt (MLH.out.key q hq).1 hg)
          have at3 : At w w3 p 193 tv T kk.at_ kk.err := by
            have a2 := AT.out.call r2
            refine ⟨⟨a2.rp.1.keep2 k3 (fun e => ?_) (fun g hg => ?_), a2.rp.2.trans k3 (fun g e => .inr (HNV.out g e.symm))⟩, a2.plt, a2.tlt⟩
            · have := HNV.out p e.symm
              have := a2.plt
              omega
            · rcases a2.tlt g hg with e | e
              · exact .inl (fun e2 => by have := HNV.out g e2.symm; omega)
              · exact .inr e
          have s2 := AT.out.rp.2.size
          have FIN : Hid (At w w3 p 193 tv T kk.at_ kk.err ∧ ML w3 v' (ks ++ [(kk, s)]) ∧ (ks ++ [(kk, s)]).length = j + 1 ∧ manyS T n a err = ((ks ++ [(kk, s)]).map Prod.fst ++ (manyS T (n - (j + 1)) kk.at_ kk.err).1, (manyS T (n - (j + 1)) kk.at_ kk.err).2) ∧ (∀ g, v'.ownBlock = some g → w.heap.size ≤ g) ∧ ∀ k, k ∈ ks ++ [(kk, s)] → ∀ g, k.2.ownBlock = some g → w.heap.size ≤ g) := by
            refine ⟨at3, ml3, by rw [List.length_append, HKS.out]; rfl, ?_, fun g hg => ?_, fun q hq g hg => ?_⟩
            · rw [HMS.out, show n - j = (n - (j + 1)) + 1 by omega, manyS_step, ← hkk]
              simp
            · rcases b3 with e | ⟨q, e, hq⟩
              · exact HNV.out g (by rw [← e]; exact hg)
              · rw [hg] at e
                injection e with e
                have := r2.2.size
                omega
            · rcases List.mem_append.1 hq with hq | hq
              · exact HNK.out q hq g hg
              · have e : q = (kk, s) := by simpa using hq
                subst e
                have := hs g hg
                omega
          obtain ⟨ya, yc, hyf⟩ := ml3.form
          have HYF : Hid _ := hyf
          have HR3 : Hid _ := hr3
          have HSF : Hid _ := hsf
          rw [hsf]
          rw [hsf] at hr3
          have HR4 : Hid _ := hr3
          clear hr3 ml2 ml3 k3 b3 at3 s2 o2 r2 hs h1 hsf hyf hkk AT MLH HKS HMS HNV HNK
          have LC : (kdC kk.lv (.slice sa kk.kl.length sc) kk.ct kk.z).length = 68 := by rw [kdC_len, hz]
          rw [show v' = .slice ya (ks ++ [(kk, s)]).length yc from HYF.out] at HR4 FIN
          obtain ⟨ln, hln⟩ : ∃ ln, ln = (ks ++ [(kk, s)]).length := ⟨_, rfl⟩
          rw [← hln] at HR4 FIN
          have HLN : Hid _ := hln
          clear hln
          go_wp2_with (first | refine wpList_buildK rfl (.tmp 32) rfl (C := kdC kk.lv (.slice sa kk.kl.length sc) kk.ct kk.z) rfl LC ?_ | refine wpList_appK rfl (.tmp 29) (.tmp 33) rfl (v := u7) (u := .slice (some ⟨w2.heap.size, 0, none⟩) 1 1) (v' := .slice ya ln yc) (w' := w3) rfl rfl HR4.out ?_)
          go_roundw
          case rel => exact ⟨j + 1, _, _, ks ++ [(kk, s)], by omega, by go_num, FIN.out.1, FIN.out.2.1, HLN.out.symm.trans FIN.out.2.2.1, FIN.out.2.2.2⟩
          case measure => simp [intOf]; omega
        · have F : Hid (ks.map Prod.fst = (manyS T n a err).1 ∧ RP w wr p 193 tv T (manyS T n a err).2.1 (manyS T n a err).2.2) := by
            rw [HMS.out, manyS_err he, List.append_nil]
            exact ⟨rfl, AT.out.rp⟩
          go_wp2_with (go_at_call 78; refine Calls.mono HE.out ?_; rintro e w1 ⟨rfl, hw1⟩; subst hw1)
          go_ret
          exact ⟨u7, ks, rfl, F.out.1, MLH.out, F.out.2, HNV.out, HNK.out⟩
      · have hjn : j = n := by omega
        subst hjn
        have F : Hid (ks.map Prod.fst = (manyS T j a err).1 ∧ RP w wr p 193 tv T (manyS T j a err).2.1 (manyS T j a err).2.2) := by
          rw [HMS.out, Nat.sub_self]
          exact ⟨by simp [manyS], AT.out.rp⟩
        clear HE
        go_wp2_with fail
        go_ret
        exact ⟨u7, ks, rfl, F.out.1, MLH.out, F.out.2, HNV.out, HNK.out⟩
end Go.Proofs.Ytkchmoapcmageaa
