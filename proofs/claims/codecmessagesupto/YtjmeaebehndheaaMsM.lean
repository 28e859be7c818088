/-
  The reading of many sums, of many changes.
-/
import Derived.Test.YtjmeaebehndheaaMsC
import Derived.Test.YtjmeaebehndheaaPgL
namespace Go.Proofs.Ytjmeaebehndheaa
open Go.RowKit

def sumE (T : List Int) (a : Nat) (err : Int) : List Value × Nat × Int := (bs (pad 32 (pL T a err 32)), pA T a err 32, pE T a err 32)
theorem sumE_len (T : List Int) (a : Nat) (e : Int) : (sumE T a e).1.length = 32 := by
  unfold sumE
  simp only [bs, List.length_map]
  exact pad_len (pL_len T a e 32)
theorem sumE_one (T : List Int) (a : Nat) (e : Int) : ∀ u ∈ (sumE T a e).1, u.oneCell' = true := bs_one _
theorem rSumE_any {w : World} {p : Nat} {tv : Value} {T : List Int} {a : Nat} {err : Int} (h : RS w p 195 tv T a err) :
    Calls Try.prog 70 #[.pointer (some ⟨p, 0, none⟩)] w fun e w' => e = .returned (.agg (sumE T a err).1.toArray) ∧ RP w w' p 195 tv T (sumE T a err).2.1 (sumE T a err).2.2 := rSum_any h
theorem infoS31 : (Try.prog.info? 31).map (fun i => (i.zero, i.size, i.bytes)) = some (some (.agg (bs (List.replicate 32 0)).toArray), 32, 32) := by kernel_rfl

set_option maxRecDepth 100000 in
set_option maxHeartbeats 4000000 in
theorem manySum_any {w : World} {p : Nat} {tv : Value} {T : List Int} {a : Nat} {err : Int} (h : RS w p 195 tv T a err) (n : Nat) (hn : n ≤ 128) :
    Calls Try.prog 118 #[.pointer (some ⟨p, 0, none⟩), .int .u64 n, .func (.methodOf 138 "Sum") #[] #[]] w fun e w' => ∃ v, e = .returned v ∧ GL w' v 31 32 (manyE sumE T n a err).1 ∧ RP w w' p 195 tv T (manyE sumE T n a err).2.1 (manyE sumE T n a err).2.2 ∧ (∀ g, v.ownBlock = some g → w.heap.size ≤ g) := by
  have hle := h.le
  have hbig := h.big
  have A0 : Hid _ := At.start h
  have HL : Hid _ := rLeft_any h
  clear h
  have mk0 : ∀ (m1 c : Nat), c ≤ 40000 → At w ((w.drewN m1).alloc (.cells (madeCells (Value.agg (bs (List.replicate 32 0)).toArray).cells (c * 32)) 31)) p 195 tv T a err ∧ GL ((w.drewN m1).alloc (.cells (madeCells (Value.agg (bs (List.replicate 32 0)).toArray).cells (c * 32)) 31)) (.slice (some ⟨w.heap.size, 0, none⟩) 0 c) 31 32 [] := fun m1 c hc =>
    ⟨(A0.out.drewN m1).alloc _, GL.made (w.drewN m1) _ c (by rw [size_madeCells]) (by omega)⟩
  have MK0 : Hid _ := mk0
  clear mk0
  go_enter Try.func118, Try.ntmps118
  go_upto_region 1 with fail
  go_cut [7] from 9 (fun v wx => Hid (At w wx p 195 tv T a err ∧ GL wx v 31 32 [] ∧ ∀ g, v.ownBlock = some g → w.heap.size ≤ g))
  case first =>
    by_cases hm : (n : Int) ≤ (T.length : Int) - a
    · have hmk := run_mkG (sl := 92) Try.underlying92 infoS31 n (by omega) (by omega)
      go_wp2_with (go_at_call 76; refine Calls.mono HL.out ?_; rintro e w1 ⟨rfl, m1, rfl⟩)
      go_meet
      case rel => exact ⟨(MK0.out m1 n (by omega)).1, (MK0.out m1 n (by omega)).2, fun g hg => by simp [Value.ownBlock] at hg; omega⟩
    · have hq : ((T.length : Int) - a) = ((T.length - a : Nat) : Int) := by omega
      have hmk : ∀ w : World, (Instr.makeSlice 92 (.int .i64 0) (.int .u64 ((T.length : Int) - a))).run Try.prog w = .ok (.slice (some ⟨w.heap.size, 0, none⟩) 0 (T.length - a)) (w.alloc (.cells (madeCells (Value.agg (bs (List.replicate 32 0)).toArray).cells ((T.length - a) * 32)) 31)) := by
        rw [hq]
        exact run_mkG (sl := 92) Try.underlying92 infoS31 (T.length - a) (by omega) (by omega)
      clear hq
      go_wp2_with (go_at_call 76; refine Calls.mono HL.out ?_; rintro e w1 ⟨rfl, m1, rfl⟩)
      go_meet
      case rel => exact ⟨(MK0.out m1 (T.length - a) (by omega)).1, (MK0.out m1 (T.length - a) (by omega)).2, fun g hg => by simp [Value.ownBlock] at hg; omega⟩
  case rest =>
    have H0 : Hid _ := hcut.out
    clear hcut MK0 HL A0
    go_wp2_with fail
    go_loopw [7, 8] (fun v i wr => ∃ (j : Nat) (ai : Nat) (ei : Int) (L : List (List Value)), j ≤ n ∧ i = .int .u64 j ∧ Hid (At w wr p 195 tv T ai ei ∧ GL wr v 31 32 L ∧ L.length = j ∧ manyE sumE T n a err = (L ++ (manyE sumE T (n - j) ai ei).1, (manyE sumE T (n - j) ai ei).2) ∧ (∀ g, v.ownBlock = some g → w.heap.size ≤ g))) (fun _ i _ => n - (intOf i).toNat)
    case atStart => exact ⟨0, a, err, [], Nat.zero_le _, rfl, H0.out.1, H0.out.2.1, rfl, by simp, H0.out.2.2⟩
    case round =>
      obtain ⟨j, ai, ei, L, hj, rfl, hid⟩ := hrel
      obtain ⟨at_, ml, hks, hms, hnv⟩ := hid.out
      have HE : Hid _ := rErr_any at_.rp.1
      have AT : Hid _ := at_
      have MLH : Hid _ := ml
      have HKS : Hid _ := hks
      have HMS : Hid _ := hms
      have HNV : Hid _ := hnv
      clear hid at_ ml hks hms hnv
      by_cases hlt : j < n
      · by_cases he : ei = 0
        · subst he
          go_upto_region 5 with (go_at_call 78; refine Calls.mono HE.out ?_; rintro e w1 ⟨rfl, hw1⟩; subst hw1)
          clear HE
          go_wp2_with fail
          refine Calls.mono (rSumE_any AT.out.rp.1) ?_
          rintro e w2 ⟨rfl, r2⟩
          obtain ⟨kk, hkk⟩ : ∃ kk, kk = sumE T ai 0 := ⟨_, rfl⟩
          rw [← hkk] at r2 ⊢
          have hz : kk.1.length = 32 := by rw [hkk]; exact sumE_len T ai 0
          have hon : ∀ u ∈ kk.1, u.oneCell' = true := by rw [hkk]; exact sumE_one T ai 0
          have ml2 : GL w2 u7 31 32 L := MLH.out.kept r2.2 (fun g cur _ hg e => by
            have h9 := AT.out.rp.1.blk
            rw [e] at hg
            rw [h9] at hg
            injection hg with hg
            injection hg with _ hg
            exact absurd hg (by decide))
          obtain ⟨v', w3, hr3, ml3, k3, b3⟩ := ml2.add (sl := 92) Try.underlying92 infoS31 (by kernel_rfl) (by decide) hz hon (by have := HKS.out; omega) (by have := HKS.out; omega) 92
          have at3 : At w w3 p 195 tv T kk.2.1 kk.2.2 := by
            have a2 := AT.out.call r2
            refine ⟨⟨a2.rp.1.keep2 k3 (fun e => ?_) (fun g hg => ?_), a2.rp.2.trans k3 (fun g e => .inr (HNV.out g e.symm))⟩, a2.plt, a2.tlt⟩
            · have := HNV.out p e.symm
              have := a2.plt
              omega
            · rcases a2.tlt g hg with e | e
              · exact .inl (fun e2 => by have := HNV.out g e2.symm; omega)
              · exact .inr e
          have FIN : Hid (At w w3 p 195 tv T kk.2.1 kk.2.2 ∧ GL w3 v' 31 32 (L ++ [kk.1]) ∧ (L ++ [kk.1]).length = j + 1 ∧ manyE sumE T n a err = ((L ++ [kk.1]) ++ (manyE sumE T (n - (j + 1)) kk.2.1 kk.2.2).1, (manyE sumE T (n - (j + 1)) kk.2.1 kk.2.2).2) ∧ (∀ g, v'.ownBlock = some g → w.heap.size ≤ g)) := by
            refine ⟨at3, ml3, by rw [List.length_append, HKS.out]; rfl, ?_, fun g hg => ?_⟩
            · rw [HMS.out, show n - j = (n - (j + 1)) + 1 by omega, manyE_step, ← hkk]
              simp
            · rcases b3 with e | ⟨q, e, hq⟩
              · exact HNV.out g (by rw [← e]; exact hg)
              · rw [hg] at e
                injection e with e
                have := r2.2.size
                have := AT.out.rp.2.size
                omega
          obtain ⟨ya, yc, hyf⟩ := ml3.form
          have HYF : Hid _ := hyf
          have HR4 : Hid _ := hr3
          clear hr3 ml2 ml3 k3 b3 at3 r2 hyf hkk AT MLH HKS HMS HNV hon
          rw [show v' = .slice ya (L ++ [kk.1]).length yc from HYF.out] at HR4 FIN
          obtain ⟨ln, hln⟩ : ∃ ln, ln = (L ++ [kk.1]).length := ⟨_, rfl⟩
          rw [← hln] at HR4 FIN
          have HLN : Hid _ := hln
          clear hln
          obtain ⟨kc, hkc⟩ : ∃ kc, kc = kk.1 := ⟨_, rfl⟩
          rw [← hkc] at hz HR4 FIN HLN HYF ⊢
          clear hkc
          go_wp2_with (first | refine wpList_buildG (sl := 92) Try.underlying92 infoS31 (by decide) (by decide) rfl (.tmp 32) rfl (C := kc) rfl hz ?_ | refine wpList_appG (sl := 92) rfl (.tmp 29) (.tmp 33) rfl (v := u7) (u := .slice (some ⟨w2.heap.size, 0, none⟩) 1 1) (v' := .slice ya ln yc) (w' := w3) rfl rfl HR4.out ?_)
          go_roundw
          case rel => exact ⟨j + 1, _, _, L ++ [kc], by omega, by go_num, FIN.out.1, FIN.out.2.1, HLN.out.symm.trans FIN.out.2.2.1, FIN.out.2.2.2⟩
          case measure => simp [intOf]; omega
        · have F : Hid (L = (manyE sumE T n a err).1 ∧ RP w wr p 195 tv T (manyE sumE T n a err).2.1 (manyE sumE T n a err).2.2) := by
            rw [HMS.out, manyE_err he, List.append_nil]
            exact ⟨rfl, AT.out.rp⟩
          go_wp2_with (go_at_call 78; refine Calls.mono HE.out ?_; rintro e w1 ⟨rfl, hw1⟩; subst hw1)
          go_ret
          exact ⟨u7, rfl, by rw [← F.out.1]; exact MLH.out, F.out.2, HNV.out⟩
      · have hjn : j = n := by omega
        subst hjn
        have F : Hid (L = (manyE sumE T j a err).1 ∧ RP w wr p 195 tv T (manyE sumE T j a err).2.1 (manyE sumE T j a err).2.2) := by
          rw [HMS.out, Nat.sub_self]
          exact ⟨by simp [manyE], AT.out.rp⟩
        clear HE
        go_wp2_with fail
        go_ret
        exact ⟨u7, rfl, by rw [← F.out.1]; exact MLH.out, F.out.2, HNV.out⟩


/-- What reading n changes gives. -/
def manyC (T : List Int) : Nat → Nat → Int → List ChS × Nat × Int
  | 0, a, err => ([], a, err)
  | n + 1, a, err => if err = 0 then ((chS T a err) :: (manyC T n (chS T a err).at_ (chS T a err).err).1, (manyC T n (chS T a err).at_ (chS T a err).err).2) else ([], a, err)
theorem manyC_err {T : List Int} {n a : Nat} {err : Int} (h : ¬ err = 0) : manyC T n a err = ([], a, err) := by
  cases n with
  | zero => rfl
  | succ n => simp [manyC, h]
theorem manyC_step {T : List Int} {n a : Nat} : manyC T (n + 1) a 0 = ((chS T a 0) :: (manyC T n (chS T a 0).at_ (chS T a 0).err).1, (manyC T n (chS T a 0).at_ (chS T a 0).err).2) := by simp [manyC]
/-- Changes in a list of their own, each with its texts. -/
abbrev ChV := ChS × Value × Value × Value
def ccOf (o : ChV) : List Value := chC o.2.1 o.1.had o.2.2.1 o.1.has o.2.2.2
/-- The block g is one of a change's texts. -/
def cB (o : ChV) (g : Nat) : Prop := o.2.1.ownBlock = some g ∨ o.2.2.1.ownBlock = some g ∨ o.2.2.2.ownBlock = some g
structure CM (w : World) (v : Value) (L : List ChV) : Prop where
  gl : GL w v 112 5 (L.map ccOf)
  ap : L.Pairwise (fun a b => ∀ g, cB a g → ¬ cB b g)
  one : ∀ o, o ∈ L → Ap3 0 o.2.1 o.2.2.1 o.2.2.2
  own : ∀ o, o ∈ L → Own w o.2.1 o.1.kl ∧ Own w o.2.2.1 o.1.ol ∧ Own w o.2.2.2 o.1.nl
theorem CM.kept {w w' : World} {v : Value} {L : List ChV} (h : CM w v L) {S : Nat → Prop} (c : Chg S w w') (hS : ∀ g cur t, S g → w.heap[g]? = some (.cells cur t (0, 0)) → t ≠ 112 ∧ t ≠ 5) : CM w' v L := by
  have k5 : ∀ {u : Value} {l : List Int}, Own w u l → Own w' u l := fun a => a.kept c (fun g hg e => by
    obtain ⟨cur, hc⟩ := own_block5 a hg
    exact (hS g cur 5 e hc).2 rfl)
  exact ⟨h.gl.kept c (fun g cur _ hg e => (hS g cur 112 e hg).1 rfl), h.ap, h.one, fun o ho => ⟨k5 (h.own o ho).1, k5 (h.own o ho).2.1, k5 (h.own o ho).2.2⟩⟩
theorem CM.form {w : World} {v : Value} {L : List ChV} (h : CM w v L) : ∃ a c, v = .slice a L.length c := by
  obtain ⟨a, c, e⟩ := h.gl.form
  rw [List.length_map] at e
  exact ⟨a, c, e⟩
theorem info215 : (Try.prog.info? 112).map (fun i => (i.zero, i.size, i.bytes)) = some (some (.agg (chC (.slice none 0 0) false (.slice none 0 0) false (.slice none 0 0)).toArray), 5, 88) := by kernel_rfl
/-- One change more. -/
theorem CM.add {w : World} {v : Value} {L : List ChV} (h : CM w v L) {o : ChV} (h1 : Own w o.2.1 o.1.kl) (h2 : Own w o.2.2.1 o.1.ol) (h3 : Own w o.2.2.2 o.1.nl) (hb : L.length + 1 ≤ 5000000) {C : Nat} (ha : Ap3 C o.2.1 o.2.2.1 o.2.2.2) (hC : ∀ q, q ∈ L → ∀ g, cB q g → g < C) :
    ∃ v' w', (Builtin.append_ #[93, 93] 93 #[v, .slice (some ⟨w.heap.size, 0, none⟩) 1 1]).run Try.prog (w.alloc (.cells (ccOf o).toArray 112)) = .ok v' w' ∧ CM w' v' (L ++ [o]) ∧ Chg (fun g => some g = v.ownBlock) w w' ∧ (v'.ownBlock = v.ownBlock ∨ ∃ q, v'.ownBlock = some q ∧ w.heap.size ≤ q) := by
  obtain ⟨v', w', r, gl, c, bb⟩ := h.gl.add (sl := 93) (C := ccOf o) Try.underlying93 info215 (by kernel_rfl) (by decide) rfl (chC_one h1.one h2.one h3.one _ _) (by rw [List.length_map]; omega) (by rw [List.length_map]; omega) 93
  have no5 : ∀ {u : Value} {l : List Int}, Own w u l → Own w' u l := fun ho => ho.kept c (fun g hg e => by
    obtain ⟨_, e1⟩ := own_block5 ho hg
    obtain ⟨_, e2⟩ := h.gl.blk e.symm
    rw [e1] at e2
    injection e2 with e2
    injection e2 with _ e2
    exact absurd e2 (by decide))
  refine ⟨v', w', r, ⟨by rw [List.map_append]; exact gl, ?_, fun q hq => ?_, fun q hq => ?_⟩, c, bb⟩
  · rw [List.pairwise_append]
    refine ⟨h.ap, List.pairwise_singleton _ _, fun x hx y hy g hg hg2 => ?_⟩
    have e : y = o := by simpa using hy
    subst e
    have := hC x hx g hg
    have := ha.ge g hg2
    omega
  · rcases List.mem_append.1 hq with hq | hq
    · exact h.one q hq
    · have e : q = o := by simpa using hq
      subst e
      exact ⟨fun _ _ => Nat.zero_le _, ha.k1, ha.k2, ha.o1⟩
  rcases List.mem_append.1 hq with hq | hq
  · exact ⟨no5 (h.own q hq).1, no5 (h.own q hq).2.1, no5 (h.own q hq).2.2⟩
  · have e : q = o := by simpa using hq
    subst e
    exact ⟨no5 h1, no5 h2, no5 h3⟩

set_option maxRecDepth 100000 in
set_option maxHeartbeats 4000000 in
theorem manyChange_any {w : World} {p : Nat} {tv : Value} {T : List Int} {a : Nat} {err : Int} (h : RS w p 195 tv T a err) (n : Nat) (hn : n ≤ 4194304) :
    Calls Try.prog 119 #[.pointer (some ⟨p, 0, none⟩), .int .u64 n, .func (.func 120) #[] #[]] w fun e w' => ∃ v L, e = .returned v ∧ L.map Prod.fst = (manyC T n a err).1 ∧ CM w' v L ∧ RP w w' p 195 tv T (manyC T n a err).2.1 (manyC T n a err).2.2 ∧ (∀ g, v.ownBlock = some g → w.heap.size ≤ g) ∧ (∀ o, o ∈ L → ∀ g, cB o g → w.heap.size ≤ g) := by
  have hle := h.le
  have hbig := h.big
  have A0 : Hid _ := At.start h
  have HL : Hid _ := rLeft_any h
  clear h
  have mk0 : ∀ (m1 c : Nat), c ≤ 4194304 → At w ((w.drewN m1).alloc (.cells (madeCells (Value.agg (chC (.slice none 0 0) false (.slice none 0 0) false (.slice none 0 0)).toArray).cells (c * 5)) 112)) p 195 tv T a err ∧ CM ((w.drewN m1).alloc (.cells (madeCells (Value.agg (chC (.slice none 0 0) false (.slice none 0 0) false (.slice none 0 0)).toArray).cells (c * 5)) 112)) (.slice (some ⟨w.heap.size, 0, none⟩) 0 c) [] := fun m1 c hc =>
    ⟨(A0.out.drewN m1).alloc _, ⟨GL.made (w.drewN m1) _ c (by rw [size_madeCells]) (by omega), List.Pairwise.nil, (fun k hk => by cases hk), (fun k hk => by cases hk)⟩⟩
  have MK0 : Hid _ := mk0
  clear mk0
  go_enter Try.func119, Try.ntmps119
  go_upto_region 1 with fail
  go_cut [7] from 9 (fun v wx => Hid (At w wx p 195 tv T a err ∧ CM wx v [] ∧ ∀ g, v.ownBlock = some g → w.heap.size ≤ g))
  case first =>
    by_cases hm : (n : Int) ≤ (T.length : Int) - a
    · have hmk := run_mkG (sl := 93) Try.underlying93 info215 n (by omega) (by omega)
      go_wp2_with (go_at_call 76; refine Calls.mono HL.out ?_; rintro e w1 ⟨rfl, m1, rfl⟩)
      go_meet
      case rel => exact ⟨(MK0.out m1 n (by omega)).1, (MK0.out m1 n (by omega)).2, fun g hg => by simp [Value.ownBlock] at hg; omega⟩
    · have hq : ((T.length : Int) - a) = ((T.length - a : Nat) : Int) := by omega
      have hmk : ∀ w : World, (Instr.makeSlice 93 (.int .i64 0) (.int .u64 ((T.length : Int) - a))).run Try.prog w = .ok (.slice (some ⟨w.heap.size, 0, none⟩) 0 (T.length - a)) (w.alloc (.cells (madeCells (Value.agg (chC (.slice none 0 0) false (.slice none 0 0) false (.slice none 0 0)).toArray).cells ((T.length - a) * 5)) 112)) := by
        rw [hq]
        exact run_mkG (sl := 93) Try.underlying93 info215 (T.length - a) (by omega) (by omega)
      clear hq
      go_wp2_with (go_at_call 76; refine Calls.mono HL.out ?_; rintro e w1 ⟨rfl, m1, rfl⟩)
      go_meet
      case rel => exact ⟨(MK0.out m1 (T.length - a) (by omega)).1, (MK0.out m1 (T.length - a) (by omega)).2, fun g hg => by simp [Value.ownBlock] at hg; omega⟩
  case rest =>
    have H0 : Hid _ := hcut.out
    clear hcut MK0 HL A0
    go_wp2_with fail
    go_loopw [7, 8] (fun v i wr => ∃ (j : Nat) (ai : Nat) (ei : Int) (L : List ChV), j ≤ n ∧ i = .int .u64 j ∧ Hid (At w wr p 195 tv T ai ei ∧ CM wr v L ∧ L.length = j ∧ manyC T n a err = (L.map Prod.fst ++ (manyC T (n - j) ai ei).1, (manyC T (n - j) ai ei).2) ∧ (∀ g, v.ownBlock = some g → w.heap.size ≤ g) ∧ (∀ o, o ∈ L → ∀ g, cB o g → w.heap.size ≤ g))) (fun _ i _ => n - (intOf i).toNat)
    case atStart => exact ⟨0, a, err, [], Nat.zero_le _, rfl, H0.out.1, H0.out.2.1, rfl, by simp, H0.out.2.2, fun o ho => by cases ho⟩
    case round =>
      obtain ⟨j, ai, ei, L, hj, rfl, hid⟩ := hrel
      obtain ⟨at_, ml, hks, hms, hnv, hnt⟩ := hid.out
      have HNT : Hid _ := hnt
      have HE : Hid _ := rErr_any at_.rp.1
      have AT : Hid _ := at_
      have MLH : Hid _ := ml
      have HKS : Hid _ := hks
      have HMS : Hid _ := hms
      have HNV : Hid _ := hnv
      clear hid at_ ml hks hms hnv hnt
      by_cases hlt : j < n
      · by_cases he : ei = 0
        · subst he
          go_upto_region 5 with (go_at_call 78; refine Calls.mono HE.out ?_; rintro e w1 ⟨rfl, hw1⟩; subst hw1)
          clear HE
          go_wp2_with fail
          refine Calls.mono (change_any AT.out.rp.1) ?_
          intro e w2 hq
          obtain ⟨s1, s2, s3, rfl, o1, o2, o3, r2, a3⟩ := hq.ex
          obtain ⟨o, ho⟩ : ∃ o : ChV, o = (chS T ai 0, s1, s2, s3) := ⟨_, rfl⟩
          rw [show chC s1 (chS T ai 0).had s2 (chS T ai 0).has s3 = ccOf o by rw [ho]; rfl]
          obtain ⟨aj, haj⟩ : ∃ aj, aj = (chS T ai 0).at_ := ⟨_, rfl⟩
          obtain ⟨ej, hej⟩ : ∃ ej, ej = (chS T ai 0).err := ⟨_, rfl⟩
          rw [← haj, ← hej] at r2
          have ml2 : CM w2 u7 L := MLH.out.kept r2.2 (fun g cur t e hg => by
            have h9 := AT.out.rp.1.blk
            rw [e] at hg
            rw [h9] at hg
            injection hg with hg
            injection hg with _ hg
            rw [← hg]
            decide)
          obtain ⟨v', w3, hr3, ml3, k3, b3⟩ := ml2.add (o := o) (by rw [ho]; exact o1) (by rw [ho]; exact o2) (by rw [ho]; exact o3) (by have := HKS.out; omega) (C := w1.heap.size) (by rw [ho]; exact a3) (fun q hq' g hg => by
            have k := MLH.out.own q hq'
            rcases hg with e | e | e
            · exact k.1.lt e
            · exact k.2.1.lt e
            · exact k.2.2.lt e)
          have at3 : At w w3 p 195 tv T aj ej := by
            have a2 := AT.out.call r2
            refine ⟨⟨a2.rp.1.keep2 k3 (fun e => ?_) (fun g hg => ?_), a2.rp.2.trans k3 (fun g e => .inr (HNV.out g e.symm))⟩, a2.plt, a2.tlt⟩
            · have := HNV.out p e.symm
              have := a2.plt
              omega
            · rcases a2.tlt g hg with e | e
              · exact .inl (fun e2 => by have := HNV.out g e2.symm; omega)
              · exact .inr e
          obtain ⟨kc, hkc⟩ : ∃ kc, kc = ccOf o := ⟨_, rfl⟩
          have FIN : Hid (At w w3 p 195 tv T aj ej ∧ CM w3 v' (L ++ [o]) ∧ (L ++ [o]).length = j + 1 ∧ manyC T n a err = ((L ++ [o]).map Prod.fst ++ (manyC T (n - (j + 1)) aj ej).1, (manyC T (n - (j + 1)) aj ej).2) ∧ (∀ g, v'.ownBlock = some g → w.heap.size ≤ g) ∧ (∀ q, q ∈ L ++ [o] → ∀ g, cB q g → w.heap.size ≤ g)) := by
            refine ⟨at3, ml3, by rw [List.length_append, HKS.out]; rfl, ?_, fun g hg => ?_, fun q hq' g hg => ?_⟩
            · rw [HMS.out, show n - j = (n - (j + 1)) + 1 by omega, manyC_step, haj, hej, ho]
              simp
            · rcases b3 with e | ⟨q, e, hq⟩
              · exact HNV.out g (by rw [← e]; exact hg)
              · rw [hg] at e
                injection e with e
                have := r2.2.size
                have := AT.out.rp.2.size
                omega
            · rcases List.mem_append.1 hq' with hq' | hq'
              · exact HNT.out q hq' g hg
              · have e : q = o := by simpa using hq'
                rw [e, ho] at hg
                exact Nat.le_trans AT.out.rp.2.size (a3.ge g hg)
          obtain ⟨ya, yc, hyf⟩ := ml3.form
          obtain ⟨ln, hln⟩ : ∃ ln, ln = (L ++ [o]).length := ⟨_, rfl⟩
          rw [← hln] at hyf
          subst hyf
          rw [← hkc] at hr3 ⊢
          have hz : kc.length = 5 := by rw [hkc]; rfl
          have HR4 : Hid _ := hr3
          clear hr3 ml2 ml3 k3 b3 at3 r2 AT MLH HKS HMS HNV HNT hq o1 o2 o3 a3 ho haj hej hkc hln
          go_wp2_with (first | refine wpList_buildG (sl := 93) Try.underlying93 info215 (by decide) (by decide) rfl (.tmp 32) rfl (C := kc) rfl hz ?_ | refine wpList_appG (sl := 93) rfl (.tmp 29) (.tmp 33) rfl (v := u7) (u := .slice (some ⟨w2.heap.size, 0, none⟩) 1 1) (v' := .slice ya ln yc) (w' := w3) rfl rfl HR4.out ?_)
          go_roundw
          case rel => exact ⟨j + 1, _, _, L ++ [o], by omega, by go_num, FIN.out⟩
          case measure => simp [intOf]; omega
        · have F : Hid (L.map Prod.fst = (manyC T n a err).1 ∧ RP w wr p 195 tv T (manyC T n a err).2.1 (manyC T n a err).2.2) := by
            rw [HMS.out, manyC_err he, List.append_nil]
            exact ⟨rfl, AT.out.rp⟩
          go_wp2_with (go_at_call 78; refine Calls.mono HE.out ?_; rintro e w1 ⟨rfl, hw1⟩; subst hw1)
          go_ret
          exact ⟨u7, L, rfl, F.out.1, MLH.out, F.out.2, HNV.out, HNT.out⟩
      · have hjn : j = n := by omega
        subst hjn
        have F : Hid (L.map Prod.fst = (manyC T j a err).1 ∧ RP w wr p 195 tv T (manyC T j a err).2.1 (manyC T j a err).2.2) := by
          rw [HMS.out, Nat.sub_self]
          exact ⟨by simp [manyC], AT.out.rp⟩
        clear HE
        go_wp2_with fail
        go_ret
        exact ⟨u7, L, rfl, F.out.1, MLH.out, F.out.2, HNV.out, HNT.out⟩

end Go.Proofs.Ytjmeaebehndheaa
