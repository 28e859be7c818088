/-
  CodecApart: what its walk leans on.
-/
import Derived.Test.YtdofgphokdgjiaaMsF
import Derived.Test.YtdofgphokdgjiaaMsV
import Derived.Test.YtdofgphokdgjiaaMsB
namespace Go.Proofs.Ytdofgphokdgjiaa
open Go.RowKit

/-- A text read as a message. -/
structure RdM (w w' : World) (T : List Int) (e : Ending) : Prop where
  ex : ∃ C E, e = .returned (.tuple #[.agg C.toArray, .int .i64 E]) ∧ Below w.heap.size w w' ∧ (C.length = 76 ∧ ∀ u ∈ C, u.oneCell' = true) ∧ (E = 0 → msgE T = 0 ∧ T.length ≤ 8388608 ∧ MsIs w' (msgS T 0 0) C) ∧ (T.length ≤ 8388608 → msgE T = 0 → E = 0)
theorem msgRead_any {w : World} {s : Value} {T : List Int} (h : In w s T) : Calls Try.prog 32 #[s] w fun e w' => RdM w w' T e := by
  by_cases hT : T.length ≤ 8388608
  · refine Calls.mono (msgCode_any h hT) ?_
    rintro e w' ⟨C, rfl, b, hc, ti⟩
    exact ⟨C, msgE T, rfl, b, ⟨hc.1.trans msZ_len, hc.2⟩, fun e => ⟨e, hT, ti e⟩, fun _ e => e⟩
  · refine Calls.mono (msgLong_any h (by omega)) ?_
    rintro e w' ⟨rfl, b⟩
    exact ⟨msZ, 21, rfl, b, ⟨msZ_len, msZ_one⟩, fun e => absurd e (by decide), fun e => absurd e hT⟩
/-- A text read as a proof. -/
structure RdP (w w' : World) (T : List Int) (e : Ending) : Prop where
  ex : ∃ C E, e = .returned (.tuple #[.agg C.toArray, .int .i64 E]) ∧ Below w.heap.size w w' ∧ (C.length = 2 ∧ ∀ u ∈ C, u.oneCell' = true) ∧ (E = 0 → proofE T = 0 ∧ T.length ≤ 4194304 ∧ PrIs w' w.heap.size (proofS T 0 0) C)
theorem proofRead_any {w : World} {s : Value} {T : List Int} (h : In w s T) : Calls Try.prog 35 #[s] w fun e w' => RdP w w' T e := by
  by_cases hT : T.length ≤ 4194304
  · refine Calls.mono (proofCode_any h hT) ?_
    rintro e w' ⟨C, rfl, b, hc, ti⟩
    exact ⟨C, proofE T, rfl, b, hc, fun e => ⟨e, hT, ti e⟩⟩
  · refine Calls.mono (proofLong_any h (by omega)) ?_
    rintro e w' ⟨rfl, b⟩
    exact ⟨prZ, 21, rfl, b, ⟨rfl, prZ_one⟩, fun e => absurd e (by decide)⟩
theorem manyE_le {one : List Int → Nat → Int → List Value × Nat × Int} {T : List Int} : ∀ (n a : Nat) (e : Int), (manyE one T n a e).1.length ≤ n
  | 0, _, _ => Nat.le_refl _
  | n + 1, a, e => by
    rw [manyE]
    split
    · have := manyE_le (one := one) (T := T) n (one T a e).2.1 (one T a e).2.2
      simp only [List.length_cons]
      omega
    · exact Nat.zero_le _
theorem manyC_le {T : List Int} : ∀ (n a : Nat) (e : Int), (manyC T n a e).1.length ≤ n
  | 0, _, _ => Nat.le_refl _
  | n + 1, a, e => by
    rw [manyC]
    split
    · have := manyC_le (T := T) n (chS T a e).at_ (chS T a e).err
      simp only [List.length_cons]
      omega
    · exact Nat.zero_le _
theorem sums_nil : Sums [] := fun _ h => by cases h
theorem msgS_bounds (T : List Int) (a : Nat) (e : Int) : Sums (msgS T a e).pa ∧ (msgS T a e).pa.length ≤ 8388608 ∧ (msgS T a e).ch.length ≤ 8388608 := by
  have z : Sums [] ∧ ([] : List (List Value)).length ≤ 8388608 ∧ ([] : List ChS).length ≤ 8388608 := ⟨sums_nil, by simp, by simp⟩
  unfold msgS
  simp only
  split
  · exact z
  split
  · exact z
  split
  · exact z
  split
  · exact z
  split
  · exact z
  split
  · exact z
  split
  · exact z
  split
  · refine ⟨sums_many _ _ _ _, ?_, by simp⟩
    have h1 := manyE_le (one := sumE) (T := T) (uintS T (pA T a e 1) (pE T a e 1) 128).1 (uintS T (pA T a e 1) (pE T a e 1) 128).2.1 (uintS T (pA T a e 1) (pE T a e 1) 128).2.2
    have h2 := uintS_most T (pA T a e 1) (pE T a e 1) 128
    show (manyE sumE T _ _ _).1.length ≤ _
    omega
  split
  · refine ⟨sums_nil, by simp, ?_⟩
    have h1 := manyC_le (T := T) (uintS T (pA T a e 1) (pE T a e 1) 4194304).1 (uintS T (pA T a e 1) (pE T a e 1) 4194304).2.1 (uintS T (pA T a e 1) (pE T a e 1) 4194304).2.2
    have h2 := uintS_most T (pA T a e 1) (pE T a e 1) 4194304
    show (manyC T _ _ _).1.length ≤ _
    omega
  split
  · exact z
  · exact z
theorem proofS_len (T : List Int) : (proofS T 0 0).ops.length ≤ T.length := by
  unfold proofS
  simp only
  split
  · exact Nat.le_trans (opsL_len _ _ _ _) (Nat.sub_le _ _)
  · exact Nat.zero_le _
theorem msgB_dat {S1 S2 : MsS} (h : S1.dat = S2.dat) : msgB S1 = msgB S2 := by
  simp only [MsS.dat, Prod.mk.injEq] at h
  obtain ⟨⟨h1, h2, h3, ⟨h4, h5⟩, h6, h7, h8⟩, ⟨h9, h10, h11⟩, h12, h13, h14⟩ := h
  have e1 : S1.ch.length = S2.ch.length := by
    have := congrArg List.length h14
    simpa using this
  have e2 : S1.ch.map (fun c => chB c.dt) = S2.ch.map (fun c => chB c.dt) := by
    have := congrArg (List.map chB) h14
    simpa [List.map_map, Function.comp_def, ChS.dt, ChS.dat] using this
  unfold msgB
  rw [h1, h2, h3, h4, h5, h6, h7, h8, h9, h10, h11, h12, h13, e1, e2]
/-- Two texts that are taken are one text just if they say the same. -/
theorem msg_same {T1 T2 : List Int} (b1 : Byts T1) (b2 : Byts T2) (h1 : msgE T1 = 0) (h2 : msgE T2 = 0) : (msgS T1 0 0).dat = (msgS T2 0 0).dat ↔ T1 = T2 :=
  ⟨fun h => by rw [msg_whole b1 h1, msg_whole b2 h2]; exact msgB_dat h, fun h => by rw [h]⟩
def opB (d : Nat × Nat × List Int × Nat × List Int × List Int) : List Int := OpS.bytes ⟨d.1, d.2.1, d.2.2.1, d.2.2.2.1, d.2.2.2.2.1, d.2.2.2.2.2, 0, 0⟩
theorem proof_same {T1 T2 : List Int} (b1 : Byts T1) (b2 : Byts T2) (h1 : proofE T1 = 0) (h2 : proofE T2 = 0) : ((proofS T1 0 0).ct = (proofS T2 0 0).ct ∧ (proofS T1 0 0).ops.map OpS.dat = (proofS T2 0 0).ops.map OpS.dat) ↔ T1 = T2 := by
  constructor
  · rintro ⟨e1, e2⟩
    have q : (proofS T1 0 0).ops.map OpS.bytes = (proofS T2 0 0).ops.map OpS.bytes := by
      have := congrArg (List.map opB) e2
      rw [List.map_map, List.map_map] at this
      exact this
    rw [proof_form b1 h1, proof_form b2 h2]
    unfold proofB
    rw [e1, q]
  · intro h
    rw [h]
    exact ⟨rfl, rfl⟩
theorem msgE_one : msgE [1] = 0 ∧ (msgS [1] 0 0).ki = 1 := by
  have e : msgS [1] 0 0 = ⟨1, 0, 0, [], [], false, 0, z32, z32, 0, 0, [], [], [], 1, 0⟩ := by
    unfold msgS
    have k : lowN (pL [1] 0 0 1) = 1 := by decide
    have a : pA [1] 0 0 1 = 1 := by decide
    have b : pE [1] 0 0 1 = 0 := by decide
    simp only [k, a, b, if_true]
  unfold msgE
  rw [e]
  exact ⟨by decide, rfl⟩

theorem bapp {l m : List Int} (h : Byts l) (k : Byts m) : Byts (l ++ m) := fun y hy => by
  rcases List.mem_append.1 hy with e | e
  · exact h y e
  · exact k y e
theorem bone {x : Int} (h : 0 ≤ x ∧ x ≤ 255) : Byts [x] := fun y hy => by
  have e : y = x := by simpa using hy
  rw [e]; exact h
theorem bnil : Byts [] := fun y hy => by cases hy
theorem bnumB : ∀ (f n : Nat), n ≤ f → Byts (numB n) := by
  intro f
  induction f with
  | zero =>
    intro n hn
    rw [numB, if_pos (by omega)]
    exact bone (by omega)
  | succ f ih =>
    intro n hn
    rw [numB]
    split
    · exact bone (by omega)
    · intro y hy
      rcases List.mem_cons.1 hy with e | e
      · rw [e]; omega
      · exact ih (n / 128) (by omega) y e
theorem bnum (n : Nat) : Byts (numB n) := bnumB _ _ (Nat.le_refl _)
theorem brecs {f : Nat → List Int} : ∀ n, (∀ i, i < n → Byts (f i)) → Byts (recsB f n)
  | 0, _ => bnil
  | n + 1, h => bapp (brecs n (fun i hi => h i (by omega))) (h n (by omega))
theorem Tx.byts {t : Tx} (h : Byts t.l) : Byts t.bytes := bapp (bnum _) h
/-- All that a message bears are bytes. -/
structure MsByt (M : Msg) : Prop where
  lo : Byts M.sp.lo.l
  hi : Byts M.sp.hi.l
  hl : Byts M.hl
  lb : Byts M.lb
  bo : Byts M.bo.l
  ps : ∀ i, i < M.pn → Byts (M.ps i)
  cs : ∀ i, i < M.cn → Byts (M.cs i).ky.l ∧ Byts (M.cs i).od.l ∧ Byts (M.cs i).nw.l
theorem Cg.byts {c : Cg} (h : Byts c.ky.l ∧ Byts c.od.l ∧ Byts c.nw.l) : Byts c.bytes := by
  unfold Cg.bytes
  refine bapp (bapp (bapp (bone ?_) (Tx.byts h.1)) ?_) ?_
  · cases c.had <;> cases c.has <;> decide
  · split
    · exact Tx.byts h.2.1
    · exact bnil
  · split
    · exact Tx.byts h.2.2
    · exact bnil
theorem Msg.byts {M : Msg} (h : MsByt M) : Byts M.bytes := by
  unfold Msg.bytes
  refine bapp (bone (by omega)) ?_
  unfold Msg.body
  split
  · refine bapp (bnum _) ?_
    unfold Sp.bytes
    refine bapp (bapp (bone ?_) (Tx.byts h.lo)) ?_
    · split <;> decide
    · split
      · exact bnil
      · exact Tx.byts h.hi
  split
  · exact bnum _
  split
  · exact bnum _
  split
  · exact bapp (bnum _) (bnum _)
  split
  · exact bapp (bnum _) (bapp h.lb (bapp (bnum _) (bapp (bnum _) h.hl)))
  split
  · exact Tx.byts h.bo
  split
  · exact bapp (bnum _) (brecs _ (fun i hi => h.ps i hi))
  split
  · exact bapp (bnum _) (brecs _ (fun i hi => Cg.byts (h.cs i hi)))
  split
  · exact bnum _
  · exact bnil
theorem Msg.pos (M : Msg) : 0 < M.bytes.length := by simp [Msg.bytes]
structure PrByt (P : Prf) : Prop where
  os : ∀ i, i < P.on → Byts (P.os i).kl ∧ Byts (P.os i).sm ∧ Byts (P.os i).vl
theorem Oc.byts {o : Oc} (h : Byts o.kl ∧ Byts o.sm ∧ Byts o.vl) : Byts o.bytes := by
  have nb : Byts o.nb := bapp (bapp (bone (by omega)) (bapp (bnum _) h.1)) (bnum _)
  unfold Oc.bytes
  refine bapp (bone (by omega)) ?_
  unfold Oc.body
  split
  · exact bapp (bnum _) h.2.2
  split
  · exact h.2.1
  split
  · exact bapp nb h.2.1
  split
  · exact nb
  · exact bnil
theorem Prf.byts {P : Prf} (h : PrByt P) : Byts P.bytes := bapp (bnum _) (brecs _ (fun i hi => Oc.byts (h.os i hi)))
theorem Prf.pos (P : Prf) : 0 < P.bytes.length := by
  have := numB_pos P.ct
  simp only [Prf.bytes, List.length_append]
  omega
end Go.Proofs.Ytdofgphokdgjiaa
