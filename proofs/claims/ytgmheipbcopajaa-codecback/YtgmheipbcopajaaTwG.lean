/-
  A tower and what is read back of it: how long its bytes are, that they are bytes, and the two sides of their comparing.
-/
import Derived.Test.YtgmheipbcopajaaTwF
import Derived.Test.YtgmheipbcopajaaTwV
import Derived.Test.YtgmheipbcopajaaTwL
namespace Go.Proofs.Ytgmheipbcopajaa
open Go.RowKit

theorem Byts.app {l m : List Int} (h : Byts l) (k : Byts m) : Byts (l ++ m) := fun y hy => by
  rcases List.mem_append.1 hy with e | e
  · exact h y e
  · exact k y e
theorem Byts.one {x : Int} (h : 0 ≤ x ∧ x ≤ 255) : Byts [x] := fun y hy => by
  have e : y = x := by simpa using hy
  rw [e]; exact h
theorem numB_byts : ∀ (f n : Nat), n ≤ f → Byts (numB n) := by
  intro f
  induction f with
  | zero =>
    intro n hn
    rw [numB, if_pos (by omega)]
    exact Byts.one (by omega)
  | succ f ih =>
    intro n hn
    rw [numB]
    split
    · exact Byts.one (by omega)
    · intro y hy
      rcases List.mem_cons.1 hy with e | e
      · rw [e]; omega
      · exact ih (n / 128) (by omega) y e

/-- All that a tower bears are bytes. -/
structure TwByt (T : Tw) : Prop where
  kl : Byts T.kl
  vl : Byts T.vl
  kid : ∀ i, i < T.sn → Byts (T.ks i).kl ∧ Byts (T.ks i).ad ∧ Byts (T.ks i).lb

theorem Kd.byts {k : Kd} (h1 : Byts k.kl) (h2 : Byts k.ad) (h3 : Byts k.lb) : Byts k.bytes := by
  unfold Kd.bytes
  exact ((((Byts.one (by omega)).app ((numB_byts _ _ (Nat.le_refl _)).app h1)).app (numB_byts _ _ (Nat.le_refl _))).app h2).app h3
theorem kidsB_byts {ks : Nat → Kd} : ∀ n, (∀ i, i < n → Byts (ks i).bytes) → Byts (kidsB ks n)
  | 0, _ => fun y hy => by cases hy
  | n + 1, h => (kidsB_byts n (fun i hi => h i (by omega))).app (h n (by omega))
theorem Tw.byts {T : Tw} (h : TwByt T) : Byts T.bytes := by
  unfold Tw.bytes
  refine (((Byts.one (by split <;> omega)).app ?_).app (numB_byts _ _ (Nat.le_refl _))).app (kidsB_byts _ (fun i hi => Kd.byts (h.kid i hi).1 (h.kid i hi).2.1 (h.kid i hi).2.2))
  unfold Tw.own
  split
  · intro y hy; cases hy
  · exact ((numB_byts _ _ (Nat.le_refl _)).app h.kl).app h.vl
theorem kidsB_len {ks : Nat → Kd} : ∀ n, (∀ i, i < n → KdFit (ks i)) → (kidsB ks n).length ≤ n * 1120
  | 0, _ => by simp [kidsB]
  | n + 1, h => by
    have h1 := kidsB_len n (fun i hi => h i (by omega))
    have h2 := h n (by omega)
    have n1 := numB_ten (n := (ks n).kl.length) (by have := h2.kl; omega)
    have n2 := numB_ten (n := (ks n).ct) (by have := h2.ct; omega)
    have a1 := h2.kl
    have a2 := h2.ad
    have a3 := h2.lb
    simp only [kidsB, Kd.bytes, List.length_append, List.length_cons, List.length_nil]
    omega
theorem Tw.len {T : Tw} (h : TwFit T) : 0 < T.bytes.length ∧ T.bytes.length ≤ 30000 := by
  have h1 := kidsB_len T.sn h.kid
  have n1 := numB_ten (n := T.kl.length) (by have := h.kl; omega)
  have n2 := numB_ten (n := T.sn) (by have := h.sn; omega)
  have a1 := h.kl
  have a2 := h.vl
  have a3 := h.sn
  have a4 : T.own.length ≤ 1067 := by
    unfold Tw.own
    split
    · simp
    · simp only [List.length_append]; omega
  simp only [Tw.bytes, List.length_append, List.length_cons, List.length_nil]
  omega

theorem Kd.cells_fit {k : Kd} (h : KdFit k) : k.cells = kdC k.lv.toNat (.slice k.ka k.kn k.kc) k.ct (k.ad ++ k.lb) := by
  have e : ((k.lv.toNat : Nat) : Int) = k.lv := by have := h.lv.1; omega
  rw [kdC, e]
  rfl

/-- What was read of a tower beside the tower itself. -/
theorem sides {w : World} {Av : Nat → Prop} {T : Tw} (hf : TwFit T) (hT : TwIn w Av T) {B : Nat} {S : TwS} {C : List Value} (hC : TowIs w B S C) (h1 : S.hd = T.hd) (h2 : S.kl = T.kl) (h3 : S.vl = T.vl) (h4 : S.ks.map KS.dat = T.kids.map Kd.dat) (hz : ∀ k, k ∈ S.ks → k.z.length = 65) :
    ∃ a c A ac f, C = towC T.hd (.slice a T.kl.length c) T.vl (.slice A T.sn ac) ∧ Src w (.slice a T.kl.length c) T.kl ∧ KRows w A T.sa T.sn f := by
  obtain ⟨s, kv, ks, rfl, _, os, hk, ml, _⟩ := hC.ex
  obtain ⟨a, c, hs⟩ := os.form
  have hl : ks.length = T.sn := by
    have e1 := congrArg List.length hk
    have e2 := congrArg List.length h4
    simp only [List.length_map, Tw.kids, List.length_range] at e1 e2
    omega
  obtain ⟨A, ac, hkv⟩ := ml.form
  have hz2 : ∀ k, k ∈ ks → k.1.z.length = 65 := fun k hk2 => hz k.1 (by rw [← hk]; exact List.mem_map.2 ⟨k, hk2, rfl⟩)
  have key : ∀ j, (hj : j < T.sn) → (ks[j]'(by omega)).1.dat = (T.ks j).dat := by
    intro j hj
    have e := congrArg (fun l => l[j]?) h4
    simp only [← hk, List.getElem?_map, Tw.kids, List.getElem?_range hj, Option.map_some, List.getElem?_eq_getElem (show j < ks.length by omega)] at e
    injection e
  have fm : ∀ j, (hj : j < T.sn) → ∃ a c, (ks[j]'(by omega)).2 = .slice a (T.ks j).kl.length c ∧ Src w (.slice a (T.ks j).kl.length c) (T.ks j).kl := by
    intro j hj
    have ho := (ml.key (ks[j]'(by omega)) (List.getElem_mem _)).1
    have e := congrArg (fun x => x.2.1) (key j hj)
    have e : (ks[j]'(by omega)).1.kl = (T.ks j).kl := e
    obtain ⟨a, c, hf⟩ := ho.form
    rw [e] at ho hf
    exact ⟨a, c, hf, by rw [← hf]; exact ho.src⟩
  let f : Nat → KP := fun j => if hj : j < T.sn then ⟨(T.ks j).lv.toNat, (T.ks j).ct, (T.ks j).ad, (T.ks j).lb, (T.ks j).kl, Classical.choose (fm j hj), (T.ks j).kl.length, Classical.choose (Classical.choose_spec (fm j hj)), (T.ks j).ka, (T.ks j).kn, (T.ks j).kc⟩ else ⟨0, 0, [], [], [], none, 0, 0, none, 0, 0⟩
  have hfj : ∀ j, (hj : j < T.sn) → f j = ⟨(T.ks j).lv.toNat, (T.ks j).ct, (T.ks j).ad, (T.ks j).lb, (T.ks j).kl, Classical.choose (fm j hj), (T.ks j).kl.length, Classical.choose (Classical.choose_spec (fm j hj)), (T.ks j).ka, (T.ks j).kn, (T.ks j).kc⟩ := fun j hj => by
    show (if hj : j < T.sn then _ else _) = _
    rw [dif_pos hj]
  refine ⟨a, c, A, ac, f, ?_, ?_, ?_⟩
  · rw [h1, h3, hs, h2, hkv, hl]
  · rw [← h2, ← hs]; exact os.src
  · refine ⟨fun j hj => ?_, fun j hj => ?_, fun j hj => ?_, fun j hj => ?_, fun j hj => ?_, fun j hj => ?_⟩
    · obtain ⟨g, c', e1, r1⟩ := ml.at hz2 (show j < ks.length by omega)
      obtain ⟨g', o', e2, _, r2⟩ := hT.row j hj
      have hd := key j hj
      have d1 : (ks[j]'(by omega)).1.lv = (T.ks j).lv.toNat := congrArg (fun x => x.1) hd
      have d2 : (ks[j]'(by omega)).1.ct = (T.ks j).ct := congrArg (fun x => x.2.2.1) hd
      have d3 : (ks[j]'(by omega)).1.z = (T.ks j).ad ++ (T.ks j).lb := congrArg (fun x => x.2.2.2) hd
      have fs := Classical.choose_spec (Classical.choose_spec (fm j hj))
      rw [hkv] at e1
      injection e1 with e1 _ _
      rw [hfj j hj]
      refine ⟨g, 0, g', o', e1, e2, ?_, ?_⟩
      · rw [d1, d2, d3, fs.1] at r1
        rw [Nat.zero_add]
        exact r1
      · rw [Kd.cells_fit (hf.kid j hj)] at r2
        exact r2
    · rw [hfj j hj]; exact (Classical.choose_spec (Classical.choose_spec (fm j hj))).2
    · rw [hfj j hj]; exact (hT.kid j hj).src
    · rw [hfj j hj]; exact (hT.kid j hj).ad
    · rw [hfj j hj]; exact (hT.kid j hj).lb
    · rw [hfj j hj]; exact (hf.kid j hj).kl

theorem many_len {P : List Int} : ∀ (n a : Nat) (e : Int), ∀ k, k ∈ (manyS P n a e).1 → k.z.length = 65
  | 0, _, _ => fun k hk => by simp [manyS] at hk
  | n + 1, a, e => fun k hk => by
    unfold manyS at hk
    split at hk
    · rcases List.mem_cons.1 hk with h | h
      · rw [h]; exact kidS_len _ _ _
      · exact many_len n _ _ k h
    · cases hk
end Go.Proofs.Ytgmheipbcopajaa
