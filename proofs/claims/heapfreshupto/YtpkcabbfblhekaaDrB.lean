/-
  What HeapDrains begins with.
-/
import Derived.Test.YtpkcabbfblhekaaDrA
import Derived.Test.YtpkcabbfblhekaaSmall
import Derived.Deep.RegionWith
namespace Go.Proofs.Ytpkcabbfblhekaa
open Go.RowKit Go.Shelf
attribute [local go_sem] Oper.semAt_some

/-- Ints in memory. -/
structure Ins (w : World) (a : Option Addr) (N : Nat) (r : Nat → Int) : Prop where
  row : ∀ i, i < N → ∃ g o, a = some ⟨g, o, none⟩ ∧ w.cell? ⟨g, o + i, none⟩ = some (.int .i64 (r i))
  len : N ≤ 1048576

theorem rounds_inv {P : Program} {c : Code} {Q : Exit → Act → World → Prop} (I : Nat → Act → World → Prop)
    (round : ∀ m a w, I m a w → c.wp P (Exit.then (fun a' w' => ∃ m', m' < m ∧ I m' a' w') Q) a w) : ∀ k m a w, m < k → I m a w → Code.rounds P c Q k a w
  | 0, _, _, _, h, _ => absurd h (Nat.not_lt_zero _)
  | k + 1, m, a, w, h, hi => by
    refine wp_mono (round m a w hi) ?_
    rintro e a' w' hq
    cases e with
    | normal =>
      obtain ⟨m', hm', hi'⟩ := hq
      exact rounds_inv I round k m' a' w' (by omega) hi'
    | exit id => exact hq
    | goto t => exact hq
    | ret => exact hq
    | panic ch => exact hq
    | outgrown => exact hq

def dMark (d : Nat) : Deferred := { target := .collected d, args := #[] }

/-- The first boxes. -/
theorem DX.made {W w1 : World} {u4 u5 u6 : Value} {t4 t5 t6 : Nat} (hc : Chg (fun _ => False) (((W.alloc (.cells #[u4] t4)).alloc (.cells #[u5] t5)).alloc (.cells #[u6] t6)) w1) :
    DX W w1 [] [] [(W.heap.size, [u4], t4), (W.heap.size + 1, [u5], t5), (W.heap.size + 1 + 1, [u6], t6)] (W.heap.size + 3) (.slice none 0 0) (.slice none 0 0) := by
  have b4 : Blk (((W.alloc (.cells #[u4] t4)).alloc (.cells #[u5] t5)).alloc (.cells #[u6] t6)) W.heap.size [u4] t4 := ((Blk.made W [u4] t4).alloc _).alloc _
  have b5 : Blk (((W.alloc (.cells #[u4] t4)).alloc (.cells #[u5] t5)).alloc (.cells #[u6] t6)) (W.heap.size + 1) [u5] t5 := by
    have h := (Blk.made (W.alloc (.cells #[u4] t4)) [u5] t5).alloc (.cells #[u6] t6)
    rwa [World.size_alloc] at h
  have b6 : Blk (((W.alloc (.cells #[u4] t4)).alloc (.cells #[u5] t5)).alloc (.cells #[u6] t6)) (W.heap.size + 1 + 1) [u6] t6 := by
    have h := Blk.made ((W.alloc (.cells #[u4] t4)).alloc (.cells #[u5] t5)) [u6] t6
    rwa [World.size_alloc, World.size_alloc] at h
  have h0 : Chg (fun _ => False) W (((W.alloc (.cells #[u4] t4)).alloc (.cells #[u5] t5)).alloc (.cells #[u6] t6)) := (((Chg.refl _ _).alloc _).alloc _).alloc _
  refine ⟨fun x hx => ?_, ?_, fun _ h => by simp at h, List.nodup_nil, h0.trans hc (fun _ h => h.elim), fun k hk => ?_, fun k hk => by simp at hk, by omega, fun k hk => by simp [Value.ownBlock] at hk⟩
  · simp only [List.mem_cons, List.not_mem_nil, or_false] at hx
    rcases hx with rfl | rfl | rfl
    · exact b4.keep hc (fun h => h)
    · exact b5.keep hc (fun h => h)
    · exact b6.keep hc (fun h => h)
  · simp
    omega
  · have h9 : k = W.heap.size ∨ k = W.heap.size + 1 ∨ k = W.heap.size + 2 := by
      rcases hk with hk | hk | ⟨x, hx, e⟩
      · simp at hk
      · simp at hk
      · simp only [List.mem_cons, List.not_mem_nil, or_false] at hx
        rcases hx with rfl | rfl | rfl
        · exact .inl e.symm
        · exact .inr (.inl e.symm)
        · exact .inr (.inr e.symm)
    exact ⟨by omega, by omega, by simp [Value.ownBlock], by simp [Value.ownBlock]⟩

/-- All things put in. -/
theorem ts_pushed {w w' : World} {p : Nat} {lv : Value} {L : List (Int × Int)} {c : Nat} (hst : Stt w w' p (fB false) none (pushF (odB false) L [] 0).1 (0 + L.length) c (fun _ => False) (fun _ _ => True))
    (ho : OwnT w lv L) (hp : lv.ownBlock ≠ some p) : ∃ v, TS w' false p v (pushF (odB false) L [] 0).1 L.length lv L ∧ Chg (fun k => k = p) w w' ∧ ∀ k, v.ownBlock = some k → w.heap.size ≤ k := by
  obtain ⟨⟨v, hv, hv2⟩, _, hch⟩ := hst
  have hch2 : Chg (fun k => k = p) w w' := hch.mono (fun i _ hi => by rcases hi with e | e | e; exact e; simp at e; exact e.elim)
  have hvn : ∀ k, v.ownBlock = some k → w.heap.size ≤ k := fun k hk => by rcases hv2 k hk with e | e; simp at e; exact e
  obtain ⟨R, hR⟩ := Follows.pushes (odB false) L Follows.nil
  rw [List.nil_append, Nat.zero_add] at hR
  rw [Nat.zero_add] at hv
  refine ⟨v, ⟨hv, pushF_HO (tot_B false) L 0 (HO.nil _), ⟨R, hR⟩, ho.keep hch2 (fun k hk e => hp (by rw [hk, e])), hp, fun k hk e => ?_, ?_⟩, hch2, hvn⟩
  · have := hvn k e
    have := ho.lt hk
    omega
  · rw [pushF_len]; simp

end Go.Proofs.Ytpkcabbfblhekaa
