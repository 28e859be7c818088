/-
  The walk of Least.
-/
import Derived.Test.YtbfbjjfjeiihbaaLeA
namespace Go.Proofs.Ytbfbjjfjeiihbaa
open Go.RowKit Go.Shelf
attribute [local go_sem] Oper.semAt_some

def th2 (a : Int × Int × Int) : Int × Int := (a.1, a.2.1)
/-- What Least gives: so many of the list, by the heap of numbered things. -/
def leastL (od : E → E → Int) (L : List (Int × Int)) (k : Nat) : List (Int × Int) := ((V.drF (V.odF (V.odBk od)) k (V.lbF od k L 0 [] 0).1).1.map th2).reverse

theorem lbF_len (od : E → E → Int) (n : Nat) : ∀ (L : List (Int × Int)) (i : Nat) (H : List V.E) (came : Nat), H.length ≤ n → (V.lbF od n L i H came).1.length = min n (H.length + L.length)
  | [], i, H, came, h => by simp [V.lbF]; omega
  | a :: L, i, H, came, h => by
    unfold V.lbF
    split
    · rw [lbF_len od n L _ _ _ (by rw [V.pushF_len]; simp; omega), V.pushF_len]
      simp
      omega
    · split
      · rw [lbF_len od n L _ _ _ (by rw [V.swapF_len]; exact h), V.swapF_len]
        simp
        omega
      · rw [lbF_len od n L _ _ _ h]
        simp
        omega

theorem OwnT.made (w : World) (c : Nat) (hc : c ≤ 2097152) : OwnT (w.alloc (.cells (madeCells #[.int .i64 0, .int .i64 0] (c * 2)) 26)) (.slice (some ⟨w.heap.size, 0, none⟩) c c) (List.replicate c (0, 0)) := by
  have hrow : ∀ n, rowT (List.replicate n ((0 : Int), (0 : Int))) = List.replicate (n * 2) (.int .i64 0) := fun n => by
    induction n with
    | zero => rfl
    | succ n ih => rw [List.replicate_succ, show rowT ((0, 0) :: List.replicate n (0, 0)) = .int .i64 0 :: .int .i64 0 :: rowT (List.replicate n (0, 0)) from rfl, ih, show (n + 1) * 2 = n * 2 + 1 + 1 by omega, List.replicate_succ, List.replicate_succ]
  have hm : (madeCells #[(.int .i64 0 : Value), .int .i64 0] (c * 2)).toList = List.replicate (c * 2) (.int .i64 0) := by
    refine List.ext_getElem (by simp [madeCells]) (fun i h1 h2 => ?_)
    rw [List.getElem_replicate]
    simp only [Array.getElem_toList]
    unfold madeCells
    simp
    have : i % 2 = 0 ∨ i % 2 = 1 := by omega
    rcases this with e | e <;> simp [e]
  unfold OwnT
  refine ⟨by rw [rowT_len], .inr ⟨w.heap.size, c, _, by rw [List.length_replicate], Nat.zero_le _, heap_alloc_new w _, by simp, by unfold maxLen; omega, by simp [madeCells], ?_⟩⟩
  rw [hm, hrow, List.length_replicate]
  simp

theorem sv_start {S : Nat → Prop} {I : Nat → World → Prop} {W w3 w4 : World} {Bs : List Bo} {f v : Value} {H : List V.E} {came : Nat} {lv : Value} {out : List (Int × Int)} {n c c0 : Nat} {od : E → E → Int} {one : Nat} (O : Od f S I od one) (hI : I c0 W) (hc3 : Chg (fun _ => False) W w3) (lb : V.LB w3 w4 (w3.heap.size + 1) w3.heap.size n c f v S I H came)
    (hb : ∀ x ∈ Bs, Blk w3 x.1 x.2.1 x.2.2) (inc : Bs.Pairwise (fun x y => x.1 < y.1)) (hW : ∀ x ∈ Bs, W.heap.size ≤ x.1) (own : OwnT w3 lv out) (ll : ∀ k, lv.ownBlock = some k → W.heap.size ≤ k) (lb' : ∀ x ∈ Bs, lv.ownBlock ≠ some x.1) : V.SV S I W w4 [] Bs (w3.heap.size + 1) w3.heap.size f v H came lv out c := by
  have htl : ∀ k, S k → k < W.heap.size := fun k hk => O.low hI hk
  have hlow : ∀ k, W.heap.size ≤ k → ¬ S k := fun k hk hs => by have := htl k hs; omega
  have hs3 := hc3.size
  refine ⟨⟨fun x hx => (hb x hx).keep lb.ch (hlow _ (hW x hx)), inc, fun d hd => by simp at hd, List.nodup_nil, (hc3.mono (fun _ _ h => h.elim)).trans lb.ch (fun _ h => .inl h), htl, fun k hk => ?_, fun k hk => by simp at hk, by omega, fun k hk => by have := lb.vl k hk; omega⟩, lb.hq, own.keep lb.ch (fun k hk => hlow k (ll k hk)), fun e => ?_, fun k hk e => ?_, ll, lb.ib, hs3, by omega, lb.vq, fun e => ?_, fun x hx e => ?_, by simp⟩
  · rcases hk with hk | hk | ⟨x, hx, rfl⟩
    · simp at hk
    · simp at hk
    · have hlt := (hb x hx).lt
      exact ⟨hW x hx, by omega, fun e => by have := lb.vl _ e; omega, lb' x hx⟩
  · have := own.lt e; omega
  · have h1 := own.lt hk
    have h2 := lb.vl k e
    omega
  · have := own.lt e; omega
  · have := (hb x hx).lt; omega

theorem OwnT.frz {w : World} {g cap : Nat} {l : List (Int × Int)} (h : OwnT w (.slice (some ⟨g, 0, none⟩) l.length cap) l) (j : Nat) : w.frozen? ⟨g, j, none⟩ = false := by
  unfold OwnT at h
  obtain ⟨_, h2⟩ := h
  rcases h2 with ⟨e, _⟩ | ⟨g', cap', cur, e, hb, hg, hle, hm, hs, ht⟩
  · cases e
  · injection e with e1 e2 e3
    injection e1 with e1
    injection e1 with e1 _ _
    subst e1
    exact frozen_of_row w g j _ 26 hg

/-- How the list is filled from its end on. -/
theorem fill_step {A B : List (Int × Int)} {x : Int × Int} {out : List (Int × Int)} {m : Nat} (hm : m < out.length) (h : A ++ x :: out.drop (m + 1) = B) : A ++ (out.set m x).drop m = B := by
  rw [← h]
  congr 1
  rw [List.drop_set, if_neg (Nat.lt_irrefl _), Nat.sub_self, List.drop_eq_getElem_cons hm, List.set_cons_zero]

end Go.Proofs.Ytbfbjjfjeiihbaa
