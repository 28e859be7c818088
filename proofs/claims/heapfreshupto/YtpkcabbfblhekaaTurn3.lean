/-
  Swap and Push beside the law's own list: what is there behind them.
-/
import Derived.Test.YtpkcabbfblhekaaTurn2
namespace Go.Proofs.Ytpkcabbfblhekaa
open Go.RowKit

/-- Swap, whatever is there. -/
def swapH (od : E → E → Int) (H : List E) (came : Nat) (a : Int × Int) : List E := if 0 < H.length then (swapF od H ⟨a.1, a.2, (came : Int) + 1⟩).1 else (pushF od [a] H came).1
theorem swap_any {w : World} {p : Nat} {f v : Value} {H : List E} {came : Nat} {od : E → E → Int} {one : Nat} (O : Od f (fun _ => False) (fun _ _ => True) od one) (h1 : Hq w p f v H came) (hn : H.length ≤ 2097152) (hc : came + 1 ≤ 2097152) (ho : one ≤ 1) (a : Int × Int) :
    Calls Try.prog 17 #[.pointer (some ⟨p, 0, none⟩), two a] w fun e w' => e = .returned (.tuple #[two (nth H 0).th, .bool (decide (0 < H.length))]) ∧ Stt w w' p f v.ownBlock (swapH od H came a) (came + 1) 0 (fun _ => False) (fun _ _ => True) := by
  unfold swapH
  by_cases h0 : 0 < H.length
  · rcases h1.cases with ⟨_, rfl⟩ | ⟨g, cap, sp, rfl, hp⟩
    · simp at h0
    · rw [decide_eq_true h0, if_pos h0]
      obtain ⟨m, hm⟩ : ∃ m, H.length = m + 1 := ⟨H.length - 1, by omega⟩
      have hp' : Hp w p f g (m + 1) cap H sp came := hm ▸ hp
      refine (swap_some O hp' (fun h => h) (fun h => h) 0 a hc (by omega) trivial (by omega) ho).mono ?_
      rintro e w9 ⟨rfl, ⟨hq, _, hch⟩⟩
      exact ⟨rfl, hq, trivial, hch⟩
  · have : H = [] := List.eq_nil_of_length_eq_zero (by omega)
    subst this
    refine (swap_none O h1 (fun h => h) (fun _ _ h => h) 0 a hc trivial (by omega) ho).mono ?_
    rintro e w9 ⟨rfl, ⟨hq, _, hch⟩⟩
    exact ⟨rfl, hq, trivial, hch⟩

/-- What is there behind a Swap, and the law's own list. -/
theorem swapH_HO {all : Bool} {H : List E} (h : HO (odB all) H) (came : Nat) (a : Int × Int) : HO (odB all) (swapH (odB all) H came a) := by
  unfold swapH
  split
  · rename_i h0; exact swapF_HO (tot_B all) h h0 _
  · exact pushF_HO (tot_B all) [a] came h
theorem swapH_len (od : E → E → Int) (H : List E) (came : Nat) (a : Int × Int) : (swapH od H came a).length ≤ H.length + 1 := by
  unfold swapH
  split
  · rw [swapF_len]; omega
  · rw [pushF_len]; simp
theorem Follows.swap {all : Bool} {H : List E} {came : Nat} {l : List (Int × Int)} {R : List E} (h : Follows H came l R) (a : Int × Int) {m : Nat} (h0 : 0 < H.length) (hm : m < R.length) (hx : nth H 0 = nth R m) :
    ∃ R', Follows (swapH (odB all) H came a) (came + 1) (wo l m ++ [a]) R' := by
  obtain ⟨X, h1, h2⟩ := swapF_perm (odB all) h0 ⟨a.1, a.2, (came : Int) + 1⟩
  have h3 := h.pop hm hx h1
  refine ⟨_, h3.push a ?_⟩
  unfold swapH
  rw [if_pos h0]
  exact h2.trans (List.perm_append_singleton _ _).symm
theorem Follows.swap0 {all : Bool} {came : Nat} {R : List E} (h : Follows [] came [] R) (a : Int × Int) : ∃ R', Follows (swapH (odB all) [] came a) (came + 1) ([] ++ [a]) R' :=
  Follows.pushes (odB all) [a] h

end Go.Proofs.Ytpkcabbfblhekaa
