/-
  The durable map: a store into it, and what keeps it.
-/
import Derived.Test.YtpongepfjdgcmaaLatest
namespace Go.Proofs.Ytpongepfjdgcmaa
open Go.RowKit

theorem Du.kept {w w' : World} {m k z : Nat} {K : Nat → Option Nat} {D : DataW Unit} (h : Du w m k z K D) {row : Option Nat} (g : w.grownBy w' row) (hm : some m ≠ row) : Du w' m k z K D :=
  ⟨h.own.kept g hm, h.at_, h.has⟩
theorem Du.alloc {w : World} {m k z : Nat} {K : Nat → Option Nat} {D : DataW Unit} (h : Du w m k z K D) (o : Obj) : Du (w.alloc o) m k z K D := ⟨h.own.alloc o, h.at_, h.has⟩

/-- Sector s is given block g. -/
theorem Du.put {w : World} {m k z : Nat} {K : Nat → Option Nat} {D : DataW Unit} (h : Du w m k z K D) (s : Nat) (hs : s ≤ 65536) (g : Nat) (hk : k ≤ 4398046511104) :
    ∃ w', (Instr.mapUpdate 85 (.map (some m)) (.int .i64 s) (.slice (some ⟨g, 0, none⟩) z z)).run Try.prog w = .ok () w' ∧ (∃ D', Du w' m (k + 1) z (fun t => if t = s then some g else K t) D') ∧ w.grownBy w' (some m) := by
  have hwf : (Lit.int .i64 (s : Int)).wf = true := WalkArith.wf_i64 (by omega)
  obtain ⟨w2, g1, g2, g3⟩ := h.own.update (t := 85) (e := 22) keyed3 Try.underlying85 (by unfold maxLen; omega) (Maps.keyOf_int_mk Try.underlying3 hwf) (blkElem_mk z g)
  have hM : Maps.IsMap D := h.own.isMap
  have hkey : WideAt.IsKeyLit (.int .i64 (s : Int)) := trivial
  refine ⟨w2, g1, ⟨_, ⟨g2, fun t => ?_, fun kl => ?_⟩⟩, g3⟩
  · by_cases e : t = s
    · subst e
      show (D.put (.int .i64 (t : Int)) _).atKey (.int .i64 (t : Int)) .nil = _
      rw [Maps.atKey_put_same hM hkey, if_pos rfl]
      rfl
    · rw [Maps.atKey_put_other (by unfold kI; intro e2; injection e2 with _ e2; omega), if_neg e]
      exact h.at_ t
  · by_cases e : kl = .int .i64 (s : Int)
    · subst e
      rw [Maps.has_put_same hM hkey]
      exact ⟨fun _ => ⟨s, rfl, by simp⟩, fun _ => rfl⟩
    · rw [Maps.has_put_other e, h.has kl]
      constructor
      · rintro ⟨t, rfl, ht⟩
        exact ⟨t, rfl, by rw [if_neg (fun e2 => e (by rw [e2]; rfl))]; exact ht⟩
      · rintro ⟨t, rfl, ht⟩
        have hts : ¬ t = s := fun e2 => e (by rw [e2]; rfl)
        rw [if_neg hts] at ht
        exact ⟨t, rfl, ht⟩
end Go.Proofs.Ytpongepfjdgcmaa
