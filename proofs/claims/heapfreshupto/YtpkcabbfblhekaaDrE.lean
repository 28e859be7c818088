/-
  How a function leaves that has ranged over functions.
-/
import Derived.Test.YtpkcabbfblhekaaDrC
namespace Go.Proofs.Ytpkcabbfblhekaa
open Go.RowKit

theorem results_bool {fn : Func} {q : Tmp} (h : fn.results = #[.cell q 4]) (tmps : Array Value) (w : World) (g : Nat) (b : Bool) (hp : tmps.getD q undef = .pointer (some ⟨g, 0, none⟩)) (hg : Blk w g [.bool b] 4) : (results fn tmps).run Try.prog w = .ok (.bool b) w := by
  have hp' : tmps[q]?.getD undef = .pointer (some ⟨g, 0, none⟩) := by simpa using hp
  have hc : w.cell? ⟨g, 0, none⟩ = some (.bool b) := hg.cell 0
  simp [results, h, hp', asAddr, go_sem, hc]

theorem leaves_marks {fn : Func} {tmps : Array Value} {R : Ending → World → Prop} : ∀ (Ds : List Nat) (w : World), (∀ d ∈ Ds, w.heap[d]? = some (.deferred (some []))) → Ds.Nodup →
    (∀ w', Chg (fun k => k ∈ Ds) w w' → ∃ v, (results fn tmps).run Try.prog w' = .ok v w' ∧ R (.returned v) w') → LeavesInM Fence.wide 0 Try.prog fn tmps R (Ds.map dMark) .returning w
  | [], w, _, _, h => h w (Chg.refl _ _)
  | d :: Ds, w, hd, hn, h => by
    obtain ⟨hn1, hn2⟩ := List.nodup_cons.1 hn
    refine ⟨by simp, .inl ⟨d, _, rfl, run_takeDeferred (hd d List.mem_cons_self), leaves_marks Ds _ (fun k hk => ?_) hn2 (fun w' hw' => h w' ?_)⟩⟩
    · exact (World.putObj_heap_other (fun (e : k = d) => hn1 (by rw [← e]; exact hk))).trans (hd k (List.mem_cons_of_mem _ hk))
    · have h0 : Chg (fun k => k ∈ d :: Ds) w (w.putObj d (.deferred none)) := ⟨rfl, rfl, rfl, by simp, fun k _ hk => World.putObj_heap_other (fun e => hk (by rw [e]; exact List.mem_cons_self))⟩
      exact h0.trans hw' (fun i hi => .inl (List.mem_cons_of_mem _ hi))

end Go.Proofs.Ytpkcabbfblhekaa
