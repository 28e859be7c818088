/-
  The story: plays, with the ledger.
-/
import Derived.Test.YtddnecfnjnipjaaCp
import Derived.Test.YtddnecfnjnipjaaLxH
import Derived.Test.YtddnecfnjnipjaaOpenK
import Derived.Test.YtddnecfnjnipjaaPlE
import Derived.Deep.CutBlock
namespace Go.Proofs.Ytddnecfnjnipjaa
open Go.RowKit

theorem two_cell (f : Option Pc → Value) {Pp : Nat → Option Pc} {w : World} {g : Nat} {ty : TypeId} (h : Rw w g #[f (Pp 0), f (Pp 1)] ty) {kk : Nat} (hkk : kk < 2) {x : Option Pc} (hx : Pp kk = x) : w.cell? ⟨g, kk, none⟩ = some (f x) := by
  rw [← hx, h.cell kk]
  match kk, hkk with
  | 0, _ => rfl
  | 1, _ => rfl

theorem act_one (a : Ac) : ∀ v ∈ a.cells, v.oneCell' = true := by
  intro v hv
  simp only [Ac.cells, actC, List.mem_cons, List.not_mem_nil, or_false] at hv
  rcases hv with rfl | rfl | rfl | rfl | rfl | rfl | rfl | rfl | rfl <;> rfl
def storyC (s0 s1 z0 z1 : Int) (v : Value) : List Value := [.int .i64 s0, .int .i64 s1, .int .i64 z0, .int .i64 z1, v]

set_option maxRecDepth 100000 in
set_option maxHeartbeats 16000000 in
theorem plays_all {w : World} (s0 s1 z0 z1 : Int) {aa : Option Addr} {NN acp : Nat} {ac : Nat → Ac} {kls : Nat → List Bool} (hac : AcK w w.heap.size aa NN ac kls) (hkn : ∀ i, i < NN → (ac i).kn ≤ 140737488355328) (hNN : NN < 2199023255551) :
    Calls Try.prog 7 #[.agg (storyC s0 s1 z0 z1 (.slice aa NN acp)).toArray, .int .i64 1, .int .i64 12] w fun e w' => e = .returned (.bool true) ∧ Below w.heap.size w w' := by
  obtain ⟨X, hX⟩ : ∃ X, X = w.heap.size := ⟨_, rfl⟩
  obtain ⟨W, hW⟩ : ∃ W, W = ((w.alloc (.cells (storyC s0 s1 z0 z1 (.slice aa NN acp)).toArray 25)).alloc (.cells #[.pointer none, .pointer none] 29)).alloc (.cells #[.pointer none, .pointer none] 31) := ⟨_, rfl⟩
  have bW : Below w.heap.size w W := by rw [hW]; exact (((Below.refl _ _).alloc (Nat.le_refl _) _).alloc (by simp) _).alloc (by simp; omega) _
  have sW : W.heap.size = X + 3 := by rw [hW, hX]; simp
  have rX : Rw W X (storyC s0 s1 z0 z1 (.slice aa NN acp)).toArray 25 := by
    rw [hW, hX]
    refine ⟨?_⟩
    rw [Below.heap_alloc _ _ _ (by simp; omega), Below.heap_alloc _ _ _ (by simp)]
    exact heap_alloc_new _ _
  have pn0 : PN W (X + 1) (X + 1) (X + 2) (fun _ => none) := by
    refine PN.start ⟨?_⟩ ⟨?_⟩ ⟨by omega, by omega, by omega⟩
    · rw [hW, hX, Below.heap_alloc _ _ _ (by simp)]
      have := heap_alloc_new (w.alloc (.cells (storyC s0 s1 z0 z1 (.slice aa NN acp)).toArray 25)) (.cells #[.pointer none, .pointer none] 29)
      rwa [World.size_alloc] at this
    · rw [hW, hX]
      have := heap_alloc_new ((w.alloc (.cells (storyC s0 s1 z0 z1 (.slice aa NN acp)).toArray 25)).alloc (.cells #[.pointer none, .pointer none] 29)) (.cells #[.pointer none, .pointer none] 31)
      rwa [World.size_alloc, World.size_alloc] at this
  have HX : Hid _ := hX
  have BW : Hid _ := bW
  have SW : Hid _ := sW
  have RX : Hid _ := rX
  have PN0 : Hid _ := pn0
  have HAC : Hid _ := hac
  have HKN : Hid _ := hkn
  clear bW sW rX pn0 hac hkn
  go_enter Try.func7, Try.ntmps7
  go_upto_region 3 with fail
  rw [← hX]
  have hW' := hW.symm
  rw [← hW]
  clear hW' hW hX
  go_wp2_with fail
  go_loopw [9] (fun x wr => ∃ (i : Nat) (Pp : Nat → Option Pc), i ≤ 2 ∧ x = .int .i64 i ∧ Hid (Chg (fun g => X + 1 ≤ g) W wr ∧ PN wr (X + 1) (X + 1) (X + 2) Pp ∧ ∀ k, i ≤ k → Pp k = none)) (fun x _ => 2 - (intOf x).toNat)
  case atStart => exact ⟨0, fun _ => none, by decide, rfl, Chg.refl _ _, PN0.out, fun _ _ => rfl⟩
  case round =>
    obtain ⟨i, Pp, hi2, rfl, hid⟩ := hrel
    obtain ⟨ch1, pn1, pk⟩ := hid.out
    clear hid
    have CH1 : Hid _ := ch1
    have PN1 : Hid _ := pn1
    by_cases hlt : i < 2
    · have rx6 : Rw wr.drew X (storyC s0 s1 z0 z1 (.slice aa NN acp)).toArray 25 := ⟨ch1.heap_some RX.out.eq (fun e => by omega)⟩
      have RX6 : Hid _ := rx6
      clear ch1 pn1 rx6
      rcases (by omega : i = 0 ∨ i = 1) with rfl | rfl
      · have PK : Hid _ := pk
        clear pk hlt hi2
        by_cases ok : okDisk s0 z0
        · obtain ⟨S, hS⟩ : ∃ S : Nat, s0 = S := ⟨s0.toNat, by have := ok.2.1; omega⟩
          obtain ⟨Z, hZ⟩ : ∃ Z : Nat, z0 = Z := ⟨z0.toNat, by have := fits_b ok.1; omega⟩
          subst hS hZ
          have OK : Hid _ := ok
          clear ok
          go_upto_region 6 with fail
          refine wp_region_held_drew (S := fun w' => Rw w' X (storyC S s1 Z z1 (.slice aa NN acp)).toArray 25) (by kernel_rfl) RX6.out (fun hH => ?_)
          refine wpAnyH_take (i := 0) (v := .int .i64 0) rfl (by kernel_rfl) (by kernel_rfl) (by kernel_rfl) (fun _ _ _ h => h) (Or.inl ⟨by rfl, fun w' _ => by go_simp⟩) hH ?_
          refine wpAnyH_take (i := 1) (v := .pointer (some ⟨X, 0, none⟩)) rfl (by kernel_rfl) (by kernel_rfl) (by kernel_rfl) (fun _ _ _ h => h) (Or.inl ⟨by rfl, fun w' _ => by go_simp⟩) hH ?_
          refine wpAnyH_take (i := 2) (v := .pointer (some ⟨X, 0, none⟩)) rfl (by kernel_rfl) (by kernel_rfl) (by kernel_rfl) (fun _ _ _ h => h) (Or.inl ⟨by rfl, fun w' _ => by go_simp⟩) hH ?_
          refine wpAnyH_take (i := 3) (v := .int .i64 (S : Int)) rfl (by kernel_rfl) (by kernel_rfl) (by kernel_rfl) (fun _ _ _ h => h) (Or.inl ⟨by rfl, fun w' hw' => by have q1 : w'.cell? ⟨X, 0, none⟩ = some (.int .i64 (S : Int)) := Rw.cell hw' 0; go_simp⟩) hH ?_
          refine wpAnyH_take (i := 4) (v := .int .i64 0) rfl (by kernel_rfl) (by kernel_rfl) (by kernel_rfl) (fun _ _ _ h => h) (Or.inl ⟨by rfl, fun w' _ => by go_simp⟩) hH ?_
          refine wpAnyH_take (i := 5) (v := .pointer (some ⟨X, 2, none⟩)) rfl (by kernel_rfl) (by kernel_rfl) (by kernel_rfl) (fun _ _ _ h => h) (Or.inl ⟨by rfl, fun w' _ => by go_simp⟩) hH ?_
          refine wpAnyH_take (i := 6) (v := .pointer (some ⟨X, 2, none⟩)) rfl (by kernel_rfl) (by kernel_rfl) (by kernel_rfl) (fun _ _ _ h => h) (Or.inl ⟨by rfl, fun w' _ => by go_simp⟩) hH ?_
          refine wpAnyH_take (i := 7) (v := .int .i64 (Z : Int)) rfl (by kernel_rfl) (by kernel_rfl) (by kernel_rfl) (fun _ _ _ h => h) (Or.inl ⟨by rfl, fun w' hw' => by have q1 : w'.cell? ⟨X, 2, none⟩ = some (.int .i64 (Z : Int)) := Rw.cell hw' 2; go_simp⟩) hH ?_
          refine wpAnyH_ready (rs := [8]) (by kernel_rfl) (by simp) ?_
          refine AllReadyH.cons rfl (fun K hK => ?_) AllReadyH.nil
          go_simp
          refine Calls.mono (new_yes (w := wr.drew) (S : Int) (Z : Int) OK.out) ?_
          rintro e w1 ⟨rfl, dk, bl⟩
          have bl1 : Below wr.heap.size wr w1 := ⟨bl.os, bl.tape, bl.output, bl.size, bl.block⟩
          have rx1 : Rw w1 X (storyC S s1 Z z1 (.slice aa NN acp)).toArray 25 := rwb RX6.out bl
          have DK1 : Hid (DK w1 (wr.heap.size + 2) S Z wr.heap.size (wr.heap.size + 1) 0 0) := dk
          have BL1 : Hid _ := bl1
          have RX7 : Hid (Rw w1.drew X (storyC S s1 Z z1 (.slice aa NN acp)).toArray 25) := ⟨rx1.eq⟩
          refine hK.out _ _ rx1 (fun hH => ?_)
          clear hK K dk bl bl1
          refine wpAnyH_take (i := 9) (v := .tuple #[.pointer (some ⟨wr.heap.size + 2, 0, none⟩), .int .i64 0]) rfl (by kernel_rfl) (by kernel_rfl) (by kernel_rfl) (fun _ _ _ h => h) (Or.inl ⟨by rfl, fun w' _ => by go_simp⟩) hH ?_
          refine wpAnyH_take (i := 10) (v := .pointer (some ⟨wr.heap.size + 2, 0, none⟩)) rfl (by kernel_rfl) (by kernel_rfl) (by kernel_rfl) (fun _ _ _ h => h) (Or.inl ⟨by rfl, fun w' _ => by go_simp⟩) hH ?_
          refine wpAnyH_take (i := 11) (v := .int .i64 0) rfl (by kernel_rfl) (by kernel_rfl) (by kernel_rfl) (fun _ _ _ h => h) (Or.inl ⟨by rfl, fun w' _ => by go_simp⟩) hH ?_
          refine wpAnyH_take (i := 12) (v := .pointer (some ⟨wr.heap.size + 2, 0, none⟩)) rfl (by kernel_rfl) (by kernel_rfl) (by kernel_rfl) (fun _ _ _ h => h) (Or.inl ⟨by rfl, fun w' _ => by go_simp⟩) hH ?_
          refine wpAnyH_take (i := 13) (v := .int .i64 0) rfl (by kernel_rfl) (by kernel_rfl) (by kernel_rfl) (fun _ _ _ h => h) (Or.inl ⟨by rfl, fun w' _ => by go_simp⟩) hH ?_
          refine wpAnyH_done (by kernel_rfl) ?_ _
          clear hH
          go_upto_region 7 with fail
          refine wp_region_held_drew (S := fun w' => Rw w' X (storyC S s1 Z z1 (.slice aa NN acp)).toArray 25) (by kernel_rfl) RX7.out (fun hH => ?_)
          refine wpAnyH_take (i := 0) (v := .int .i64 0) rfl (by kernel_rfl) (by kernel_rfl) (by kernel_rfl) (fun _ _ _ h => h) (Or.inl ⟨by rfl, fun w' _ => by go_simp⟩) hH ?_
          refine wpAnyH_take (i := 1) (v := .pointer (some ⟨X, 0, none⟩)) rfl (by kernel_rfl) (by kernel_rfl) (by kernel_rfl) (fun _ _ _ h => h) (Or.inl ⟨by rfl, fun w' _ => by go_simp⟩) hH ?_
          refine wpAnyH_take (i := 2) (v := .pointer (some ⟨X, 0, none⟩)) rfl (by kernel_rfl) (by kernel_rfl) (by kernel_rfl) (fun _ _ _ h => h) (Or.inl ⟨by rfl, fun w' _ => by go_simp⟩) hH ?_
          refine wpAnyH_take (i := 3) (v := .int .i64 (S : Int)) rfl (by kernel_rfl) (by kernel_rfl) (by kernel_rfl) (fun _ _ _ h => h) (Or.inl ⟨by rfl, fun w' hw' => by have q1 : w'.cell? ⟨X, 0, none⟩ = some (.int .i64 (S : Int)) := Rw.cell hw' 0; go_simp⟩) hH ?_
          refine wpAnyH_take (i := 4) (v := .int .i64 0) rfl (by kernel_rfl) (by kernel_rfl) (by kernel_rfl) (fun _ _ _ h => h) (Or.inl ⟨by rfl, fun w' _ => by go_simp⟩) hH ?_
          refine wpAnyH_take (i := 5) (v := .pointer (some ⟨X, 2, none⟩)) rfl (by kernel_rfl) (by kernel_rfl) (by kernel_rfl) (fun _ _ _ h => h) (Or.inl ⟨by rfl, fun w' _ => by go_simp⟩) hH ?_
          refine wpAnyH_take (i := 6) (v := .pointer (some ⟨X, 2, none⟩)) rfl (by kernel_rfl) (by kernel_rfl) (by kernel_rfl) (fun _ _ _ h => h) (Or.inl ⟨by rfl, fun w' _ => by go_simp⟩) hH ?_
          refine wpAnyH_take (i := 7) (v := .int .i64 (Z : Int)) rfl (by kernel_rfl) (by kernel_rfl) (by kernel_rfl) (fun _ _ _ h => h) (Or.inl ⟨by rfl, fun w' hw' => by have q1 : w'.cell? ⟨X, 2, none⟩ = some (.int .i64 (Z : Int)) := Rw.cell hw' 2; go_simp⟩) hH ?_
          refine wpAnyH_ready (rs := [8]) (by kernel_rfl) (by simp) ?_
          refine AllReadyH.cons rfl (fun K hK => ?_) AllReadyH.nil
          go_simp
          refine Calls.mono (xnew_yes (w := w1.drew) (S : Int) (Z : Int) OK.out) ?_
          rintro e w2 ⟨rfl, rq, bl⟩
          have bl2 : Below w1.heap.size w1 w2 := ⟨bl.os, bl.tape, bl.output, bl.size, bl.block⟩
          have rx2 : Rw w2 X (storyC S s1 Z z1 (.slice aa NN acp)).toArray 25 := rwb RX7.out bl
          have PRM : Hid (Pr w2 0 (pc0 (wr.heap.size + 2) w1.heap.size S Z wr.heap.size (wr.heap.size + 1))) := Pr.made OK.out DK1.out (by omega) bl2 rfl rq
          have BL2 : Hid _ := bl2
          refine hK.out _ _ rx2 (fun hH => ?_)
          clear hK K rq bl bl2 rx1
          refine wpAnyH_take (i := 9) (v := .tuple #[.pointer (some ⟨w1.heap.size, 0, none⟩), .int .i64 0]) rfl (by kernel_rfl) (by kernel_rfl) (by kernel_rfl) (fun _ _ _ h => h) (Or.inl ⟨by rfl, fun w' _ => by go_simp⟩) hH ?_
          refine wpAnyH_take (i := 10) (v := .pointer (some ⟨w1.heap.size, 0, none⟩)) rfl (by kernel_rfl) (by kernel_rfl) (by kernel_rfl) (fun _ _ _ h => h) (Or.inl ⟨by rfl, fun w' _ => by go_simp⟩) hH ?_
          refine wpAnyH_take (i := 11) (v := .int .i64 0) rfl (by kernel_rfl) (by kernel_rfl) (by kernel_rfl) (fun _ _ _ h => h) (Or.inl ⟨by rfl, fun w' _ => by go_simp⟩) hH ?_
          refine wpAnyH_take (i := 12) (v := .pointer (some ⟨w1.heap.size, 0, none⟩)) rfl (by kernel_rfl) (by kernel_rfl) (by kernel_rfl) (fun _ _ _ h => h) (Or.inl ⟨by rfl, fun w' _ => by go_simp⟩) hH ?_
          refine wpAnyH_take (i := 13) (v := .int .i64 0) rfl (by kernel_rfl) (by kernel_rfl) (by kernel_rfl) (fun _ _ _ h => h) (Or.inl ⟨by rfl, fun w' _ => by go_simp⟩) hH ?_
          refine wpAnyH_done (by kernel_rfl) ?_ _
          clear hH
          have q1 := BL1.out.size
          have q2 := BL2.out.size
          have ch2 : Chg (fun _ => False) wr w2 := (Chg.of_below BL1.out (fun _ => False)).trans (Chg.of_below BL2.out (fun _ => False)) (fun _ h => h.elim)
          obtain ⟨pn3, ch3⟩ := PN1.out.put (k := 0) (PK.out 0 (Nat.le_refl _)) (by decide) ch2 PRM.out (fun g hg => by
            rcases hg with (e | e | e) | e
            · have e : g = wr.heap.size + 2 := e
              omega
            · have e : g = wr.heap.size := e
              omega
            · have e : g = wr.heap.size + 1 := e
              omega
            · have e : g = w1.heap.size := e
              omega)
          have cD : w2.cell? ⟨X + 1, 0, none⟩ = some (.pointer none) := by
            have h2 := (PN1.out.frame ch2).rowD.cell 0
            rw [h2]
            simp [PK.out 0 (Nat.le_refl _), dptr]
          have fD := (PN1.out.frame ch2).rowD.fr 0
          have r3 : Rw (w2.setCell ⟨X + 1, 0, none⟩ (.pointer (some ⟨wr.heap.size + 2, 0, none⟩))) (X + 2) #[rptr (Pp 0), rptr (Pp 1)] 31 := ⟨((Chg.refl (fun g => g = X + 1) w2).setCell (p := ⟨X + 1, 0, none⟩) (.inl rfl) _).heap_some (PN1.out.frame ch2).rowR.eq (fun e => by omega)⟩
          have cR : (w2.setCell ⟨X + 1, 0, none⟩ (.pointer (some ⟨wr.heap.size + 2, 0, none⟩))).cell? ⟨X + 2, 0, none⟩ = some (.pointer none) := by
            rw [r3.cell 0]
            simp [PK.out 0 (Nat.le_refl _), rptr]
          have fR := r3.fr 0
          have R9 : Hid _ := (⟨CH1.out.trans ch3 (fun _ e => .inl e), pn3, fun k hk => by rw [updT_other _ _ (by omega)]; exact PK.out k (by omega)⟩ : Chg (fun g => X + 1 ≤ g) W ((w2.setCell ⟨X + 1, 0, none⟩ (.pointer (some ⟨wr.heap.size + 2, 0, none⟩))).setCell ⟨X + 2, 0, none⟩ (.pointer (some ⟨w1.heap.size, 0, none⟩))) ∧ PN ((w2.setCell ⟨X + 1, 0, none⟩ (.pointer (some ⟨wr.heap.size + 2, 0, none⟩))).setCell ⟨X + 2, 0, none⟩ (.pointer (some ⟨w1.heap.size, 0, none⟩))) (X + 1) (X + 1) (X + 2) (updT Pp 0 (some (pc0 (wr.heap.size + 2) w1.heap.size S Z wr.heap.size (wr.heap.size + 1)))) ∧ ∀ k, 0 + 1 ≤ k → updT Pp 0 (some (pc0 (wr.heap.size + 2) w1.heap.size S Z wr.heap.size (wr.heap.size + 1))) k = none)
          clear pn3 ch3 ch2 q1 q2 r3
          go_wp2_with fail
          go_roundw
          case rel => exact ⟨0 + 1, _, by decide, rfl, R9.out⟩
          case measure => simp [intOf]
        · go_upto_region 6 with fail
          refine wp_region_held_drew (S := fun w' => Rw w' X (storyC s0 s1 z0 z1 (.slice aa NN acp)).toArray 25) (by kernel_rfl) RX6.out (fun hH => ?_)
          refine wpAnyH_take (i := 0) (v := .int .i64 0) rfl (by kernel_rfl) (by kernel_rfl) (by kernel_rfl) (fun _ _ _ h => h) (Or.inl ⟨by rfl, fun w' _ => by go_simp⟩) hH ?_
          refine wpAnyH_take (i := 1) (v := .pointer (some ⟨X, 0, none⟩)) rfl (by kernel_rfl) (by kernel_rfl) (by kernel_rfl) (fun _ _ _ h => h) (Or.inl ⟨by rfl, fun w' _ => by go_simp⟩) hH ?_
          refine wpAnyH_take (i := 2) (v := .pointer (some ⟨X, 0, none⟩)) rfl (by kernel_rfl) (by kernel_rfl) (by kernel_rfl) (fun _ _ _ h => h) (Or.inl ⟨by rfl, fun w' _ => by go_simp⟩) hH ?_
          refine wpAnyH_take (i := 3) (v := .int .i64 s0) rfl (by kernel_rfl) (by kernel_rfl) (by kernel_rfl) (fun _ _ _ h => h) (Or.inl ⟨by rfl, fun w' hw' => by have q1 : w'.cell? ⟨X, 0, none⟩ = some (.int .i64 s0) := Rw.cell hw' 0; go_simp⟩) hH ?_
          refine wpAnyH_take (i := 4) (v := .int .i64 0) rfl (by kernel_rfl) (by kernel_rfl) (by kernel_rfl) (fun _ _ _ h => h) (Or.inl ⟨by rfl, fun w' _ => by go_simp⟩) hH ?_
          refine wpAnyH_take (i := 5) (v := .pointer (some ⟨X, 2, none⟩)) rfl (by kernel_rfl) (by kernel_rfl) (by kernel_rfl) (fun _ _ _ h => h) (Or.inl ⟨by rfl, fun w' _ => by go_simp⟩) hH ?_
          refine wpAnyH_take (i := 6) (v := .pointer (some ⟨X, 2, none⟩)) rfl (by kernel_rfl) (by kernel_rfl) (by kernel_rfl) (fun _ _ _ h => h) (Or.inl ⟨by rfl, fun w' _ => by go_simp⟩) hH ?_
          refine wpAnyH_take (i := 7) (v := .int .i64 z0) rfl (by kernel_rfl) (by kernel_rfl) (by kernel_rfl) (fun _ _ _ h => h) (Or.inl ⟨by rfl, fun w' hw' => by have q1 : w'.cell? ⟨X, 2, none⟩ = some (.int .i64 z0) := Rw.cell hw' 2; go_simp⟩) hH ?_
          refine wpAnyH_ready (rs := [8]) (by kernel_rfl) (by simp) ?_
          refine AllReadyH.cons rfl (fun K hK => ?_) AllReadyH.nil
          go_simp
          refine Calls.mono (new_no (w := wr.drew) s0 z0 ok) ?_
          rintro e w1 ⟨rfl, hw⟩
          subst hw
          have RX7 : Hid (Rw wr.drew.drew X (storyC s0 s1 z0 z1 (.slice aa NN acp)).toArray 25) := ⟨RX6.out.eq⟩
          refine hK.out _ _ ⟨RX6.out.eq⟩ (fun hH => ?_)
          clear hK K
          refine wpAnyH_take (i := 9) (v := .tuple #[.pointer none, .int .i64 30]) rfl (by kernel_rfl) (by kernel_rfl) (by kernel_rfl) (fun _ _ _ h => h) (Or.inl ⟨by rfl, fun w' _ => by go_simp⟩) hH ?_
          refine wpAnyH_take (i := 10) (v := .pointer none) rfl (by kernel_rfl) (by kernel_rfl) (by kernel_rfl) (fun _ _ _ h => h) (Or.inl ⟨by rfl, fun w' _ => by go_simp⟩) hH ?_
          refine wpAnyH_take (i := 11) (v := .int .i64 30) rfl (by kernel_rfl) (by kernel_rfl) (by kernel_rfl) (fun _ _ _ h => h) (Or.inl ⟨by rfl, fun w' _ => by go_simp⟩) hH ?_
          refine wpAnyH_take (i := 12) (v := .pointer none) rfl (by kernel_rfl) (by kernel_rfl) (by kernel_rfl) (fun _ _ _ h => h) (Or.inl ⟨by rfl, fun w' _ => by go_simp⟩) hH ?_
          refine wpAnyH_take (i := 13) (v := .int .i64 30) rfl (by kernel_rfl) (by kernel_rfl) (by kernel_rfl) (fun _ _ _ h => h) (Or.inl ⟨by rfl, fun w' _ => by go_simp⟩) hH ?_
          refine wpAnyH_done (by kernel_rfl) ?_ _
          clear hH
          go_upto_region 7 with fail
          refine wp_region_held_drew (S := fun w' => Rw w' X (storyC s0 s1 z0 z1 (.slice aa NN acp)).toArray 25) (by kernel_rfl) RX7.out (fun hH => ?_)
          refine wpAnyH_take (i := 0) (v := .int .i64 0) rfl (by kernel_rfl) (by kernel_rfl) (by kernel_rfl) (fun _ _ _ h => h) (Or.inl ⟨by rfl, fun w' _ => by go_simp⟩) hH ?_
          refine wpAnyH_take (i := 1) (v := .pointer (some ⟨X, 0, none⟩)) rfl (by kernel_rfl) (by kernel_rfl) (by kernel_rfl) (fun _ _ _ h => h) (Or.inl ⟨by rfl, fun w' _ => by go_simp⟩) hH ?_
          refine wpAnyH_take (i := 2) (v := .pointer (some ⟨X, 0, none⟩)) rfl (by kernel_rfl) (by kernel_rfl) (by kernel_rfl) (fun _ _ _ h => h) (Or.inl ⟨by rfl, fun w' _ => by go_simp⟩) hH ?_
          refine wpAnyH_take (i := 3) (v := .int .i64 s0) rfl (by kernel_rfl) (by kernel_rfl) (by kernel_rfl) (fun _ _ _ h => h) (Or.inl ⟨by rfl, fun w' hw' => by have q1 : w'.cell? ⟨X, 0, none⟩ = some (.int .i64 s0) := Rw.cell hw' 0; go_simp⟩) hH ?_
          refine wpAnyH_take (i := 4) (v := .int .i64 0) rfl (by kernel_rfl) (by kernel_rfl) (by kernel_rfl) (fun _ _ _ h => h) (Or.inl ⟨by rfl, fun w' _ => by go_simp⟩) hH ?_
          refine wpAnyH_take (i := 5) (v := .pointer (some ⟨X, 2, none⟩)) rfl (by kernel_rfl) (by kernel_rfl) (by kernel_rfl) (fun _ _ _ h => h) (Or.inl ⟨by rfl, fun w' _ => by go_simp⟩) hH ?_
          refine wpAnyH_take (i := 6) (v := .pointer (some ⟨X, 2, none⟩)) rfl (by kernel_rfl) (by kernel_rfl) (by kernel_rfl) (fun _ _ _ h => h) (Or.inl ⟨by rfl, fun w' _ => by go_simp⟩) hH ?_
          refine wpAnyH_take (i := 7) (v := .int .i64 z0) rfl (by kernel_rfl) (by kernel_rfl) (by kernel_rfl) (fun _ _ _ h => h) (Or.inl ⟨by rfl, fun w' hw' => by have q1 : w'.cell? ⟨X, 2, none⟩ = some (.int .i64 z0) := Rw.cell hw' 2; go_simp⟩) hH ?_
          refine wpAnyH_ready (rs := [8]) (by kernel_rfl) (by simp) ?_
          refine AllReadyH.cons rfl (fun K hK => ?_) AllReadyH.nil
          go_simp
          refine Calls.mono (xnew_no (w := wr.drew.drew) s0 z0 ok) ?_
          rintro e w1 ⟨rfl, hw⟩
          subst hw
          refine hK.out _ _ ⟨RX6.out.eq⟩ (fun hH => ?_)
          clear hK K
          refine wpAnyH_take (i := 9) (v := .tuple #[.pointer none, .int .i64 30]) rfl (by kernel_rfl) (by kernel_rfl) (by kernel_rfl) (fun _ _ _ h => h) (Or.inl ⟨by rfl, fun w' _ => by go_simp⟩) hH ?_
          refine wpAnyH_take (i := 10) (v := .pointer none) rfl (by kernel_rfl) (by kernel_rfl) (by kernel_rfl) (fun _ _ _ h => h) (Or.inl ⟨by rfl, fun w' _ => by go_simp⟩) hH ?_
          refine wpAnyH_take (i := 11) (v := .int .i64 30) rfl (by kernel_rfl) (by kernel_rfl) (by kernel_rfl) (fun _ _ _ h => h) (Or.inl ⟨by rfl, fun w' _ => by go_simp⟩) hH ?_
          refine wpAnyH_take (i := 12) (v := .pointer none) rfl (by kernel_rfl) (by kernel_rfl) (by kernel_rfl) (fun _ _ _ h => h) (Or.inl ⟨by rfl, fun w' _ => by go_simp⟩) hH ?_
          refine wpAnyH_take (i := 13) (v := .int .i64 30) rfl (by kernel_rfl) (by kernel_rfl) (by kernel_rfl) (fun _ _ _ h => h) (Or.inl ⟨by rfl, fun w' _ => by go_simp⟩) hH ?_
          refine wpAnyH_done (by kernel_rfl) ?_ _
          clear hH
          obtain ⟨wq, hwq⟩ : ∃ v, v = wr.drew.drew := ⟨_, rfl⟩
          have cq : Chg (fun _ => False) wr wq := by rw [hwq]; exact (Chg.refl _ wr).drew.drew
          rw [← hwq]
          have pnq := PN1.out.frame cq
          obtain ⟨pn3, ch3⟩ := pnq.nop (k := 0) (PK.out 0 (Nat.le_refl _)) (by decide)
          have cD : wq.cell? ⟨X + 1, 0, none⟩ = some (.pointer none) := by
            rw [pnq.rowD.cell 0]
            simp [PK.out 0 (Nat.le_refl _), dptr]
          have fD := pnq.rowD.fr 0
          have r3 : Rw (wq.setCell ⟨X + 1, 0, none⟩ (.pointer none)) (X + 2) #[rptr (Pp 0), rptr (Pp 1)] 31 := ⟨((Chg.refl (fun g => g = X + 1) wq).setCell (p := ⟨X + 1, 0, none⟩) (.inl rfl) _).heap_some pnq.rowR.eq (fun e => by omega)⟩
          have cR : (wq.setCell ⟨X + 1, 0, none⟩ (.pointer none)).cell? ⟨X + 2, 0, none⟩ = some (.pointer none) := by
            rw [r3.cell 0]
            simp [PK.out 0 (Nat.le_refl _), rptr]
          have fR := r3.fr 0
          have R9 : Hid _ := (⟨CH1.out.trans ((cq.mono (fun _ _ h => h.elim)).trans ch3 (fun _ e => .inl e)) (fun _ e => .inl e), pn3, fun k hk => PK.out k (by omega)⟩ : Chg (fun g => X + 1 ≤ g) W ((wq.setCell ⟨X + 1, 0, none⟩ (.pointer none)).setCell ⟨X + 2, 0, none⟩ (.pointer none)) ∧ PN ((wq.setCell ⟨X + 1, 0, none⟩ (.pointer none)).setCell ⟨X + 2, 0, none⟩ (.pointer none)) (X + 1) (X + 1) (X + 2) Pp ∧ ∀ k, 0 + 1 ≤ k → Pp k = none)
          clear pn3 ch3 cq r3 hwq pnq ok
          go_wp2_with fail
          go_roundw
          case rel => exact ⟨0 + 1, _, by decide, rfl, R9.out⟩
          case measure => simp [intOf]
      · have PK : Hid _ := pk
        clear pk hlt hi2
        by_cases ok : okDisk s1 z1
        · obtain ⟨S, hS⟩ : ∃ S : Nat, s1 = S := ⟨s1.toNat, by have := ok.2.1; omega⟩
          obtain ⟨Z, hZ⟩ : ∃ Z : Nat, z1 = Z := ⟨z1.toNat, by have := fits_b ok.1; omega⟩
          subst hS hZ
          have OK : Hid _ := ok
          clear ok
          go_upto_region 6 with fail
          refine wp_region_held_drew (S := fun w' => Rw w' X (storyC s0 S z0 Z (.slice aa NN acp)).toArray 25) (by kernel_rfl) RX6.out (fun hH => ?_)
          refine wpAnyH_take (i := 0) (v := .int .i64 1) rfl (by kernel_rfl) (by kernel_rfl) (by kernel_rfl) (fun _ _ _ h => h) (Or.inl ⟨by rfl, fun w' _ => by go_simp⟩) hH ?_
          refine wpAnyH_take (i := 1) (v := .pointer (some ⟨X, 0, none⟩)) rfl (by kernel_rfl) (by kernel_rfl) (by kernel_rfl) (fun _ _ _ h => h) (Or.inl ⟨by rfl, fun w' _ => by go_simp⟩) hH ?_
          refine wpAnyH_take (i := 2) (v := .pointer (some ⟨X, 1, none⟩)) rfl (by kernel_rfl) (by kernel_rfl) (by kernel_rfl) (fun _ _ _ h => h) (Or.inl ⟨by rfl, fun w' _ => by go_simp⟩) hH ?_
          refine wpAnyH_take (i := 3) (v := .int .i64 (S : Int)) rfl (by kernel_rfl) (by kernel_rfl) (by kernel_rfl) (fun _ _ _ h => h) (Or.inl ⟨by rfl, fun w' hw' => by have q1 : w'.cell? ⟨X, 1, none⟩ = some (.int .i64 (S : Int)) := Rw.cell hw' 1; go_simp⟩) hH ?_
          refine wpAnyH_take (i := 4) (v := .int .i64 1) rfl (by kernel_rfl) (by kernel_rfl) (by kernel_rfl) (fun _ _ _ h => h) (Or.inl ⟨by rfl, fun w' _ => by go_simp⟩) hH ?_
          refine wpAnyH_take (i := 5) (v := .pointer (some ⟨X, 2, none⟩)) rfl (by kernel_rfl) (by kernel_rfl) (by kernel_rfl) (fun _ _ _ h => h) (Or.inl ⟨by rfl, fun w' _ => by go_simp⟩) hH ?_
          refine wpAnyH_take (i := 6) (v := .pointer (some ⟨X, 3, none⟩)) rfl (by kernel_rfl) (by kernel_rfl) (by kernel_rfl) (fun _ _ _ h => h) (Or.inl ⟨by rfl, fun w' _ => by go_simp⟩) hH ?_
          refine wpAnyH_take (i := 7) (v := .int .i64 (Z : Int)) rfl (by kernel_rfl) (by kernel_rfl) (by kernel_rfl) (fun _ _ _ h => h) (Or.inl ⟨by rfl, fun w' hw' => by have q1 : w'.cell? ⟨X, 3, none⟩ = some (.int .i64 (Z : Int)) := Rw.cell hw' 3; go_simp⟩) hH ?_
          refine wpAnyH_ready (rs := [8]) (by kernel_rfl) (by simp) ?_
          refine AllReadyH.cons rfl (fun K hK => ?_) AllReadyH.nil
          go_simp
          refine Calls.mono (new_yes (w := wr.drew) (S : Int) (Z : Int) OK.out) ?_
          rintro e w1 ⟨rfl, dk, bl⟩
          have bl1 : Below wr.heap.size wr w1 := ⟨bl.os, bl.tape, bl.output, bl.size, bl.block⟩
          have rx1 : Rw w1 X (storyC s0 S z0 Z (.slice aa NN acp)).toArray 25 := rwb RX6.out bl
          have DK1 : Hid (DK w1 (wr.heap.size + 2) S Z wr.heap.size (wr.heap.size + 1) 0 0) := dk
          have BL1 : Hid _ := bl1
          have RX7 : Hid (Rw w1.drew X (storyC s0 S z0 Z (.slice aa NN acp)).toArray 25) := ⟨rx1.eq⟩
          refine hK.out _ _ rx1 (fun hH => ?_)
          clear hK K dk bl bl1
          refine wpAnyH_take (i := 9) (v := .tuple #[.pointer (some ⟨wr.heap.size + 2, 0, none⟩), .int .i64 0]) rfl (by kernel_rfl) (by kernel_rfl) (by kernel_rfl) (fun _ _ _ h => h) (Or.inl ⟨by rfl, fun w' _ => by go_simp⟩) hH ?_
          refine wpAnyH_take (i := 10) (v := .pointer (some ⟨wr.heap.size + 2, 0, none⟩)) rfl (by kernel_rfl) (by kernel_rfl) (by kernel_rfl) (fun _ _ _ h => h) (Or.inl ⟨by rfl, fun w' _ => by go_simp⟩) hH ?_
          refine wpAnyH_take (i := 11) (v := .int .i64 0) rfl (by kernel_rfl) (by kernel_rfl) (by kernel_rfl) (fun _ _ _ h => h) (Or.inl ⟨by rfl, fun w' _ => by go_simp⟩) hH ?_
          refine wpAnyH_take (i := 12) (v := .pointer (some ⟨wr.heap.size + 2, 0, none⟩)) rfl (by kernel_rfl) (by kernel_rfl) (by kernel_rfl) (fun _ _ _ h => h) (Or.inl ⟨by rfl, fun w' _ => by go_simp⟩) hH ?_
          refine wpAnyH_take (i := 13) (v := .int .i64 0) rfl (by kernel_rfl) (by kernel_rfl) (by kernel_rfl) (fun _ _ _ h => h) (Or.inl ⟨by rfl, fun w' _ => by go_simp⟩) hH ?_
          refine wpAnyH_done (by kernel_rfl) ?_ _
          clear hH
          go_upto_region 7 with fail
          refine wp_region_held_drew (S := fun w' => Rw w' X (storyC s0 S z0 Z (.slice aa NN acp)).toArray 25) (by kernel_rfl) RX7.out (fun hH => ?_)
          refine wpAnyH_take (i := 0) (v := .int .i64 1) rfl (by kernel_rfl) (by kernel_rfl) (by kernel_rfl) (fun _ _ _ h => h) (Or.inl ⟨by rfl, fun w' _ => by go_simp⟩) hH ?_
          refine wpAnyH_take (i := 1) (v := .pointer (some ⟨X, 0, none⟩)) rfl (by kernel_rfl) (by kernel_rfl) (by kernel_rfl) (fun _ _ _ h => h) (Or.inl ⟨by rfl, fun w' _ => by go_simp⟩) hH ?_
          refine wpAnyH_take (i := 2) (v := .pointer (some ⟨X, 1, none⟩)) rfl (by kernel_rfl) (by kernel_rfl) (by kernel_rfl) (fun _ _ _ h => h) (Or.inl ⟨by rfl, fun w' _ => by go_simp⟩) hH ?_
          refine wpAnyH_take (i := 3) (v := .int .i64 (S : Int)) rfl (by kernel_rfl) (by kernel_rfl) (by kernel_rfl) (fun _ _ _ h => h) (Or.inl ⟨by rfl, fun w' hw' => by have q1 : w'.cell? ⟨X, 1, none⟩ = some (.int .i64 (S : Int)) := Rw.cell hw' 1; go_simp⟩) hH ?_
          refine wpAnyH_take (i := 4) (v := .int .i64 1) rfl (by kernel_rfl) (by kernel_rfl) (by kernel_rfl) (fun _ _ _ h => h) (Or.inl ⟨by rfl, fun w' _ => by go_simp⟩) hH ?_
          refine wpAnyH_take (i := 5) (v := .pointer (some ⟨X, 2, none⟩)) rfl (by kernel_rfl) (by kernel_rfl) (by kernel_rfl) (fun _ _ _ h => h) (Or.inl ⟨by rfl, fun w' _ => by go_simp⟩) hH ?_
          refine wpAnyH_take (i := 6) (v := .pointer (some ⟨X, 3, none⟩)) rfl (by kernel_rfl) (by kernel_rfl) (by kernel_rfl) (fun _ _ _ h => h) (Or.inl ⟨by rfl, fun w' _ => by go_simp⟩) hH ?_
          refine wpAnyH_take (i := 7) (v := .int .i64 (Z : Int)) rfl (by kernel_rfl) (by kernel_rfl) (by kernel_rfl) (fun _ _ _ h => h) (Or.inl ⟨by rfl, fun w' hw' => by have q1 : w'.cell? ⟨X, 3, none⟩ = some (.int .i64 (Z : Int)) := Rw.cell hw' 3; go_simp⟩) hH ?_
          refine wpAnyH_ready (rs := [8]) (by kernel_rfl) (by simp) ?_
          refine AllReadyH.cons rfl (fun K hK => ?_) AllReadyH.nil
          go_simp
          refine Calls.mono (xnew_yes (w := w1.drew) (S : Int) (Z : Int) OK.out) ?_
          rintro e w2 ⟨rfl, rq, bl⟩
          have bl2 : Below w1.heap.size w1 w2 := ⟨bl.os, bl.tape, bl.output, bl.size, bl.block⟩
          have rx2 : Rw w2 X (storyC s0 S z0 Z (.slice aa NN acp)).toArray 25 := rwb RX7.out bl
          have PRM : Hid (Pr w2 0 (pc0 (wr.heap.size + 2) w1.heap.size S Z wr.heap.size (wr.heap.size + 1))) := Pr.made OK.out DK1.out (by omega) bl2 rfl rq
          have BL2 : Hid _ := bl2
          refine hK.out _ _ rx2 (fun hH => ?_)
          clear hK K rq bl bl2 rx1
          refine wpAnyH_take (i := 9) (v := .tuple #[.pointer (some ⟨w1.heap.size, 0, none⟩), .int .i64 0]) rfl (by kernel_rfl) (by kernel_rfl) (by kernel_rfl) (fun _ _ _ h => h) (Or.inl ⟨by rfl, fun w' _ => by go_simp⟩) hH ?_
          refine wpAnyH_take (i := 10) (v := .pointer (some ⟨w1.heap.size, 0, none⟩)) rfl (by kernel_rfl) (by kernel_rfl) (by kernel_rfl) (fun _ _ _ h => h) (Or.inl ⟨by rfl, fun w' _ => by go_simp⟩) hH ?_
          refine wpAnyH_take (i := 11) (v := .int .i64 0) rfl (by kernel_rfl) (by kernel_rfl) (by kernel_rfl) (fun _ _ _ h => h) (Or.inl ⟨by rfl, fun w' _ => by go_simp⟩) hH ?_
          refine wpAnyH_take (i := 12) (v := .pointer (some ⟨w1.heap.size, 0, none⟩)) rfl (by kernel_rfl) (by kernel_rfl) (by kernel_rfl) (fun _ _ _ h => h) (Or.inl ⟨by rfl, fun w' _ => by go_simp⟩) hH ?_
          refine wpAnyH_take (i := 13) (v := .int .i64 0) rfl (by kernel_rfl) (by kernel_rfl) (by kernel_rfl) (fun _ _ _ h => h) (Or.inl ⟨by rfl, fun w' _ => by go_simp⟩) hH ?_
          refine wpAnyH_done (by kernel_rfl) ?_ _
          clear hH
          have q1 := BL1.out.size
          have q2 := BL2.out.size
          have ch2 : Chg (fun _ => False) wr w2 := (Chg.of_below BL1.out (fun _ => False)).trans (Chg.of_below BL2.out (fun _ => False)) (fun _ h => h.elim)
          obtain ⟨pn3, ch3⟩ := PN1.out.put (k := 1) (PK.out 1 (Nat.le_refl _)) (by decide) ch2 PRM.out (fun g hg => by
            rcases hg with (e | e | e) | e
            · have e : g = wr.heap.size + 2 := e
              omega
            · have e : g = wr.heap.size := e
              omega
            · have e : g = wr.heap.size + 1 := e
              omega
            · have e : g = w1.heap.size := e
              omega)
          have cD : w2.cell? ⟨X + 1, 1, none⟩ = some (.pointer none) := by
            have h2 := (PN1.out.frame ch2).rowD.cell 1
            rw [h2]
            simp [PK.out 1 (Nat.le_refl _), dptr]
          have fD := (PN1.out.frame ch2).rowD.fr 1
          have r3 : Rw (w2.setCell ⟨X + 1, 1, none⟩ (.pointer (some ⟨wr.heap.size + 2, 0, none⟩))) (X + 2) #[rptr (Pp 0), rptr (Pp 1)] 31 := ⟨((Chg.refl (fun g => g = X + 1) w2).setCell (p := ⟨X + 1, 1, none⟩) (.inl rfl) _).heap_some (PN1.out.frame ch2).rowR.eq (fun e => by omega)⟩
          have cR : (w2.setCell ⟨X + 1, 1, none⟩ (.pointer (some ⟨wr.heap.size + 2, 0, none⟩))).cell? ⟨X + 2, 1, none⟩ = some (.pointer none) := by
            rw [r3.cell 1]
            simp [PK.out 1 (Nat.le_refl _), rptr]
          have fR := r3.fr 1
          have R9 : Hid _ := (⟨CH1.out.trans ch3 (fun _ e => .inl e), pn3, fun k hk => by rw [updT_other _ _ (by omega)]; exact PK.out k (by omega)⟩ : Chg (fun g => X + 1 ≤ g) W ((w2.setCell ⟨X + 1, 1, none⟩ (.pointer (some ⟨wr.heap.size + 2, 0, none⟩))).setCell ⟨X + 2, 1, none⟩ (.pointer (some ⟨w1.heap.size, 0, none⟩))) ∧ PN ((w2.setCell ⟨X + 1, 1, none⟩ (.pointer (some ⟨wr.heap.size + 2, 0, none⟩))).setCell ⟨X + 2, 1, none⟩ (.pointer (some ⟨w1.heap.size, 0, none⟩))) (X + 1) (X + 1) (X + 2) (updT Pp 1 (some (pc0 (wr.heap.size + 2) w1.heap.size S Z wr.heap.size (wr.heap.size + 1)))) ∧ ∀ k, 1 + 1 ≤ k → updT Pp 1 (some (pc0 (wr.heap.size + 2) w1.heap.size S Z wr.heap.size (wr.heap.size + 1))) k = none)
          clear pn3 ch3 ch2 q1 q2 r3
          go_wp2_with fail
          go_roundw
          case rel => exact ⟨1 + 1, _, by decide, rfl, R9.out⟩
          case measure => simp [intOf]
        · go_upto_region 6 with fail
          refine wp_region_held_drew (S := fun w' => Rw w' X (storyC s0 s1 z0 z1 (.slice aa NN acp)).toArray 25) (by kernel_rfl) RX6.out (fun hH => ?_)
          refine wpAnyH_take (i := 0) (v := .int .i64 1) rfl (by kernel_rfl) (by kernel_rfl) (by kernel_rfl) (fun _ _ _ h => h) (Or.inl ⟨by rfl, fun w' _ => by go_simp⟩) hH ?_
          refine wpAnyH_take (i := 1) (v := .pointer (some ⟨X, 0, none⟩)) rfl (by kernel_rfl) (by kernel_rfl) (by kernel_rfl) (fun _ _ _ h => h) (Or.inl ⟨by rfl, fun w' _ => by go_simp⟩) hH ?_
          refine wpAnyH_take (i := 2) (v := .pointer (some ⟨X, 1, none⟩)) rfl (by kernel_rfl) (by kernel_rfl) (by kernel_rfl) (fun _ _ _ h => h) (Or.inl ⟨by rfl, fun w' _ => by go_simp⟩) hH ?_
          refine wpAnyH_take (i := 3) (v := .int .i64 s1) rfl (by kernel_rfl) (by kernel_rfl) (by kernel_rfl) (fun _ _ _ h => h) (Or.inl ⟨by rfl, fun w' hw' => by have q1 : w'.cell? ⟨X, 1, none⟩ = some (.int .i64 s1) := Rw.cell hw' 1; go_simp⟩) hH ?_
          refine wpAnyH_take (i := 4) (v := .int .i64 1) rfl (by kernel_rfl) (by kernel_rfl) (by kernel_rfl) (fun _ _ _ h => h) (Or.inl ⟨by rfl, fun w' _ => by go_simp⟩) hH ?_
          refine wpAnyH_take (i := 5) (v := .pointer (some ⟨X, 2, none⟩)) rfl (by kernel_rfl) (by kernel_rfl) (by kernel_rfl) (fun _ _ _ h => h) (Or.inl ⟨by rfl, fun w' _ => by go_simp⟩) hH ?_
          refine wpAnyH_take (i := 6) (v := .pointer (some ⟨X, 3, none⟩)) rfl (by kernel_rfl) (by kernel_rfl) (by kernel_rfl) (fun _ _ _ h => h) (Or.inl ⟨by rfl, fun w' _ => by go_simp⟩) hH ?_
          refine wpAnyH_take (i := 7) (v := .int .i64 z1) rfl (by kernel_rfl) (by kernel_rfl) (by kernel_rfl) (fun _ _ _ h => h) (Or.inl ⟨by rfl, fun w' hw' => by have q1 : w'.cell? ⟨X, 3, none⟩ = some (.int .i64 z1) := Rw.cell hw' 3; go_simp⟩) hH ?_
          refine wpAnyH_ready (rs := [8]) (by kernel_rfl) (by simp) ?_
          refine AllReadyH.cons rfl (fun K hK => ?_) AllReadyH.nil
          go_simp
          refine Calls.mono (new_no (w := wr.drew) s1 z1 ok) ?_
          rintro e w1 ⟨rfl, hw⟩
          subst hw
          have RX7 : Hid (Rw wr.drew.drew X (storyC s0 s1 z0 z1 (.slice aa NN acp)).toArray 25) := ⟨RX6.out.eq⟩
          refine hK.out _ _ ⟨RX6.out.eq⟩ (fun hH => ?_)
          clear hK K
          refine wpAnyH_take (i := 9) (v := .tuple #[.pointer none, .int .i64 30]) rfl (by kernel_rfl) (by kernel_rfl) (by kernel_rfl) (fun _ _ _ h => h) (Or.inl ⟨by rfl, fun w' _ => by go_simp⟩) hH ?_
          refine wpAnyH_take (i := 10) (v := .pointer none) rfl (by kernel_rfl) (by kernel_rfl) (by kernel_rfl) (fun _ _ _ h => h) (Or.inl ⟨by rfl, fun w' _ => by go_simp⟩) hH ?_
          refine wpAnyH_take (i := 11) (v := .int .i64 30) rfl (by kernel_rfl) (by kernel_rfl) (by kernel_rfl) (fun _ _ _ h => h) (Or.inl ⟨by rfl, fun w' _ => by go_simp⟩) hH ?_
          refine wpAnyH_take (i := 12) (v := .pointer none) rfl (by kernel_rfl) (by kernel_rfl) (by kernel_rfl) (fun _ _ _ h => h) (Or.inl ⟨by rfl, fun w' _ => by go_simp⟩) hH ?_
          refine wpAnyH_take (i := 13) (v := .int .i64 30) rfl (by kernel_rfl) (by kernel_rfl) (by kernel_rfl) (fun _ _ _ h => h) (Or.inl ⟨by rfl, fun w' _ => by go_simp⟩) hH ?_
          refine wpAnyH_done (by kernel_rfl) ?_ _
          clear hH
          go_upto_region 7 with fail
          refine wp_region_held_drew (S := fun w' => Rw w' X (storyC s0 s1 z0 z1 (.slice aa NN acp)).toArray 25) (by kernel_rfl) RX7.out (fun hH => ?_)
          refine wpAnyH_take (i := 0) (v := .int .i64 1) rfl (by kernel_rfl) (by kernel_rfl) (by kernel_rfl) (fun _ _ _ h => h) (Or.inl ⟨by rfl, fun w' _ => by go_simp⟩) hH ?_
          refine wpAnyH_take (i := 1) (v := .pointer (some ⟨X, 0, none⟩)) rfl (by kernel_rfl) (by kernel_rfl) (by kernel_rfl) (fun _ _ _ h => h) (Or.inl ⟨by rfl, fun w' _ => by go_simp⟩) hH ?_
          refine wpAnyH_take (i := 2) (v := .pointer (some ⟨X, 1, none⟩)) rfl (by kernel_rfl) (by kernel_rfl) (by kernel_rfl) (fun _ _ _ h => h) (Or.inl ⟨by rfl, fun w' _ => by go_simp⟩) hH ?_
          refine wpAnyH_take (i := 3) (v := .int .i64 s1) rfl (by kernel_rfl) (by kernel_rfl) (by kernel_rfl) (fun _ _ _ h => h) (Or.inl ⟨by rfl, fun w' hw' => by have q1 : w'.cell? ⟨X, 1, none⟩ = some (.int .i64 s1) := Rw.cell hw' 1; go_simp⟩) hH ?_
          refine wpAnyH_take (i := 4) (v := .int .i64 1) rfl (by kernel_rfl) (by kernel_rfl) (by kernel_rfl) (fun _ _ _ h => h) (Or.inl ⟨by rfl, fun w' _ => by go_simp⟩) hH ?_
          refine wpAnyH_take (i := 5) (v := .pointer (some ⟨X, 2, none⟩)) rfl (by kernel_rfl) (by kernel_rfl) (by kernel_rfl) (fun _ _ _ h => h) (Or.inl ⟨by rfl, fun w' _ => by go_simp⟩) hH ?_
          refine wpAnyH_take (i := 6) (v := .pointer (some ⟨X, 3, none⟩)) rfl (by kernel_rfl) (by kernel_rfl) (by kernel_rfl) (fun _ _ _ h => h) (Or.inl ⟨by rfl, fun w' _ => by go_simp⟩) hH ?_
          refine wpAnyH_take (i := 7) (v := .int .i64 z1) rfl (by kernel_rfl) (by kernel_rfl) (by kernel_rfl) (fun _ _ _ h => h) (Or.inl ⟨by rfl, fun w' hw' => by have q1 : w'.cell? ⟨X, 3, none⟩ = some (.int .i64 z1) := Rw.cell hw' 3; go_simp⟩) hH ?_
          refine wpAnyH_ready (rs := [8]) (by kernel_rfl) (by simp) ?_
          refine AllReadyH.cons rfl (fun K hK => ?_) AllReadyH.nil
          go_simp
          refine Calls.mono (xnew_no (w := wr.drew.drew) s1 z1 ok) ?_
          rintro e w1 ⟨rfl, hw⟩
          subst hw
          refine hK.out _ _ ⟨RX6.out.eq⟩ (fun hH => ?_)
          clear hK K
          refine wpAnyH_take (i := 9) (v := .tuple #[.pointer none, .int .i64 30]) rfl (by kernel_rfl) (by kernel_rfl) (by kernel_rfl) (fun _ _ _ h => h) (Or.inl ⟨by rfl, fun w' _ => by go_simp⟩) hH ?_
          refine wpAnyH_take (i := 10) (v := .pointer none) rfl (by kernel_rfl) (by kernel_rfl) (by kernel_rfl) (fun _ _ _ h => h) (Or.inl ⟨by rfl, fun w' _ => by go_simp⟩) hH ?_
          refine wpAnyH_take (i := 11) (v := .int .i64 30) rfl (by kernel_rfl) (by kernel_rfl) (by kernel_rfl) (fun _ _ _ h => h) (Or.inl ⟨by rfl, fun w' _ => by go_simp⟩) hH ?_
          refine wpAnyH_take (i := 12) (v := .pointer none) rfl (by kernel_rfl) (by kernel_rfl) (by kernel_rfl) (fun _ _ _ h => h) (Or.inl ⟨by rfl, fun w' _ => by go_simp⟩) hH ?_
          refine wpAnyH_take (i := 13) (v := .int .i64 30) rfl (by kernel_rfl) (by kernel_rfl) (by kernel_rfl) (fun _ _ _ h => h) (Or.inl ⟨by rfl, fun w' _ => by go_simp⟩) hH ?_
          refine wpAnyH_done (by kernel_rfl) ?_ _
          clear hH
          obtain ⟨wq, hwq⟩ : ∃ v, v = wr.drew.drew := ⟨_, rfl⟩
          have cq : Chg (fun _ => False) wr wq := by rw [hwq]; exact (Chg.refl _ wr).drew.drew
          rw [← hwq]
          have pnq := PN1.out.frame cq
          obtain ⟨pn3, ch3⟩ := pnq.nop (k := 1) (PK.out 1 (Nat.le_refl _)) (by decide)
          have cD : wq.cell? ⟨X + 1, 1, none⟩ = some (.pointer none) := by
            rw [pnq.rowD.cell 1]
            simp [PK.out 1 (Nat.le_refl _), dptr]
          have fD := pnq.rowD.fr 1
          have r3 : Rw (wq.setCell ⟨X + 1, 1, none⟩ (.pointer none)) (X + 2) #[rptr (Pp 0), rptr (Pp 1)] 31 := ⟨((Chg.refl (fun g => g = X + 1) wq).setCell (p := ⟨X + 1, 1, none⟩) (.inl rfl) _).heap_some pnq.rowR.eq (fun e => by omega)⟩
          have cR : (wq.setCell ⟨X + 1, 1, none⟩ (.pointer none)).cell? ⟨X + 2, 1, none⟩ = some (.pointer none) := by
            rw [r3.cell 1]
            simp [PK.out 1 (Nat.le_refl _), rptr]
          have fR := r3.fr 1
          have R9 : Hid _ := (⟨CH1.out.trans ((cq.mono (fun _ _ h => h.elim)).trans ch3 (fun _ e => .inl e)) (fun _ e => .inl e), pn3, fun k hk => PK.out k (by omega)⟩ : Chg (fun g => X + 1 ≤ g) W ((wq.setCell ⟨X + 1, 1, none⟩ (.pointer none)).setCell ⟨X + 2, 1, none⟩ (.pointer none)) ∧ PN ((wq.setCell ⟨X + 1, 1, none⟩ (.pointer none)).setCell ⟨X + 2, 1, none⟩ (.pointer none)) (X + 1) (X + 1) (X + 2) Pp ∧ ∀ k, 1 + 1 ≤ k → Pp k = none)
          clear pn3 ch3 cq r3 hwq pnq ok
          go_wp2_with fail
          go_roundw
          case rel => exact ⟨1 + 1, _, by decide, rfl, R9.out⟩
          case measure => simp [intOf]
    · have hi3 : 2 = i := by omega
      subst hi3
      obtain ⟨wP, hwP⟩ : ∃ v, v = wr := ⟨_, rfl⟩
      subst hwP
      have lgB : X + 1 ≤ wP.heap.size := by have := ch1.size; have := SW.out; omega
      obtain ⟨lg, hlg⟩ : ∃ v, v = wP.heap.size := ⟨_, rfl⟩
      obtain ⟨wL, hwL⟩ : ∃ v, v = wP.alloc (.cells #[.slice none 0 0, .slice none 0 0, .slice none 0 0, .slice none 0 0, .int .i64 0] 41) := ⟨_, rfl⟩
      have py0 : PY wL (X + 1) lg (X + 1) (X + 2) 0 (fun g => g = lg) Pp := by rw [hwL, hlg]; exact pn1.ledger lgB
      have chL : Chg (fun g => X + 1 ≤ g) W wL := by rw [hwL]; exact ch1.alloc _
      have PY0 : Hid _ := py0
      have CHL : Hid _ := chL
      clear py0 chL lgB ch1 pn1 pk hlt hi2 CH1 PN1
      go_upto_region 13 with fail
      rw [← hwL, ← hlg]
      clear hwL hlg
      go_wp2_with fail
      go_loopw [15] (fun x wr => ∃ (i : Nat) (BL : Nat → Prop) (Pp : Nat → Option Pc), i ≤ NN ∧ x = .int .i64 i ∧ Hid (Chg (fun g => X + 1 ≤ g) W wr ∧ PY wr (X + 1) lg (X + 1) (X + 2) i BL Pp)) (fun x _ => NN - (intOf x).toNat)
      case atStart => exact ⟨0, _, Pp, Nat.zero_le _, rfl, CHL.out, PY0.out⟩
      case round =>
        obtain ⟨i, BL, Pp, hiN, rfl, hid⟩ := hrel
        obtain ⟨chA, pyA⟩ := hid.out
        clear hid
        obtain ⟨wA, hwA⟩ : ∃ v, v = wr := ⟨_, rfl⟩
        subst hwA
        have rxA : Rw wA X (storyC s0 s1 z0 z1 (.slice aa NN acp)).toArray 25 := ⟨chA.heap_some RX.out.eq (fun e => by omega)⟩
        have k4 : wA.cell? ⟨X, 4, none⟩ = some (.slice aa NN acp) := rxA.cell 4
        by_cases hlt : i < NN
        · obtain ⟨ag, ao, rfl, hcs⟩ := HAC.out.acs.row i hlt
          have belA : Below w.heap.size w wA := BW.out.trans ((chA.below (B := X) (by have := SW.out; omega) (fun k e => by omega)).mono (by rw [← HX.out]; exact Nat.le_refl _))
          have rg : wA.rangeAt ag (ao + i * 9) (ac i).cells := fun j v hv => by
            have := hcs j v hv
            rw [belA.cell (World.block_lt_of_cell? _ _ this)]
            exact this
          have RG : Hid _ := rg
          have CHA : Hid _ := chA
          have PYA : Hid _ := pyA
          have BELA : Hid _ := belA
          clear hcs rg chA pyA belA rxA
          go_upto_region 17 with (first
            | refine wpList_load_mid rfl 44 (.tmp 76) rfl ag (ao + i * 9) rfl (ac i).cells _ RG.out Try.underlying44 rfl (by kernel_rfl) ?_
            | (refine wpList_store_part rfl 44 (.tmp 16) (.tmp 77) rfl wA.heap.size 0 (ac i).cells rfl rfl (t := 44) ⟨heap_alloc_new _ _⟩ (by simp [Ac.cells, actC]) (by kernel_rfl) (act_one _) ?_; intro wB hw8 hc8; rw [splice_all _ _ (by simp [Ac.cells, actC])] at hw8; have c8 : Chg (fun _ => False) wA wB := ((Chg.refl (fun _ => False) wA).alloc _).trans hc8 (fun i e => .inr (by omega)); have RAA : Hid _ := hw8; have CB : Hid _ := c8; clear hw8 hc8 c8))
          have PYB : Hid _ := PYA.out.frame CB.out
          have CHB : Hid (Chg (fun g => X + 1 ≤ g) W wB) := CHA.out.trans CB.out (fun _ h => h.elim)
          have BELB : Hid (Below w.heap.size w wB.drew) := by
            have h1 : Below wA.heap.size wA wB := CB.out.below (Nat.le_refl _) (fun _ h => h.elim)
            have h2 := BELA.out.trans (h1.mono BELA.out.size)
            exact ⟨h2.os, h2.tape, h2.output, h2.size, h2.block⟩
          have k0 : wB.cell? ⟨wA.heap.size, 0, none⟩ = some (.int .i64 (ac i).on) := RAA.out.cell 0
          have k1 : wB.cell? ⟨wA.heap.size, 1, none⟩ = some (.int .i64 (ac i).kd) := RAA.out.cell 1
          have RDD : Hid (Rw wB (X + 1) #[dptr (Pp 0), dptr (Pp 1)] 29) := PYB.out.rowD
          have RRR : Hid (Rw wB (X + 2) #[rptr (Pp 0), rptr (Pp 1)] 31) := PYB.out.rowR
          clear k4
          obtain ⟨kk, hkk, hbit⟩ : ∃ kk : Nat, kk < 2 ∧ bits BinOp.and IntKind.i64 (ac i).on 1 = (kk : Int) := by
            rcases and_one_any (ac i).on with h | h
            · exact ⟨0, by decide, h⟩
            · exact ⟨1, by decide, h⟩
          cases hP : Pp kk with
          | none =>
            have cR : wB.cell? ⟨X + 2, kk, none⟩ = some (.pointer none) := two_cell rptr RRR.out hkk hP
            have PY5 : Hid (PY wB (X + 1) lg (X + 1) (X + 2) (i + 1) BL Pp) := PYB.out.mono (Nat.le_succ _)
            clear hP
            go_wp2_with fail
            go_roundw
            case rel =>
              repeat apply Exists.intro
              exact ⟨⟨i + 1, BL, Pp, by omega, by go_num, CHB.out, PY5.out⟩, rfl⟩
            case measure => simp [intOf]; omega
          | some xx =>
            have cR : wB.cell? ⟨X + 2, kk, none⟩ = some (.pointer (some ⟨xx.q, 0, none⟩)) := two_cell rptr RRR.out hkk hP
            have HXX : Hid (Pp kk = some xx) := hP
            have b3 : ∀ g, B3 xx.BD xx.BR BL g → X + 1 ≤ g ∧ g ≠ X + 1 ∧ g ≠ X + 2 := fun g e => by
              rcases e with e | e | e
              · exact PYA.out.lo kk xx g hP (.inl e)
              · exact PYA.out.lo kk xx g hP (.inr e)
              · exact PYA.out.ll g e
            have LOB : Hid (∀ g, B3 xx.BD xx.BR BL g → X + 1 ≤ g) := fun g e => (b3 g e).1
            have NDD : Hid (¬ B3 xx.BD xx.BR BL (X + 1)) := fun e => (b3 _ e).2.1 rfl
            have NRR : Hid (¬ B3 xx.BD xx.BR BL (X + 2)) := fun e => (b3 _ e).2.2 rfl
            have NAA : Hid (¬ B3 xx.BD xx.BR BL wA.heap.size) := fun e => by
              rcases e with e | e | e
              · exact Nat.lt_irrefl _ ((PYA.out.pr kk xx hP).low _ (.inl e))
              · exact Nat.lt_irrefl _ ((PYA.out.pr kk xx hP).low _ (.inr e))
              · exact Nat.lt_irrefl _ (PYA.out.l.low _ e)
            clear hP b3
            go_upto_block 4 with fail
            go_cut [18, 19] from 66 to 169 (fun c _ wx => c = .bool true ∧ Hid (∃ (BL5 : Nat → Prop) (P5 : Nat → Option Pc), Chg (fun g => X + 1 ≤ g) W wx ∧ PY wx (X + 1) lg (X + 1) (X + 2) (i + 1) BL5 P5))
            case first =>
              by_cases n2 : (ac i).kd = 2
              · rw [n2] at k1 ⊢
                have HKD : Hid ((ac i).kd = 2 ∨ (ac i).kd = 3 ∨ (ac i).kd = 4 ∨ (ac i).kd = 5 ∨ (ac i).kd = 6) := by left; exact n2
                clear n2
                go_upto_region 27 with fail
                refine wp_region_held_drew (S := fun w' => Rw w' (X + 1) #[dptr (Pp 0), dptr (Pp 1)] 29 ∧ Rw w' (X + 2) #[rptr (Pp 0), rptr (Pp 1)] 31 ∧ Blk w' wA.heap.size (ac i).cells 44) (by kernel_rfl) ⟨⟨RDD.out.eq⟩, ⟨RRR.out.eq⟩, ⟨RAA.out.eq⟩⟩ (fun hH => ?_)
                refine wpAnyH_take (i := 0) (v := .int .i64 kk) rfl (by kernel_rfl) (by kernel_rfl) (by kernel_rfl) (fun _ _ _ h => h) (Or.inl ⟨by rfl, fun w' _ => by go_simp⟩) hH ?_
                refine wpAnyH_take (i := 1) (v := .pointer (some ⟨X + 1, kk, none⟩)) rfl (by kernel_rfl) (by kernel_rfl) (by kernel_rfl) (fun _ _ _ h => h) (Or.inl ⟨by rfl, fun w' _ => by go_simp; intro h9; omega⟩) hH ?_
                refine wpAnyH_take (i := 2) (v := .pointer (some ⟨xx.p, 0, none⟩)) rfl (by kernel_rfl) (by kernel_rfl) (by kernel_rfl) (fun _ _ _ h => h) (Or.inl ⟨by rfl, fun w' hw' => by have q1 : w'.cell? ⟨X + 1, kk, none⟩ = some (.pointer (some ⟨xx.p, 0, none⟩)) := two_cell dptr hw'.1 hkk HXX.out; go_simp⟩) hH ?_
                refine wpAnyH_take (i := 3) (v := .int .i64 kk) rfl (by kernel_rfl) (by kernel_rfl) (by kernel_rfl) (fun _ _ _ h => h) (Or.inl ⟨by rfl, fun w' _ => by go_simp⟩) hH ?_
                refine wpAnyH_take (i := 4) (v := .pointer (some ⟨X + 2, kk, none⟩)) rfl (by kernel_rfl) (by kernel_rfl) (by kernel_rfl) (fun _ _ _ h => h) (Or.inl ⟨by rfl, fun w' _ => by go_simp; intro h9; omega⟩) hH ?_
                refine wpAnyH_take (i := 5) (v := .pointer (some ⟨xx.q, 0, none⟩)) rfl (by kernel_rfl) (by kernel_rfl) (by kernel_rfl) (fun _ _ _ h => h) (Or.inl ⟨by rfl, fun w' hw' => by have q1 : w'.cell? ⟨X + 2, kk, none⟩ = some (.pointer (some ⟨xx.q, 0, none⟩)) := two_cell rptr hw'.2.1 hkk HXX.out; go_simp⟩) hH ?_
                refine wpAnyH_take (i := 6) (v := .agg (ac i).cells.toArray) rfl (by kernel_rfl) (by kernel_rfl) (by kernel_rfl) (fun _ _ _ h => h) (yieldsIf_load_mid (by rfl) _ _ rfl wA.heap.size 0 rfl _ _ (fun w' h => Blk.range h.2.2 (by simp)) Try.underlying44 rfl (by kernel_rfl)) hH ?_
                refine wpAnyH_take (i := 7) (v := .pointer (some ⟨lg, 0, none⟩)) rfl (by kernel_rfl) (by kernel_rfl) (by kernel_rfl) (fun _ _ _ h => h) (Or.inl ⟨by rfl, fun w' _ => by go_simp⟩) hH ?_
                refine wpAnyH_ready (rs := [8]) (by kernel_rfl) (by simp) ?_
                refine AllReadyH.cons rfl (fun K hK => ?_) AllReadyH.nil
                go_simp
                have pyd := PYB.out.frame ((Chg.refl (fun _ => False) wB).drew)
                refine Calls.mono (TS.powered (w := wB.drew) (pyd.ts HXX.out) (pyd.pr _ _ HXX.out).re (pyd.bd HXX.out (by omega)) (ac i) HKD.out (HAC.out.acs.nm i hlt) (HAC.out.acs.fl i hlt) (HAC.out.ls i hlt) ((HAC.out.kb i hlt).chg (Chg.of_below BELB.out (fun _ => False)) (fun _ _ _ _ h => h)) (HKN.out i hlt) (fun g o h0 e => by have h1 := HAC.out.low hlt g o h0 e; have h2 := HX.out; exact ⟨fun e2 => by have := LOB.out g e2; omega, Nat.lt_of_lt_of_le h1 BELB.out.size⟩)) ?_
                rintro e w5 ⟨rfl, pt⟩
                obtain ⟨BL5, x5, py5, ch5⟩ := pyd.act HXX.out pt
                have CHF : Hid (Chg (fun g => X + 1 ≤ g) W w5) := (CHB.out.drew).trans ch5 (fun _ e => .inl e)
                have PY5 : Hid _ := py5
                refine hK.out _ _ ⟨⟨pt.ch.heap_some RDD.out.eq NDD.out⟩, ⟨pt.ch.heap_some RRR.out.eq NRR.out⟩, ⟨pt.ch.heap_some RAA.out.eq NAA.out⟩⟩ (fun hH => ?_)
                clear hK K pyd pt py5 ch5
                refine wpAnyH_take (i := 9) (v := .bool true) rfl (by kernel_rfl) (by kernel_rfl) (by kernel_rfl) (fun _ _ _ h => h) (Or.inl ⟨by rfl, fun w' _ => by go_simp⟩) hH ?_
                refine wpAnyH_done (by kernel_rfl) ?_ _
                clear hH
                go_wp2_with fail
                go_meet
                case rel => exact ⟨rfl, _, _, CHF.out, PY5.out⟩
              by_cases n3 : (ac i).kd = 3
              · rw [n3] at k1 ⊢
                have HKD : Hid ((ac i).kd = 2 ∨ (ac i).kd = 3 ∨ (ac i).kd = 4 ∨ (ac i).kd = 5 ∨ (ac i).kd = 6) := by right; left; exact n3
                clear n2 n3
                go_upto_region 27 with fail
                refine wp_region_held_drew (S := fun w' => Rw w' (X + 1) #[dptr (Pp 0), dptr (Pp 1)] 29 ∧ Rw w' (X + 2) #[rptr (Pp 0), rptr (Pp 1)] 31 ∧ Blk w' wA.heap.size (ac i).cells 44) (by kernel_rfl) ⟨⟨RDD.out.eq⟩, ⟨RRR.out.eq⟩, ⟨RAA.out.eq⟩⟩ (fun hH => ?_)
                refine wpAnyH_take (i := 0) (v := .int .i64 kk) rfl (by kernel_rfl) (by kernel_rfl) (by kernel_rfl) (fun _ _ _ h => h) (Or.inl ⟨by rfl, fun w' _ => by go_simp⟩) hH ?_
                refine wpAnyH_take (i := 1) (v := .pointer (some ⟨X + 1, kk, none⟩)) rfl (by kernel_rfl) (by kernel_rfl) (by kernel_rfl) (fun _ _ _ h => h) (Or.inl ⟨by rfl, fun w' _ => by go_simp; intro h9; omega⟩) hH ?_
                refine wpAnyH_take (i := 2) (v := .pointer (some ⟨xx.p, 0, none⟩)) rfl (by kernel_rfl) (by kernel_rfl) (by kernel_rfl) (fun _ _ _ h => h) (Or.inl ⟨by rfl, fun w' hw' => by have q1 : w'.cell? ⟨X + 1, kk, none⟩ = some (.pointer (some ⟨xx.p, 0, none⟩)) := two_cell dptr hw'.1 hkk HXX.out; go_simp⟩) hH ?_
                refine wpAnyH_take (i := 3) (v := .int .i64 kk) rfl (by kernel_rfl) (by kernel_rfl) (by kernel_rfl) (fun _ _ _ h => h) (Or.inl ⟨by rfl, fun w' _ => by go_simp⟩) hH ?_
                refine wpAnyH_take (i := 4) (v := .pointer (some ⟨X + 2, kk, none⟩)) rfl (by kernel_rfl) (by kernel_rfl) (by kernel_rfl) (fun _ _ _ h => h) (Or.inl ⟨by rfl, fun w' _ => by go_simp; intro h9; omega⟩) hH ?_
                refine wpAnyH_take (i := 5) (v := .pointer (some ⟨xx.q, 0, none⟩)) rfl (by kernel_rfl) (by kernel_rfl) (by kernel_rfl) (fun _ _ _ h => h) (Or.inl ⟨by rfl, fun w' hw' => by have q1 : w'.cell? ⟨X + 2, kk, none⟩ = some (.pointer (some ⟨xx.q, 0, none⟩)) := two_cell rptr hw'.2.1 hkk HXX.out; go_simp⟩) hH ?_
                refine wpAnyH_take (i := 6) (v := .agg (ac i).cells.toArray) rfl (by kernel_rfl) (by kernel_rfl) (by kernel_rfl) (fun _ _ _ h => h) (yieldsIf_load_mid (by rfl) _ _ rfl wA.heap.size 0 rfl _ _ (fun w' h => Blk.range h.2.2 (by simp)) Try.underlying44 rfl (by kernel_rfl)) hH ?_
                refine wpAnyH_take (i := 7) (v := .pointer (some ⟨lg, 0, none⟩)) rfl (by kernel_rfl) (by kernel_rfl) (by kernel_rfl) (fun _ _ _ h => h) (Or.inl ⟨by rfl, fun w' _ => by go_simp⟩) hH ?_
                refine wpAnyH_ready (rs := [8]) (by kernel_rfl) (by simp) ?_
                refine AllReadyH.cons rfl (fun K hK => ?_) AllReadyH.nil
                go_simp
                have pyd := PYB.out.frame ((Chg.refl (fun _ => False) wB).drew)
                refine Calls.mono (TS.powered (w := wB.drew) (pyd.ts HXX.out) (pyd.pr _ _ HXX.out).re (pyd.bd HXX.out (by omega)) (ac i) HKD.out (HAC.out.acs.nm i hlt) (HAC.out.acs.fl i hlt) (HAC.out.ls i hlt) ((HAC.out.kb i hlt).chg (Chg.of_below BELB.out (fun _ => False)) (fun _ _ _ _ h => h)) (HKN.out i hlt) (fun g o h0 e => by have h1 := HAC.out.low hlt g o h0 e; have h2 := HX.out; exact ⟨fun e2 => by have := LOB.out g e2; omega, Nat.lt_of_lt_of_le h1 BELB.out.size⟩)) ?_
                rintro e w5 ⟨rfl, pt⟩
                obtain ⟨BL5, x5, py5, ch5⟩ := pyd.act HXX.out pt
                have CHF : Hid (Chg (fun g => X + 1 ≤ g) W w5) := (CHB.out.drew).trans ch5 (fun _ e => .inl e)
                have PY5 : Hid _ := py5
                refine hK.out _ _ ⟨⟨pt.ch.heap_some RDD.out.eq NDD.out⟩, ⟨pt.ch.heap_some RRR.out.eq NRR.out⟩, ⟨pt.ch.heap_some RAA.out.eq NAA.out⟩⟩ (fun hH => ?_)
                clear hK K pyd pt py5 ch5
                refine wpAnyH_take (i := 9) (v := .bool true) rfl (by kernel_rfl) (by kernel_rfl) (by kernel_rfl) (fun _ _ _ h => h) (Or.inl ⟨by rfl, fun w' _ => by go_simp⟩) hH ?_
                refine wpAnyH_done (by kernel_rfl) ?_ _
                clear hH
                go_wp2_with fail
                go_meet
                case rel => exact ⟨rfl, _, _, CHF.out, PY5.out⟩
              by_cases n4 : (ac i).kd = 4
              · rw [n4] at k1 ⊢
                have HKD : Hid ((ac i).kd = 2 ∨ (ac i).kd = 3 ∨ (ac i).kd = 4 ∨ (ac i).kd = 5 ∨ (ac i).kd = 6) := by right; right; left; exact n4
                clear n2 n3 n4
                go_upto_region 27 with fail
                refine wp_region_held_drew (S := fun w' => Rw w' (X + 1) #[dptr (Pp 0), dptr (Pp 1)] 29 ∧ Rw w' (X + 2) #[rptr (Pp 0), rptr (Pp 1)] 31 ∧ Blk w' wA.heap.size (ac i).cells 44) (by kernel_rfl) ⟨⟨RDD.out.eq⟩, ⟨RRR.out.eq⟩, ⟨RAA.out.eq⟩⟩ (fun hH => ?_)
                refine wpAnyH_take (i := 0) (v := .int .i64 kk) rfl (by kernel_rfl) (by kernel_rfl) (by kernel_rfl) (fun _ _ _ h => h) (Or.inl ⟨by rfl, fun w' _ => by go_simp⟩) hH ?_
                refine wpAnyH_take (i := 1) (v := .pointer (some ⟨X + 1, kk, none⟩)) rfl (by kernel_rfl) (by kernel_rfl) (by kernel_rfl) (fun _ _ _ h => h) (Or.inl ⟨by rfl, fun w' _ => by go_simp; intro h9; omega⟩) hH ?_
                refine wpAnyH_take (i := 2) (v := .pointer (some ⟨xx.p, 0, none⟩)) rfl (by kernel_rfl) (by kernel_rfl) (by kernel_rfl) (fun _ _ _ h => h) (Or.inl ⟨by rfl, fun w' hw' => by have q1 : w'.cell? ⟨X + 1, kk, none⟩ = some (.pointer (some ⟨xx.p, 0, none⟩)) := two_cell dptr hw'.1 hkk HXX.out; go_simp⟩) hH ?_
                refine wpAnyH_take (i := 3) (v := .int .i64 kk) rfl (by kernel_rfl) (by kernel_rfl) (by kernel_rfl) (fun _ _ _ h => h) (Or.inl ⟨by rfl, fun w' _ => by go_simp⟩) hH ?_
                refine wpAnyH_take (i := 4) (v := .pointer (some ⟨X + 2, kk, none⟩)) rfl (by kernel_rfl) (by kernel_rfl) (by kernel_rfl) (fun _ _ _ h => h) (Or.inl ⟨by rfl, fun w' _ => by go_simp; intro h9; omega⟩) hH ?_
                refine wpAnyH_take (i := 5) (v := .pointer (some ⟨xx.q, 0, none⟩)) rfl (by kernel_rfl) (by kernel_rfl) (by kernel_rfl) (fun _ _ _ h => h) (Or.inl ⟨by rfl, fun w' hw' => by have q1 : w'.cell? ⟨X + 2, kk, none⟩ = some (.pointer (some ⟨xx.q, 0, none⟩)) := two_cell rptr hw'.2.1 hkk HXX.out; go_simp⟩) hH ?_
                refine wpAnyH_take (i := 6) (v := .agg (ac i).cells.toArray) rfl (by kernel_rfl) (by kernel_rfl) (by kernel_rfl) (fun _ _ _ h => h) (yieldsIf_load_mid (by rfl) _ _ rfl wA.heap.size 0 rfl _ _ (fun w' h => Blk.range h.2.2 (by simp)) Try.underlying44 rfl (by kernel_rfl)) hH ?_
                refine wpAnyH_take (i := 7) (v := .pointer (some ⟨lg, 0, none⟩)) rfl (by kernel_rfl) (by kernel_rfl) (by kernel_rfl) (fun _ _ _ h => h) (Or.inl ⟨by rfl, fun w' _ => by go_simp⟩) hH ?_
                refine wpAnyH_ready (rs := [8]) (by kernel_rfl) (by simp) ?_
                refine AllReadyH.cons rfl (fun K hK => ?_) AllReadyH.nil
                go_simp
                have pyd := PYB.out.frame ((Chg.refl (fun _ => False) wB).drew)
                refine Calls.mono (TS.powered (w := wB.drew) (pyd.ts HXX.out) (pyd.pr _ _ HXX.out).re (pyd.bd HXX.out (by omega)) (ac i) HKD.out (HAC.out.acs.nm i hlt) (HAC.out.acs.fl i hlt) (HAC.out.ls i hlt) ((HAC.out.kb i hlt).chg (Chg.of_below BELB.out (fun _ => False)) (fun _ _ _ _ h => h)) (HKN.out i hlt) (fun g o h0 e => by have h1 := HAC.out.low hlt g o h0 e; have h2 := HX.out; exact ⟨fun e2 => by have := LOB.out g e2; omega, Nat.lt_of_lt_of_le h1 BELB.out.size⟩)) ?_
                rintro e w5 ⟨rfl, pt⟩
                obtain ⟨BL5, x5, py5, ch5⟩ := pyd.act HXX.out pt
                have CHF : Hid (Chg (fun g => X + 1 ≤ g) W w5) := (CHB.out.drew).trans ch5 (fun _ e => .inl e)
                have PY5 : Hid _ := py5
                refine hK.out _ _ ⟨⟨pt.ch.heap_some RDD.out.eq NDD.out⟩, ⟨pt.ch.heap_some RRR.out.eq NRR.out⟩, ⟨pt.ch.heap_some RAA.out.eq NAA.out⟩⟩ (fun hH => ?_)
                clear hK K pyd pt py5 ch5
                refine wpAnyH_take (i := 9) (v := .bool true) rfl (by kernel_rfl) (by kernel_rfl) (by kernel_rfl) (fun _ _ _ h => h) (Or.inl ⟨by rfl, fun w' _ => by go_simp⟩) hH ?_
                refine wpAnyH_done (by kernel_rfl) ?_ _
                clear hH
                go_wp2_with fail
                go_meet
                case rel => exact ⟨rfl, _, _, CHF.out, PY5.out⟩
              by_cases n5 : (ac i).kd = 5
              · rw [n5] at k1 ⊢
                have HKD : Hid ((ac i).kd = 2 ∨ (ac i).kd = 3 ∨ (ac i).kd = 4 ∨ (ac i).kd = 5 ∨ (ac i).kd = 6) := by right; right; right; left; exact n5
                clear n2 n3 n4 n5
                go_upto_region 27 with fail
                refine wp_region_held_drew (S := fun w' => Rw w' (X + 1) #[dptr (Pp 0), dptr (Pp 1)] 29 ∧ Rw w' (X + 2) #[rptr (Pp 0), rptr (Pp 1)] 31 ∧ Blk w' wA.heap.size (ac i).cells 44) (by kernel_rfl) ⟨⟨RDD.out.eq⟩, ⟨RRR.out.eq⟩, ⟨RAA.out.eq⟩⟩ (fun hH => ?_)
                refine wpAnyH_take (i := 0) (v := .int .i64 kk) rfl (by kernel_rfl) (by kernel_rfl) (by kernel_rfl) (fun _ _ _ h => h) (Or.inl ⟨by rfl, fun w' _ => by go_simp⟩) hH ?_
                refine wpAnyH_take (i := 1) (v := .pointer (some ⟨X + 1, kk, none⟩)) rfl (by kernel_rfl) (by kernel_rfl) (by kernel_rfl) (fun _ _ _ h => h) (Or.inl ⟨by rfl, fun w' _ => by go_simp; intro h9; omega⟩) hH ?_
                refine wpAnyH_take (i := 2) (v := .pointer (some ⟨xx.p, 0, none⟩)) rfl (by kernel_rfl) (by kernel_rfl) (by kernel_rfl) (fun _ _ _ h => h) (Or.inl ⟨by rfl, fun w' hw' => by have q1 : w'.cell? ⟨X + 1, kk, none⟩ = some (.pointer (some ⟨xx.p, 0, none⟩)) := two_cell dptr hw'.1 hkk HXX.out; go_simp⟩) hH ?_
                refine wpAnyH_take (i := 3) (v := .int .i64 kk) rfl (by kernel_rfl) (by kernel_rfl) (by kernel_rfl) (fun _ _ _ h => h) (Or.inl ⟨by rfl, fun w' _ => by go_simp⟩) hH ?_
                refine wpAnyH_take (i := 4) (v := .pointer (some ⟨X + 2, kk, none⟩)) rfl (by kernel_rfl) (by kernel_rfl) (by kernel_rfl) (fun _ _ _ h => h) (Or.inl ⟨by rfl, fun w' _ => by go_simp; intro h9; omega⟩) hH ?_
                refine wpAnyH_take (i := 5) (v := .pointer (some ⟨xx.q, 0, none⟩)) rfl (by kernel_rfl) (by kernel_rfl) (by kernel_rfl) (fun _ _ _ h => h) (Or.inl ⟨by rfl, fun w' hw' => by have q1 : w'.cell? ⟨X + 2, kk, none⟩ = some (.pointer (some ⟨xx.q, 0, none⟩)) := two_cell rptr hw'.2.1 hkk HXX.out; go_simp⟩) hH ?_
                refine wpAnyH_take (i := 6) (v := .agg (ac i).cells.toArray) rfl (by kernel_rfl) (by kernel_rfl) (by kernel_rfl) (fun _ _ _ h => h) (yieldsIf_load_mid (by rfl) _ _ rfl wA.heap.size 0 rfl _ _ (fun w' h => Blk.range h.2.2 (by simp)) Try.underlying44 rfl (by kernel_rfl)) hH ?_
                refine wpAnyH_take (i := 7) (v := .pointer (some ⟨lg, 0, none⟩)) rfl (by kernel_rfl) (by kernel_rfl) (by kernel_rfl) (fun _ _ _ h => h) (Or.inl ⟨by rfl, fun w' _ => by go_simp⟩) hH ?_
                refine wpAnyH_ready (rs := [8]) (by kernel_rfl) (by simp) ?_
                refine AllReadyH.cons rfl (fun K hK => ?_) AllReadyH.nil
                go_simp
                have pyd := PYB.out.frame ((Chg.refl (fun _ => False) wB).drew)
                refine Calls.mono (TS.powered (w := wB.drew) (pyd.ts HXX.out) (pyd.pr _ _ HXX.out).re (pyd.bd HXX.out (by omega)) (ac i) HKD.out (HAC.out.acs.nm i hlt) (HAC.out.acs.fl i hlt) (HAC.out.ls i hlt) ((HAC.out.kb i hlt).chg (Chg.of_below BELB.out (fun _ => False)) (fun _ _ _ _ h => h)) (HKN.out i hlt) (fun g o h0 e => by have h1 := HAC.out.low hlt g o h0 e; have h2 := HX.out; exact ⟨fun e2 => by have := LOB.out g e2; omega, Nat.lt_of_lt_of_le h1 BELB.out.size⟩)) ?_
                rintro e w5 ⟨rfl, pt⟩
                obtain ⟨BL5, x5, py5, ch5⟩ := pyd.act HXX.out pt
                have CHF : Hid (Chg (fun g => X + 1 ≤ g) W w5) := (CHB.out.drew).trans ch5 (fun _ e => .inl e)
                have PY5 : Hid _ := py5
                refine hK.out _ _ ⟨⟨pt.ch.heap_some RDD.out.eq NDD.out⟩, ⟨pt.ch.heap_some RRR.out.eq NRR.out⟩, ⟨pt.ch.heap_some RAA.out.eq NAA.out⟩⟩ (fun hH => ?_)
                clear hK K pyd pt py5 ch5
                refine wpAnyH_take (i := 9) (v := .bool true) rfl (by kernel_rfl) (by kernel_rfl) (by kernel_rfl) (fun _ _ _ h => h) (Or.inl ⟨by rfl, fun w' _ => by go_simp⟩) hH ?_
                refine wpAnyH_done (by kernel_rfl) ?_ _
                clear hH
                go_wp2_with fail
                go_meet
                case rel => exact ⟨rfl, _, _, CHF.out, PY5.out⟩
              by_cases n6 : (ac i).kd = 6
              · rw [n6] at k1 ⊢
                have HKD : Hid ((ac i).kd = 2 ∨ (ac i).kd = 3 ∨ (ac i).kd = 4 ∨ (ac i).kd = 5 ∨ (ac i).kd = 6) := by right; right; right; right; exact n6
                clear n2 n3 n4 n5 n6
                go_upto_region 27 with fail
                refine wp_region_held_drew (S := fun w' => Rw w' (X + 1) #[dptr (Pp 0), dptr (Pp 1)] 29 ∧ Rw w' (X + 2) #[rptr (Pp 0), rptr (Pp 1)] 31 ∧ Blk w' wA.heap.size (ac i).cells 44) (by kernel_rfl) ⟨⟨RDD.out.eq⟩, ⟨RRR.out.eq⟩, ⟨RAA.out.eq⟩⟩ (fun hH => ?_)
                refine wpAnyH_take (i := 0) (v := .int .i64 kk) rfl (by kernel_rfl) (by kernel_rfl) (by kernel_rfl) (fun _ _ _ h => h) (Or.inl ⟨by rfl, fun w' _ => by go_simp⟩) hH ?_
                refine wpAnyH_take (i := 1) (v := .pointer (some ⟨X + 1, kk, none⟩)) rfl (by kernel_rfl) (by kernel_rfl) (by kernel_rfl) (fun _ _ _ h => h) (Or.inl ⟨by rfl, fun w' _ => by go_simp; intro h9; omega⟩) hH ?_
                refine wpAnyH_take (i := 2) (v := .pointer (some ⟨xx.p, 0, none⟩)) rfl (by kernel_rfl) (by kernel_rfl) (by kernel_rfl) (fun _ _ _ h => h) (Or.inl ⟨by rfl, fun w' hw' => by have q1 : w'.cell? ⟨X + 1, kk, none⟩ = some (.pointer (some ⟨xx.p, 0, none⟩)) := two_cell dptr hw'.1 hkk HXX.out; go_simp⟩) hH ?_
                refine wpAnyH_take (i := 3) (v := .int .i64 kk) rfl (by kernel_rfl) (by kernel_rfl) (by kernel_rfl) (fun _ _ _ h => h) (Or.inl ⟨by rfl, fun w' _ => by go_simp⟩) hH ?_
                refine wpAnyH_take (i := 4) (v := .pointer (some ⟨X + 2, kk, none⟩)) rfl (by kernel_rfl) (by kernel_rfl) (by kernel_rfl) (fun _ _ _ h => h) (Or.inl ⟨by rfl, fun w' _ => by go_simp; intro h9; omega⟩) hH ?_
                refine wpAnyH_take (i := 5) (v := .pointer (some ⟨xx.q, 0, none⟩)) rfl (by kernel_rfl) (by kernel_rfl) (by kernel_rfl) (fun _ _ _ h => h) (Or.inl ⟨by rfl, fun w' hw' => by have q1 : w'.cell? ⟨X + 2, kk, none⟩ = some (.pointer (some ⟨xx.q, 0, none⟩)) := two_cell rptr hw'.2.1 hkk HXX.out; go_simp⟩) hH ?_
                refine wpAnyH_take (i := 6) (v := .agg (ac i).cells.toArray) rfl (by kernel_rfl) (by kernel_rfl) (by kernel_rfl) (fun _ _ _ h => h) (yieldsIf_load_mid (by rfl) _ _ rfl wA.heap.size 0 rfl _ _ (fun w' h => Blk.range h.2.2 (by simp)) Try.underlying44 rfl (by kernel_rfl)) hH ?_
                refine wpAnyH_take (i := 7) (v := .pointer (some ⟨lg, 0, none⟩)) rfl (by kernel_rfl) (by kernel_rfl) (by kernel_rfl) (fun _ _ _ h => h) (Or.inl ⟨by rfl, fun w' _ => by go_simp⟩) hH ?_
                refine wpAnyH_ready (rs := [8]) (by kernel_rfl) (by simp) ?_
                refine AllReadyH.cons rfl (fun K hK => ?_) AllReadyH.nil
                go_simp
                have pyd := PYB.out.frame ((Chg.refl (fun _ => False) wB).drew)
                refine Calls.mono (TS.powered (w := wB.drew) (pyd.ts HXX.out) (pyd.pr _ _ HXX.out).re (pyd.bd HXX.out (by omega)) (ac i) HKD.out (HAC.out.acs.nm i hlt) (HAC.out.acs.fl i hlt) (HAC.out.ls i hlt) ((HAC.out.kb i hlt).chg (Chg.of_below BELB.out (fun _ => False)) (fun _ _ _ _ h => h)) (HKN.out i hlt) (fun g o h0 e => by have h1 := HAC.out.low hlt g o h0 e; have h2 := HX.out; exact ⟨fun e2 => by have := LOB.out g e2; omega, Nat.lt_of_lt_of_le h1 BELB.out.size⟩)) ?_
                rintro e w5 ⟨rfl, pt⟩
                obtain ⟨BL5, x5, py5, ch5⟩ := pyd.act HXX.out pt
                have CHF : Hid (Chg (fun g => X + 1 ≤ g) W w5) := (CHB.out.drew).trans ch5 (fun _ e => .inl e)
                have PY5 : Hid _ := py5
                refine hK.out _ _ ⟨⟨pt.ch.heap_some RDD.out.eq NDD.out⟩, ⟨pt.ch.heap_some RRR.out.eq NRR.out⟩, ⟨pt.ch.heap_some RAA.out.eq NAA.out⟩⟩ (fun hH => ?_)
                clear hK K pyd pt py5 ch5
                refine wpAnyH_take (i := 9) (v := .bool true) rfl (by kernel_rfl) (by kernel_rfl) (by kernel_rfl) (fun _ _ _ h => h) (Or.inl ⟨by rfl, fun w' _ => by go_simp⟩) hH ?_
                refine wpAnyH_done (by kernel_rfl) ?_ _
                clear hH
                go_wp2_with fail
                go_meet
                case rel => exact ⟨rfl, _, _, CHF.out, PY5.out⟩
              by_cases n11 : (ac i).kd = 11
              · rw [n11] at k1 ⊢
                clear n2 n3 n4 n5 n6 n11
                have cD : wB.cell? ⟨X + 1, kk, none⟩ = some (.pointer (some ⟨xx.p, 0, none⟩)) := by
                  exact two_cell dptr RDD.out hkk HXX.out
                have PRX : Hid _ := PYB.out.pr kk xx HXX.out
                go_wp2_with fail
                refine Calls.mono (AB.copy PRX.out.d PRX.out.fs PRX.out.hS PRX.out.z0 PRX.out.hz (by omega)) ?_
                rintro e w1 ⟨p', Bl', rfl, ch1, d1, hB', dn⟩
                obtain ⟨dv, cv, rq⟩ := PRX.out.r.rrow'
                have cp0 := CP.made PRX.out.d PRX.out.hf ch1 d1 hB' dn
                have RD1 : Hid (Rw w1 (X + 1) #[dptr (Pp 0), dptr (Pp 1)] 29) := ⟨cp0.ch.heap_some RDD.out.eq (fun e => NDD.out (.inl e))⟩
                have RR1 : Hid (Rw w1 (X + 2) #[rptr (Pp 0), rptr (Pp 1)] 31) := ⟨cp0.ch.heap_some RRR.out.eq (fun e => NRR.out (.inl e))⟩
                have RQ1 : Hid (Rw w1 xx.q (rrow xx.S xx.z dv cv xx.r.y) 52) := ⟨cp0.ch.heap_some rq.eq (fun e => PRX.out.dr xx.q e PRX.out.r.bq)⟩
                have CP0 : Hid _ := cp0
                have RQB : Hid _ := rq
                clear ch1 d1 hB' dn rq cp0 cD
                go_upto_region 32 with fail
                refine wp_region_held_drew (S := fun w' => Rw w' (X + 1) #[dptr (Pp 0), dptr (Pp 1)] 29 ∧ Rw w' (X + 2) #[rptr (Pp 0), rptr (Pp 1)] 31 ∧ Rw w' xx.q (rrow xx.S xx.z dv cv xx.r.y) 52) (by kernel_rfl) ⟨⟨RD1.out.eq⟩, ⟨RR1.out.eq⟩, ⟨RQ1.out.eq⟩⟩ (fun hH => ?_)
                refine wpAnyH_take (i := 0) (v := .int .i64 kk) rfl (by kernel_rfl) (by kernel_rfl) (by kernel_rfl) (fun _ _ _ h => h) (Or.inl ⟨by rfl, fun w' _ => by go_simp⟩) hH ?_
                refine wpAnyH_take (i := 1) (v := .pointer (some ⟨X + 1, kk, none⟩)) rfl (by kernel_rfl) (by kernel_rfl) (by kernel_rfl) (fun _ _ _ h => h) (Or.inl ⟨by rfl, fun w' _ => by go_simp; intro h9; omega⟩) hH ?_
                refine wpAnyH_take (i := 2) (v := .pointer (some ⟨xx.p, 0, none⟩)) rfl (by kernel_rfl) (by kernel_rfl) (by kernel_rfl) (fun _ _ _ h => h) (Or.inl ⟨by rfl, fun w' hw' => by have q1 : w'.cell? ⟨X + 1, kk, none⟩ = some (.pointer (some ⟨xx.p, 0, none⟩)) := two_cell dptr hw'.1 hkk HXX.out; go_simp⟩) hH ?_
                refine wpAnyH_take (i := 3) (v := .int .i64 kk) rfl (by kernel_rfl) (by kernel_rfl) (by kernel_rfl) (fun _ _ _ h => h) (Or.inl ⟨by rfl, fun w' _ => by go_simp⟩) hH ?_
                refine wpAnyH_take (i := 4) (v := .pointer (some ⟨X + 2, kk, none⟩)) rfl (by kernel_rfl) (by kernel_rfl) (by kernel_rfl) (fun _ _ _ h => h) (Or.inl ⟨by rfl, fun w' _ => by go_simp; intro h9; omega⟩) hH ?_
                refine wpAnyH_take (i := 5) (v := .pointer (some ⟨xx.q, 0, none⟩)) rfl (by kernel_rfl) (by kernel_rfl) (by kernel_rfl) (fun _ _ _ h => h) (Or.inl ⟨by rfl, fun w' hw' => by have q1 : w'.cell? ⟨X + 2, kk, none⟩ = some (.pointer (some ⟨xx.q, 0, none⟩)) := two_cell rptr hw'.2.1 hkk HXX.out; go_simp⟩) hH ?_
                refine wpAnyH_take (i := 6) (v := .pointer (some ⟨xx.q, 0, none⟩)) rfl (by kernel_rfl) (by kernel_rfl) (by kernel_rfl) (fun _ _ _ h => h) (Or.inl ⟨by rfl, fun w' _ => by go_simp⟩) hH ?_
                refine wpAnyH_take (i := 7) (v := .pointer (some ⟨xx.q, 1, none⟩)) rfl (by kernel_rfl) (by kernel_rfl) (by kernel_rfl) (fun _ _ _ h => h) (Or.inl ⟨by rfl, fun w' _ => by go_simp⟩) hH ?_
                refine wpAnyH_take (i := 8) (v := .int .i64 xx.z) rfl (by kernel_rfl) (by kernel_rfl) (by kernel_rfl) (fun _ _ _ h => h) (Or.inl ⟨by rfl, fun w' hw' => by have q1 : w'.cell? ⟨xx.q, 1, none⟩ = some (.int .i64 xx.z) := Rw.cell hw'.2.2 1; go_simp⟩) hH ?_
                have hmk := run_mk xx.z (by have := PRX.out.hz; omega)
                refine wpAnyH_ready (rs := [9]) (by kernel_rfl) (by simp) ?_
                refine AllReadyH.cons rfl (fun K hK => ?_) AllReadyH.nil
                go_simp
                clear hmk
                have CM : Hid (Chg (fun _ => False) w1 (w1.alloc (.cells (zer xx.z).toArray 5)).drew) := ((Chg.refl (fun _ => False) w1).alloc _).drew
                have SM : Hid (Src (w1.alloc (.cells (zer xx.z).toArray 5)).drew (.slice (some ⟨w1.heap.size, 0, none⟩) xx.z xx.z) (zs xx.z)) := src_row (show Rw _ _ (bs (zs xx.z)).toArray 5 from by rw [bs_zs]; exact ⟨heap_alloc_new _ _⟩) (by simp [zs])
                obtain ⟨wM, hwM⟩ : ∃ v, v = (w1.alloc (.cells (zer xx.z).toArray 5)).drew := ⟨_, rfl⟩
                rw [← hwM] at CM SM ⊢
                clear hwM
                refine hK.out _ _ ⟨⟨CM.out.heap_some RD1.out.eq (fun e => e)⟩, ⟨CM.out.heap_some RR1.out.eq (fun e => e)⟩, ⟨CM.out.heap_some RQ1.out.eq (fun e => e)⟩⟩ (fun hH => ?_)
                clear hK K
                refine wpAnyH_ready (rs := [10]) (by kernel_rfl) (by simp) ?_
                refine AllReadyH.cons rfl (fun K hK => ?_) AllReadyH.nil
                go_simp
                refine Calls.mono ((CP0.out.fresh CM.out).write PRX.out.hS PRX.out.hz PRX.out.z0 (by omega) SM.out (by simp [zs]) (fun e => by have h1 := CP0.out.ch.size; have h2 := PRX.out.d.low _ PRX.out.d.bp; omega)) ?_
                rintro e w2 ⟨⟨v2, rfl⟩, cp2⟩
                have RDJ : Hid (Rw w2 (X + 1) #[dptr (Pp 0), dptr (Pp 1)] 29) := ⟨cp2.ch.heap_some RDD.out.eq (fun e => NDD.out (.inl e))⟩
                have CP2 : Hid _ := cp2
                refine hK.out _ _ ⟨⟨RDJ.out.eq⟩, ⟨cp2.ch.heap_some RRR.out.eq (fun e => NRR.out (.inl e))⟩, ⟨(cp2.ch.heap_some RQB.out.eq (fun e => PRX.out.dr xx.q e PRX.out.r.bq))⟩⟩ (fun hH => ?_)
                clear hK K cp2
                refine wpAnyH_done (by kernel_rfl) ?_ _
                clear hH CM SM RD1 RR1 RQ1 CP0
                have cD : w2.cell? ⟨X + 1, kk, none⟩ = some (.pointer (some ⟨xx.p, 0, none⟩)) := by
                  exact two_cell dptr RDJ.out hkk HXX.out
                go_wp2_with fail
                refine Calls.mono (CP2.out.rot PRX.out.hS PRX.out.hz (by omega) 0 0 255) ?_
                rintro e w3 ⟨⟨v3, rfl⟩, cp3⟩
                clear cD RDJ
                have RDJ : Hid (Rw w3 (X + 1) #[dptr (Pp 0), dptr (Pp 1)] 29) := ⟨cp3.ch.heap_some RDD.out.eq (fun e => NDD.out (.inl e))⟩
                have CP3 : Hid _ := cp3
                clear cp3 CP2
                have cD : w3.cell? ⟨X + 1, kk, none⟩ = some (.pointer (some ⟨xx.p, 0, none⟩)) := by
                  exact two_cell dptr RDJ.out hkk HXX.out
                go_wp2_with fail
                refine Calls.mono (CP3.out.fuse 0 (by decide) (by decide)) ?_
                rintro e w4 ⟨⟨v4, rfl⟩, cp4⟩
                clear cD RDJ
                have RDJ : Hid (Rw w4 (X + 1) #[dptr (Pp 0), dptr (Pp 1)] 29) := ⟨cp4.ch.heap_some RDD.out.eq (fun e => NDD.out (.inl e))⟩
                have CP4 : Hid _ := cp4
                clear cp4 CP3
                have cD : w4.cell? ⟨X + 1, kk, none⟩ = some (.pointer (some ⟨xx.p, 0, none⟩)) := by
                  exact two_cell dptr RDJ.out hkk HXX.out
                go_wp2_with fail
                refine Calls.mono (CP4.out.flush PRX.out.hS (by omega)) ?_
                rintro e w5 ⟨⟨v5, rfl⟩, cp5⟩
                clear cD RDJ
                have RDJ : Hid (Rw w5 (X + 1) #[dptr (Pp 0), dptr (Pp 1)] 29) := ⟨cp5.ch.heap_some RDD.out.eq (fun e => NDD.out (.inl e))⟩
                have CP5 : Hid _ := cp5
                clear cp5 CP4
                have cD : w5.cell? ⟨X + 1, kk, none⟩ = some (.pointer (some ⟨xx.p, 0, none⟩)) := by
                  exact two_cell dptr RDJ.out hkk HXX.out
                have fD := RDJ.out.fr kk
                obtain ⟨py6, ch6⟩ := PYB.out.swap HXX.out hkk CP5.out.ch CP5.out.new CP5.out.nb
                have PY5 : Hid _ := py6.mono (Nat.le_succ i)
                have CHF : Hid _ := CHB.out.trans ch6 (fun _ e => .inl e)
                clear py6 ch6
                go_wp2_with fail
                go_meet
                case rel => exact ⟨rfl, _, _, CHF.out, PY5.out⟩
              go_upto_region 21 with fail
              refine wp_region_held_drew (S := fun w' => Rw w' (X + 1) #[dptr (Pp 0), dptr (Pp 1)] 29 ∧ Rw w' (X + 2) #[rptr (Pp 0), rptr (Pp 1)] 31 ∧ Blk w' wA.heap.size (ac i).cells 44) (by kernel_rfl) ⟨⟨RDD.out.eq⟩, ⟨RRR.out.eq⟩, ⟨RAA.out.eq⟩⟩ (fun hH => ?_)
              refine wpAnyH_take (i := 0) (v := .int .i64 kk) rfl (by kernel_rfl) (by kernel_rfl) (by kernel_rfl) (fun _ _ _ h => h) (Or.inl ⟨by rfl, fun w' _ => by go_simp⟩) hH ?_
              refine wpAnyH_take (i := 1) (v := .pointer (some ⟨X + 1, kk, none⟩)) rfl (by kernel_rfl) (by kernel_rfl) (by kernel_rfl) (fun _ _ _ h => h) (Or.inl ⟨by rfl, fun w' _ => by go_simp; intro h9; omega⟩) hH ?_
              refine wpAnyH_take (i := 2) (v := .pointer (some ⟨xx.p, 0, none⟩)) rfl (by kernel_rfl) (by kernel_rfl) (by kernel_rfl) (fun _ _ _ h => h) (Or.inl ⟨by rfl, fun w' hw' => by have q1 : w'.cell? ⟨X + 1, kk, none⟩ = some (.pointer (some ⟨xx.p, 0, none⟩)) := two_cell dptr hw'.1 hkk HXX.out; go_simp⟩) hH ?_
              refine wpAnyH_take (i := 3) (v := .int .i64 kk) rfl (by kernel_rfl) (by kernel_rfl) (by kernel_rfl) (fun _ _ _ h => h) (Or.inl ⟨by rfl, fun w' _ => by go_simp⟩) hH ?_
              refine wpAnyH_take (i := 4) (v := .pointer (some ⟨X + 2, kk, none⟩)) rfl (by kernel_rfl) (by kernel_rfl) (by kernel_rfl) (fun _ _ _ h => h) (Or.inl ⟨by rfl, fun w' _ => by go_simp; intro h9; omega⟩) hH ?_
              refine wpAnyH_take (i := 5) (v := .pointer (some ⟨xx.q, 0, none⟩)) rfl (by kernel_rfl) (by kernel_rfl) (by kernel_rfl) (fun _ _ _ h => h) (Or.inl ⟨by rfl, fun w' hw' => by have q1 : w'.cell? ⟨X + 2, kk, none⟩ = some (.pointer (some ⟨xx.q, 0, none⟩)) := two_cell rptr hw'.2.1 hkk HXX.out; go_simp⟩) hH ?_
              refine wpAnyH_take (i := 6) (v := .agg (ac i).cells.toArray) rfl (by kernel_rfl) (by kernel_rfl) (by kernel_rfl) (fun _ _ _ h => h) (yieldsIf_load_mid (by rfl) _ _ rfl wA.heap.size 0 rfl _ _ (fun w' h => Blk.range h.2.2 (by simp)) Try.underlying44 rfl (by kernel_rfl)) hH ?_
              refine wpAnyH_take (i := 7) (v := .pointer (some ⟨lg, 0, none⟩)) rfl (by kernel_rfl) (by kernel_rfl) (by kernel_rfl) (fun _ _ _ h => h) (Or.inl ⟨by rfl, fun w' _ => by go_simp⟩) hH ?_
              refine wpAnyH_ready (rs := [8]) (by kernel_rfl) (by simp) ?_
              refine AllReadyH.cons rfl (fun K hK => ?_) AllReadyH.nil
              go_simp
              have pyd := PYB.out.frame ((Chg.refl (fun _ => False) wB).drew)
              refine Calls.mono (TS.asked (w := wB.drew) (pyd.ts HXX.out) (pyd.pr _ _ HXX.out).re (pyd.bd HXX.out (by omega)) (ac i)) ?_
              rintro e w5 ⟨rfl, pt⟩
              obtain ⟨BL5, x5, py5, ch5⟩ := pyd.act HXX.out pt
              have CHF : Hid (Chg (fun g => X + 1 ≤ g) W w5) := (CHB.out.drew).trans ch5 (fun _ e => .inl e)
              have PY5 : Hid _ := py5
              refine hK.out _ _ ⟨⟨pt.ch.heap_some RDD.out.eq NDD.out⟩, ⟨pt.ch.heap_some RRR.out.eq NRR.out⟩, ⟨pt.ch.heap_some RAA.out.eq NAA.out⟩⟩ (fun hH => ?_)
              clear hK K pyd pt py5 ch5
              refine wpAnyH_take (i := 9) (v := .bool true) rfl (by kernel_rfl) (by kernel_rfl) (by kernel_rfl) (fun _ _ _ h => h) (Or.inl ⟨by rfl, fun w' _ => by go_simp⟩) hH ?_
              refine wpAnyH_done (by kernel_rfl) ?_ _
              clear hH
              go_wp2_with fail
              go_meet
              case rel => exact ⟨rfl, _, _, CHF.out, PY5.out⟩
            case rest =>
              obtain ⟨rfl, hid⟩ := hcut
              obtain ⟨BL5, P5, ch5, py5⟩ := hid.out
              have CHF : Hid _ := ch5
              have PY5 : Hid _ := py5
              clear hid ch5 py5 k0 k1 cR
              go_wp2_with fail
              obtain ⟨la, lp, lc, ld, lt, na, np, nc, nd, LX, LY, LC, LD, hlg⟩ := PY5.out.l
              refine Calls.mono ((hlg.lh (by omega)).whole) ?_
              rintro e w9 ⟨rfl, m9, rfl⟩
              have PY6 : Hid _ := PY5.out.frame (drewN_chg3 wc m9)
              have CHF6 : Hid (Chg (fun g => X + 1 ≤ g) W (wc.drewN m9)) := CHF.out.trans (drewN_chg3 wc m9) (fun _ e => e.elim)
              clear hlg
              go_wp2_with fail
              go_roundw
              case rel =>
                repeat apply Exists.intro
                exact ⟨⟨i + 1, _, _, by omega, by go_num, CHF6.out, PY6.out⟩, rfl⟩
              case measure => simp [intOf]; omega
        · have hin : NN = i := by omega
          subst hin
          have PYF : Hid _ := pyA
          have CHA : Hid _ := chA
          clear chA pyA rxA
          go_wp2_with fail
          obtain ⟨la, lp, lc, ld, lt, na, np, nc, nd, LX, LY, LC, LD, hlg⟩ := PYF.out.l
          refine Calls.mono (hlg.ends (by omega)) ?_
          rintro e w9 ⟨rfl, ch9⟩
          have FIN : Hid (Below w.heap.size w w9) := BW.out.trans (((CHA.out.trans ch9 (fun g e => .inl (PYF.out.ll g e).1)).below (B := X) (by have := SW.out; omega) (fun k e => by omega)).mono (by rw [← HX.out]; exact Nat.le_refl _))
          clear hlg ch9
          go_wp2_with fail
          go_ret
          exact ⟨rfl, FIN.out⟩
end Go.Proofs.Ytddnecfnjnipjaa
