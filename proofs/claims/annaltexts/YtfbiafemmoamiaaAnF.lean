/-
  ForkText.
-/
import Derived.Test.YtfbiafemmoamiaaAnD
namespace Go.Proofs.Ytfbiafemmoamiaa
open Go.RowKit

noncomputable def opsF : Array Oper := (Try.f7.body.bind (regIn 1)).getD #[]
def sF (i : Nat) : Nat := if i = 5 then 4 else 5 + i

theorem sF_ne {i j : Nat} (hi : i < 6) (hj : j < 6) (h : j ≠ i) : sF j ≠ sF i := by
  unfold sF
  split <;> split <;> omega

/-- What stands in each slot. -/
def VF (W : World) (bx bY : Nat) (x y : List Int) (i : Nat) (w : World) (v : Value) : Prop :=
  match i with
  | 0 => (∃ g, v = .slice (some ⟨g, 0, none⟩) 1 1) ∧ Src w v [22]
  | 1 => v = .slice (some ⟨bx, 0, none⟩) 32 32
  | 2 => v = .slice (some ⟨bY, 0, none⟩) 32 32
  | 3 => ∃ g v0, v = .slice (some ⟨g, 0, none⟩) 3 3 ∧ Src w v0 [22] ∧ w.cell? ⟨g, 0, none⟩ = some v0 ∧ w.cell? ⟨g, 1, none⟩ = some (.slice (some ⟨bx, 0, none⟩) 32 32) ∧ w.cell? ⟨g, 2, none⟩ = some (.slice (some ⟨bY, 0, none⟩) 32 32)
  | _ => Made W w v (forkT x y)

theorem VF.keep {W : World} {bx bY : Nat} {x y : List Int} {i : Nat} {w w' : World} {v : Value} (h : VF W bx bY x y i w v) (k : Below w.heap.size w w') : VF W bx bY x y i w' v := by
  unfold VF at h ⊢
  split
  · exact ⟨h.1, Src.kept0 h.2 k⟩
  · exact h
  · exact h
  · obtain ⟨g, v0, h1, h2, h3, h4, h5⟩ := h
    have hg : g < w.heap.size := World.block_lt_of_cell? _ _ h3
    exact ⟨g, v0, h1, Src.kept0 h2 k, (k.cell hg).trans h3, (k.cell hg).trans h4, (k.cell hg).trans h5⟩
  · rename_i h0 h1 h2 h3
    split at h
    · exact absurd rfl h0
    · exact absurd rfl h1
    · exact absurd rfl h2
    · exact absurd rfl h3
    · exact Made.then h k

def JF (W : World) (bx bY : Nat) (x y : List Int) : (Nat → Bool) → Act → World → Prop :=
  RJ 10 sF 6 [(2, .pointer (some ⟨bx, 0, none⟩)), (3, .pointer (some ⟨bY, 0, none⟩))] (VF W bx bY x y) (fun w => Below W.heap.size W w)

theorem putF {W : World} {bx bY : Nat} {x y : List Int} {d : Nat → Bool} {T : Array Value} {df : List Deferred} {w w' : World} (h : JF W bx bY x y d ⟨T, df⟩ w) (i : Nat) {s : Nat} {v : Value} (hi : i < 6) (hs : s = sF i) (hv : VF W bx bY x y i w' v) (k : Below w.heap.size w w') :
    JF W bx bY x y (fun j => if j = i then true else d j) ⟨T.setIfInBounds s v, df⟩ w' :=
  RJ.put h i hs (by unfold sF; split <;> omega) (fun j hj h => sF_ne hi hj h) (fun x hx => by
    simp only [List.mem_cons, List.not_mem_nil, or_false] at hx
    unfold sF
    rcases hx with rfl | rfl <;> (split <;> simp; try omega)) hv (h.ch.trans (k.mono h.ch.size)) (fun _ _ h => h.keep k)

set_option maxRecDepth 100000 in
set_option maxHeartbeats 4000000 in
theorem regF {W w0 : World} {bx bY : Nat} {x y : List Int} {Q : Exit → Act → World → Prop} {a : Act} (hx : x.length = 32) (hy : y.length = 32) (BX : Blk W bx (bs x) 24) (BY : Blk W bY (bs y) 24)
    (sz : a.tmps.size = 10) (df : a.defers = []) (h2 : a.tmps.getD 2 undef = .pointer (some ⟨bx, 0, none⟩)) (h3 : a.tmps.getD 3 undef = .pointer (some ⟨bY, 0, none⟩)) (hw : Below W.heap.size W w0)
    (hQ : ∀ b w', b.tmps.size = 10 → b.defers = [] → Made W w' (b.tmps.getD 4 undef) (forkT x y) → Q .normal b w') : (Code.region 1 opsF true).wp Try.prog Q a w0 := by
  refine region_plain (by kernel_rfl) (JF W bx bY x y) ?_ (after_of (by kernel_rfl)) ?_ ?_
  · refine ⟨sz, df, fun x hx => ?_, fun i _ (h : false = true) => (by cases h), ⟨hw.os, hw.tape, hw.output, hw.size, hw.block⟩⟩
    simp only [List.mem_cons, List.not_mem_nil, or_false] at hx
    rcases hx with rfl | rfl
    · exact h2
    · exact h3
  · intro d b w h hall
    exact hQ b w h.sz h.df (h.val 5 (by decide) (hall 5 (by decide)))
  · rintro d ⟨T, df⟩ w i o hJ hdi ho hdeps K hK
    have hi : i < 6 := (Array.getElem?_eq_some_iff.1 ho).1
    have e2 : T.getD 2 undef = .pointer (some ⟨bx, 0, none⟩) := hJ.fix (2, .pointer (some ⟨bx, 0, none⟩)) (by simp)
    have e3 : T.getD 3 undef = .pointer (some ⟨bY, 0, none⟩) := hJ.fix (3, .pointer (some ⟨bY, 0, none⟩)) (by simp)
    clear hdi
    obtain rfl | rfl | rfl | rfl | rfl | rfl : i = 0 ∨ i = 1 ∨ i = 2 ∨ i = 3 ∨ i = 4 ∨ i = 5 := by omega
    · obtain rfl : o = { dst := some 5, op := Op.buildSlice 28 1 #[(0, Operand.const (Value.int IntKind.u8 22))], type := 28, pos := "text.go:21", after := #[], guard := none } := (Option.some.inj ho).symm
      rw [if_pos (want_all rfl)]
      clear ho hdeps hi
      go_simp
      exact hK _ _ (putF hJ 0 (by decide) rfl ⟨⟨_, rfl⟩, src_new w [22] 1⟩ ((Below.refl _ _).alloc (Nat.le_refl _) _))
    · obtain rfl : o = { dst := some 6, op := Op.slice 24 (Operand.tmp 2) none none none, type := 28, pos := "text.go:21", after := #[], guard := none } := (Option.some.inj ho).symm
      rw [if_pos (want_all rfl)]
      clear ho hdeps hi
      go_simp
      exact hK _ _ (putF hJ 1 (by decide) rfl rfl (Below.refl _ _))
    · obtain rfl : o = { dst := some 7, op := Op.slice 24 (Operand.tmp 3) none none none, type := 28, pos := "text.go:21", after := #[], guard := none } := (Option.some.inj ho).symm
      rw [if_pos (want_all rfl)]
      clear ho hdeps hi
      go_simp
      exact hK _ _ (putF hJ 2 (by decide) rfl rfl (Below.refl _ _))
    · obtain rfl : o = { dst := some 8, op := Op.buildSlice 36 3 #[(0, Operand.tmp 5), (1, Operand.tmp 6), (2, Operand.tmp 7)], type := 36, pos := "text.go:21", after := #[{ on := 0, ground := Ground.data }, { on := 1, ground := Ground.data }, { on := 2, ground := Ground.data }], guard := none } := (Option.some.inj ho).symm
      have c0 := hJ.val 0 (by decide) (hdeps ⟨0, .data⟩ (by simp) rfl)
      have c1 := hJ.val 1 (by decide) (hdeps ⟨1, .data⟩ (by simp) rfl)
      have c2 := hJ.val 2 (by decide) (hdeps ⟨2, .data⟩ (by simp) rfl)
      rw [if_pos (want_all rfl)]
      clear ho hdeps hi
      obtain ⟨⟨g, hg⟩, hs⟩ := c0
      have e5 : T.getD 5 undef = .slice (some ⟨g, 0, none⟩) 1 1 := hg
      have hs2 : Src w (.slice (some ⟨g, 0, none⟩) 1 1) [22] := by rw [← hg]; exact hs
      have SS : Hid _ := hs2
      have e6 : T.getD 6 undef = .slice (some ⟨bx, 0, none⟩) 32 32 := c1
      have e7 : T.getD 7 undef = .slice (some ⟨bY, 0, none⟩) 32 32 := c2
      clear c1 c2 hg hs hs2
      have f5 := e5
      have f6 := e6
      have f7 := e7
      rw [Array.getD_eq_getD_getElem?] at f5 f6 f7
      go_simp
      have bl := Blk.made w [.slice (some ⟨g, 0, none⟩) 1 1, .slice (some ⟨bx, 0, none⟩) 32 32, .slice (some ⟨bY, 0, none⟩) 32 32] 28
      exact hK _ _ (putF hJ 3 (by decide) rfl ⟨_, _, rfl, Src.kept0 SS.out ((Below.refl _ _).alloc (Nat.le_refl _) _), bl.cell 0, bl.cell 1, bl.cell 2⟩ ((Below.refl _ _).alloc (Nat.le_refl _) _))
    · obtain rfl : o = { dst := some 9, op := Op.call { callee := Callee.value (Operand.func 12), args := #[Operand.tmp 8], argTypes := #[36] }, type := 28, pos := "text.go:21", after := #[{ on := 3, ground := Ground.data }], guard := none } := (Option.some.inj ho).symm
      have c3 := hJ.val 3 (by decide) (hdeps ⟨3, .data⟩ (by simp) rfl)
      rw [if_pos (want_all rfl)]
      clear ho hdeps hi
      obtain ⟨g, v0, hg, h2, h3, h4, h5⟩ := c3
      have e8 : T.getD 8 undef = .slice (some ⟨g, 0, none⟩) 3 3 := hg
      have CC : Hid _ := concat_any h3 h4 h5 h2 (src_box hx (BX.keep0 hJ.ch)) (src_box hy (BY.keep0 hJ.ch)) (by simp; omega) (by simp [hx, hy])
      clear hg h2 h3 h4 h5
      go_simp
      refine Calls.mono CC.out ?_
      rintro e w2 ⟨v, rfl, m⟩
      exact hK _ _ (putF hJ 4 (by decide) rfl (Made.outer m hJ.ch) m.2.1)
    · obtain rfl : o = { dst := some 4, op := Op.assign (Operand.tmp 9), type := 28, pos := "text.go:21", after := #[{ on := 4, ground := Ground.data }, { on := 4, ground := Ground.chain }, { on := 0, ground := Ground.phase }, { on := 1, ground := Ground.phase }, { on := 2, ground := Ground.phase }, { on := 3, ground := Ground.phase }, { on := 4, ground := Ground.phase }], guard := none } := (Option.some.inj ho).symm
      have c4 := hJ.val 4 (by decide) (hdeps ⟨4, .data⟩ (by simp) rfl)
      rw [if_pos (want_all rfl)]
      clear ho hdeps hi
      have m : Made W w (T.getD 9 undef) (forkT x y) := c4
      obtain ⟨v9, hv9⟩ : ∃ v, T.getD 9 undef = v := ⟨_, rfl⟩
      have M : Hid (Made W w v9 (forkT x y)) := by rw [← hv9]; exact m
      clear m c4
      go_simp
      exact hK _ _ (putF hJ 5 (by decide) rfl M.out (Below.refl _ _))

set_option maxRecDepth 100000 in
set_option maxHeartbeats 4000000 in
theorem forkText_any {w : World} (x y : List Int) (hx : x.length = 32) (hy : y.length = 32) :
    Calls Try.prog 7 #[.agg (bs x).toArray, .agg (bs y).toArray] w fun e w' => ∃ v, e = .returned v ∧ Made w w' v (forkT x y) := by
  obtain ⟨W, hW⟩ : ∃ W, W = (w.alloc (.cells (bs x).toArray 24)).alloc (.cells (bs y).toArray 24) := ⟨_, rfl⟩
  have bb : Below w.heap.size w W := by rw [hW]; exact ((Below.refl _ _).alloc (Nat.le_refl _) _).alloc (by simp) _
  have bx : Blk W w.heap.size (bs x) 24 := by rw [hW]; exact (Blk.made _ _ _).alloc _
  have bY : Blk W (w.heap.size + 1) (bs y) 24 := by rw [hW]; have := Blk.made (w.alloc (.cells (bs x).toArray 24)) (bs y) 24; rwa [World.size_alloc] at this
  have BW : Hid _ := bb
  have RF : Hid (∀ (Q : Exit → Act → World → Prop) (A : Act), A.tmps.size = 10 → A.defers = [] → A.tmps.getD 2 undef = .pointer (some ⟨w.heap.size, 0, none⟩) → A.tmps.getD 3 undef = .pointer (some ⟨w.heap.size + 1, 0, none⟩) → (∀ b w', b.tmps.size = 10 → b.defers = [] → Made W w' (b.tmps.getD 4 undef) (forkT x y) → Q .normal b w') → (Code.region 1 opsF true).wp Try.prog Q A W) :=
    fun Q A h1 h2 h3 h4 h5 => regF hx hy bx bY h1 h2 h3 h4 (Below.refl _ _) h5
  clear bb bx bY
  go_enter Try.func7, Try.ntmps7
  go_upto_region 1 with fail
  rw [← hW]
  clear hW
  refine RF.out _ _ rfl rfl rfl rfl ?_
  rename_i KK hKK
  intro b w' _ b2 b3
  refine hKK b w' ?_
  refine wp_ret ?_
  show bodyPost Try.prog Try.f7 (fun e w' => ∃ v, e = .returned v ∧ Made w w' v (forkT x y)) .ret b w'
  refine bodyPost_ret (results_tmp rfl _ _ _) b2 ?_
  exact ⟨_, rfl, Made.outer b3 BW.out⟩

end Go.Proofs.Ytfbiafemmoamiaa
