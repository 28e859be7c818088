/-
  Clones; a tail copied.
-/
import Derived.Test.YtnfcmpffihmnmaaSgU
namespace Go.Proofs.Ytnfcmpffihmnmaa
open Go.RowKit

theorem OL.form {w : World} {v : Value} {ty sz n g : Nat} {f : Nat → List Value} (h : OL w v ty sz f n) (hg : v.ownBlock = some g) : ∃ c, v = .slice (some ⟨g, 0, none⟩) n c := by
  rcases h.2 with ⟨e, _⟩ | ⟨b, cap, cur, e, _⟩
  · rw [e] at hg; cases hg
  · rw [e] at hg
    cases hg
    exact ⟨cap, e⟩

/-- A list of such records in a block of its own that was made since B. -/
def NL (w : World) (B : Nat) (A : Option Addr) (n sz : Nat) (f : Nat → List Value) : Prop := RowsIn w (fun g => B ≤ g) A n sz f ∧ ∃ g, A = some ⟨g, 0, none⟩ ∧ B ≤ g
theorem NL.kept {w w' : World} {B n sz : Nat} {A : Option Addr} {f : Nat → List Value} (h : NL w B A n sz f) {S : Nat → Prop} (c : Chg S w w') (hS : ∀ g, B ≤ g → ¬ S g) : NL w' B A n sz f := ⟨h.1.kept c hS, h.2⟩
theorem NL.mono {w : World} {B B' n sz : Nat} {A : Option Addr} {f : Nat → List Value} (h : NL w B A n sz f) (hb : B' ≤ B) : NL w B' A n sz f := ⟨h.1.mono (fun _ e => Nat.le_trans hb e), by obtain ⟨g, e, k⟩ := h.2; exact ⟨g, e, Nat.le_trans hb k⟩⟩

theorem RowsIn.old {w : World} {Av : Nat → Prop} {A : Option Addr} {n sz : Nat} {f : Nat → List Value} (h : RowsIn w Av A n sz f) (hf : ∀ i, f i ≠ []) : RowsIn w (fun g => g < w.heap.size) A n sz f := fun i hi => by
  obtain ⟨g, o, e, _, hr⟩ := h i hi
  refine ⟨g, o, e, ?_, hr⟩
  cases hx : f i with
  | nil => exact absurd hx (hf i)
  | cons x t => exact World.block_lt_of_cell? _ _ (hr 0 x (by rw [hx]; rfl))

/-- Records appended to an empty list just made. -/
theorem app_new {w : World} {ty sz sl by_ n c : Nat} {Z : Value} {f : Nat → List Value} {Av : Nat → Prop} {A : Option Addr} (hu : Try.prog.underlying sl = some (.slice ty)) (hi0 : (Try.prog.info? ty).map (fun i => (i.zero, i.size, i.bytes)) = some (some Z, sz, by_)) (hZ : Z.cells.size = sz) (hp : 0 < sz)
    (hf : ∀ i, (f i).length = sz) (h1 : ∀ i, ∀ u ∈ f i, u.oneCell' = true) (hr : RowsIn w Av A n sz f) (hb : n * by_ ≤ 140737488355328) (hb2 : n ≤ 9223372036854775807) {b B : Nat} (h : OL w (.slice (some ⟨b, 0, none⟩) 0 0) ty sz (fun _ => []) 0) (hbB : B ≤ b) (hB : B ≤ w.heap.size) (ty2 : TypeId) :
    ∃ g cc w', (Builtin.append_ #[sl, sl] ty2 #[.slice (some ⟨b, 0, none⟩) 0 0, .slice A n c]).run Try.prog w = .ok (.slice (some ⟨g, 0, none⟩) n cc) w' ∧ NL w' B (some ⟨g, 0, none⟩) n sz f ∧ Chg (fun g => g = b) w w' := by
  obtain ⟨v', w', r1, r2, r3, r4⟩ := OL.app (c := c) hu hi0 hZ hp h hf h1 hr hb hb2 ty2
  have : ∃ g, v'.ownBlock = some g ∧ B ≤ g := by
    rcases r4 with e | e
    · exact ⟨b, e, hbB⟩
    · exact ⟨_, e, hB⟩
  obtain ⟨g, hg, hgB⟩ := this
  obtain ⟨cc, e⟩ := r2.form hg
  obtain ⟨A', c', e', hr'⟩ := r2.rows hf
  rw [e] at e'
  cases e'
  refine ⟨g, cc, w', by rw [← e]; exact r1, ⟨hr'.mono (fun q hq => ?_), g, rfl, hgB⟩, r3⟩
  rw [hg] at hq
  cases hq
  exact hgB

def bF : Nat → List Value := fun _ => [.bool false]
theorem bF_len (i : Nat) : (bF i).length = 1 := rfl
theorem bF_one : ∀ i, ∀ u ∈ bF i, u.oneCell' = true := fun i u hu => by rw [List.mem_singleton.1 hu]; rfl
def mF (ms : Nat → Mk) : Nat → List Value := fun i => (ms i).cells
theorem mF_len (ms : Nat → Mk) (i : Nat) : (mF ms i).length = 2 := rfl
theorem mF_one (ms : Nat → Mk) : ∀ i, ∀ u ∈ mF ms i, u.oneCell' = true := fun i => (ms i).one

set_option maxRecDepth 100000 in
set_option maxHeartbeats 1000000 in
theorem clone_any {w : World} {Av : Nat → Prop} {a : Addr} {n c : Nat} {ms : Nat → Mk} (hr : RowsIn w Av (some a) n 2 (mF ms)) (hn : n ≤ 65536) :
    Calls Try.prog 30 #[.slice (some a) n c] w fun e w' => ∃ A cc, e = .returned (.slice A n cc) ∧ NL w' w.heap.size A n 2 (mF ms) ∧ Chg (fun _ => False) w w' := by
  obtain ⟨W, hW⟩ : ∃ W, W = w.alloc (.cells #[] 45) := ⟨_, rfl⟩
  have cW : Chg (fun _ => False) w W := by rw [hW]; exact (Chg.refl _ _).alloc _
  have sW : w.heap.size ≤ W.heap.size := cW.size
  obtain ⟨g, cc, w', r1, r2, r3⟩ := app_new (w := W) (c := c) (B := w.heap.size) (b := w.heap.size) Try.underlying23 info45 rfl (by decide) (mF_len ms) (mF_one ms) (hr.kept cW (fun _ _ e => e)) (by omega) (by omega) (by rw [hW]; exact OL.empty w) (Nat.le_refl _) sW 23
  have R1 : Hid _ := r1
  have R2 : Hid (NL w' w.heap.size (some ⟨g, 0, none⟩) n 2 (mF ms) ∧ Chg (fun _ => False) w w') := ⟨r2, cW.trans r3 (fun i e => .inr (by omega))⟩
  rw [hW] at R1
  clear hr r1 r2 r3 cW sW hW
  have EQ : ∀ w, (binOp .eql 23 (.slice (some a) n c) (.slice none 0 0)).run Try.prog w = .ok (.bool false) w := fun w => Lib.run_eql_slice_nil w 23 45 (some a) n c 0 0 Try.underlying23
  go_enter Try.func30, Try.ntmps30
  go_wp2_with (refine wpList_appG (sl := 23) rfl (.tmp 5) (.tmp 6) rfl (v := .slice (some ⟨w.heap.size, 0, none⟩) 0 0) (u := .slice (some a) n c) (v' := .slice (some ⟨g, 0, none⟩) n cc) (w' := w') rfl rfl R1.out ?_)
  go_ret
  exact ⟨_, _, rfl, R2.out⟩

set_option maxRecDepth 100000 in
set_option maxHeartbeats 1000000 in
theorem clone2_any {w : World} {Av : Nat → Prop} {a : Addr} {n c : Nat} (hr : RowsIn w Av (some a) n 1 bF) (hn : n ≤ 65536) :
    Calls Try.prog 31 #[.slice (some a) n c] w fun e w' => ∃ A cc, e = .returned (.slice A n cc) ∧ NL w' w.heap.size A n 1 bF ∧ Chg (fun _ => False) w w' := by
  obtain ⟨W, hW⟩ : ∃ W, W = w.alloc (.cells #[] 4) := ⟨_, rfl⟩
  have cW : Chg (fun _ => False) w W := by rw [hW]; exact (Chg.refl _ _).alloc _
  have sW : w.heap.size ≤ W.heap.size := cW.size
  obtain ⟨g, cc, w', r1, r2, r3⟩ := app_new (w := W) (c := c) (B := w.heap.size) (b := w.heap.size) Try.underlying54 info4 rfl (by decide) bF_len bF_one (hr.kept cW (fun _ _ e => e)) (by omega) (by omega) (by rw [hW]; exact OL.empty w) (Nat.le_refl _) sW 54
  have R1 : Hid _ := r1
  have R2 : Hid (NL w' w.heap.size (some ⟨g, 0, none⟩) n 1 bF ∧ Chg (fun _ => False) w w') := ⟨r2, cW.trans r3 (fun i e => .inr (by omega))⟩
  rw [hW] at R1
  clear hr r1 r2 r3 cW sW hW
  have EQ : ∀ w, (binOp .eql 54 (.slice (some a) n c) (.slice none 0 0)).run Try.prog w = .ok (.bool false) w := fun w => Lib.run_eql_slice_nil w 54 4 (some a) n c 0 0 Try.underlying54
  go_enter Try.func31, Try.ntmps31
  go_wp2_with (refine wpList_appG (sl := 54) rfl (.tmp 5) (.tmp 6) rfl (v := .slice (some ⟨w.heap.size, 0, none⟩) 0 0) (u := .slice (some a) n c) (v' := .slice (some ⟨g, 0, none⟩) n cc) (w' := w') rfl rfl R1.out ?_)
  go_ret
  exact ⟨_, _, rfl, R2.out⟩

/-- A tail's cells. -/
def tlC (A : Option Addr) (n c : Nat) (S C : Int) (H : Option Addr) (hc : Nat) : List Value := [.slice A n c, .int .u64 S, .int .i64 C, .slice H n hc]
theorem tlC_one (A : Option Addr) (n c : Nat) (S C : Int) (H : Option Addr) (hc : Nat) : ∀ v ∈ tlC A n c S C H hc, v.oneCell' = true := by
  intro v hv
  simp only [tlC, List.mem_cons, List.not_mem_nil, or_false] at hv
  rcases hv with rfl | rfl | rfl | rfl <;> rfl
theorem Try.tlSz : (Try.prog.info? 56).map (·.size) = some 4 := by kernel_rfl

theorem results_row {fn : Func} {p : Tmp} {ty : TypeId} (h : fn.results = #[.cell p ty]) (tmps : Array Value) (w : World) (g : Nat) (t : TypeId) (cs : List Value) (d : TypeDesc)
    (hp : tmps.getD p undef = .pointer (some ⟨g, 0, none⟩)) (hg : Blk w g cs t)
    (hu : Try.prog.underlying ty = some d) (hd : d.isRow = true) (hi : (Try.prog.info? ty).map (·.size) = some cs.length) :
    (results fn tmps).run Try.prog w = .ok (.agg cs.toArray) w := by
  have hl := run_loadVar_mid (P := Try.prog) w g 0 ty cs d (hg.range (by simp)) hu hd hi
  have hp' : tmps[p]?.getD undef = .pointer (some ⟨g, 0, none⟩) := by simpa using hp
  simp [results, h, hp', asAddr, hl]

set_option maxRecDepth 100000 in
set_option maxHeartbeats 2000000 in
theorem copied_any {w : World} {Av Av2 : Nat → Prop} {a h : Addr} {n c hc : Nat} {S C : Int} {ms : Nat → Mk} (hr : RowsIn w Av (some a) n 2 (mF ms)) (hh : RowsIn w Av2 (some h) n 1 bF) (hn : n ≤ 65536) :
    Calls Try.prog 22 #[.agg (tlC (some a) n c S C (some h) hc).toArray] w fun e w' => ∃ A cc H hcc, e = .returned (.agg (tlC A n cc S C H hcc).toArray) ∧ NL w' w.heap.size A n 2 (mF ms) ∧ NL w' w.heap.size H n 1 bF ∧ Chg (fun _ => False) w w' := by
  obtain ⟨X, hX⟩ : ∃ X, X = w.heap.size := ⟨_, rfl⟩
  obtain ⟨W, hW⟩ : ∃ W, W = (w.alloc (.cells (tlC (some a) n c S C (some h) hc).toArray 56)).alloc (.cells #[.slice none 0 0, .int .u64 0, .int .i64 0, .slice none 0 0] 56) := ⟨_, rfl⟩
  have cW : Chg (fun _ => False) w W := by rw [hW]; exact ((Chg.refl _ _).alloc _).alloc _
  have b0 : Blk W X (tlC (some a) n c S C (some h) hc) 56 := by rw [hW, hX]; exact (Blk.made w _ 56).alloc _
  have b1 : Blk W (X + 1) [.slice none 0 0, .int .u64 0, .int .i64 0, .slice none 0 0] 56 := by
    have := Blk.made (w.alloc (.cells (tlC (some a) n c S C (some h) hc).toArray 56)) [.slice none 0 0, .int .u64 0, .int .i64 0, .slice none 0 0] 56
    rw [World.size_alloc, ← hX] at this
    rw [hW]
    exact this
  have xW : X + 2 ≤ W.heap.size := b1.lt
  have CL : Hid _ := clone_any (c := c) (hr.kept cW (fun _ _ e => e)) hn
  have RH : Hid (RowsIn W (fun g => g < X) (some h) n 1 bF) := (hh.old (fun _ e => by cases e)).kept cW (fun _ _ e => e) |>.mono (fun _ e => by rw [hX]; exact e)
  have CW : Hid _ := cW
  have B0 : Hid _ := b0
  have B1 : Hid _ := b1
  have k0 : W.cell? ⟨X, 0, none⟩ = some (.slice (some a) n c) := b0.cell 0
  have HXW : Hid (X = w.heap.size) := hX
  clear hr hh cW b0 b1
  go_enter Try.func22, Try.ntmps22
  go_upto_region 1 with fail
  rw [← hX, ← hW]
  clear hX hW
  go_upto_region 2 with (go_at_call 30; refine Calls.mono CL.out ?_; rintro e w1 ⟨A, cc, rfl, hnl, hch⟩; have x0 : w1.cell? ⟨X, 0, none⟩ = some (.slice (some a) n c) := (B0.out.keep hch (fun e => e)).cell 0; have f0 : w1.frozen? ⟨X, 0, none⟩ = false := (B0.out.keep hch (fun e => e)).fr 0; have NL1 : Hid _ := hnl; have CH1 : Hid _ := hch; clear hnl hch)
  obtain ⟨W2, hW2⟩ : ∃ W2, W2 = w1.setCell ⟨X, 0, none⟩ (.slice A n cc) := ⟨_, rfl⟩
  have b2 : Blk W2 X (tlC A n cc S C (some h) hc) 56 := by rw [hW2]; exact (B0.out.keep CH1.out (fun e => e)).set 0 _
  have c2 : Chg (fun k => k = X) w1 W2 := by rw [hW2]; exact (Chg.refl (fun k => k = X) _).setCell (p := ⟨X, 0, none⟩) (.inl rfl) _
  have b3 : Blk W2 (X + 1) [.slice none 0 0, .int .u64 0, .int .i64 0, .slice none 0 0] 56 := (B1.out.keep CH1.out (fun e => e)).keep c2 (by omega)
  have n2 : NL W2 W.heap.size A n 2 (mF ms) := NL.kept NL1.out c2 (fun g hg => by omega)
  have c3 : Chg (fun k => k = X) W W2 := (CH1.out.mono (fun _ _ e => e.elim)).trans c2 (fun _ e => .inl e)
  have CL2 : Hid _ := clone2_any (c := hc) (RowsIn.kept RH.out c3 (fun g hg => by omega)) hn
  have k3 : W2.cell? ⟨X, 3, none⟩ = some (.slice (some h) n hc) := b2.cell 3
  have B2 : Hid _ := b2
  have B3 : Hid _ := b3
  have N2 : Hid (NL W2 W.heap.size A n 2 (mF ms)) := n2
  have C3 : Hid _ := c3
  have s3 : W.heap.size ≤ W2.heap.size := c3.size
  rw [← hW2]
  clear hW2 b2 c2 b3 n2 c3 NL1 CH1 x0 f0 B0 B1 CL RH k0
  go_upto_region 3 with (go_at_call 31; refine Calls.mono CL2.out ?_; rintro e w3 ⟨H, hcc, rfl, hnl, hch⟩; have x0 : w3.cell? ⟨X, 3, none⟩ = some (.slice (some h) n hc) := (B2.out.keep hch (fun e => e)).cell 3; have f0 : w3.frozen? ⟨X, 3, none⟩ = false := (B2.out.keep hch (fun e => e)).fr 3; have NL1 : Hid _ := hnl; have CH1 : Hid _ := hch; clear hnl hch)
  obtain ⟨W4, hW4⟩ : ∃ W4, W4 = w3.setCell ⟨X, 3, none⟩ (.slice H n hcc) := ⟨_, rfl⟩
  have b4 : Blk W4 X (tlC A n cc S C H hcc) 56 := by rw [hW4]; exact (B2.out.keep CH1.out (fun e => e)).set 3 _
  have c4 : Chg (fun k => k = X) w3 W4 := by rw [hW4]; exact (Chg.refl (fun k => k = X) _).setCell (p := ⟨X, 3, none⟩) (.inl rfl) _
  have b5 : Blk W4 (X + 1) [.slice none 0 0, .int .u64 0, .int .i64 0, .slice none 0 0] 56 := (B3.out.keep CH1.out (fun e => e)).keep c4 (by omega)
  have n4 : NL W4 W.heap.size H n 1 bF := NL.mono (NL.kept NL1.out c4 (fun g hg => by omega)) s3
  have n5 : NL W4 W.heap.size A n 2 (mF ms) := NL.kept (NL.kept N2.out CH1.out (fun _ _ e => e)) c4 (fun g hg => by omega)
  have c5 : Chg (fun k => k = X) W W4 := (C3.out.trans CH1.out (fun _ e => e.elim)).trans c4 (fun _ e => .inl e)
  have B4 : Hid _ := b4
  have B5 : Hid _ := b5
  have N4 : Hid (NL W4 W.heap.size H n 1 bF ∧ NL W4 W.heap.size A n 2 (mF ms)) := ⟨n4, n5⟩
  have C5 : Hid _ := c5
  rw [← hW4]
  clear hW4 b4 c4 b5 n4 n5 c5 NL1 CH1 x0 f0 B2 B3 CL2 C3 N2 k3
  go_wp2_with (first
    | refine wpList_load_part rfl 56 (.tmp 1) rfl X 0 (tlC A n cc S C H hcc) rfl B4.out rfl Try.underlying56 rfl Try.tlSz ?_
    | (refine wpList_store_part rfl 56 (.tmp 2) (.tmp 11) rfl (X + 1) 0 (tlC A n cc S C H hcc) rfl rfl B5.out (by simp [tlC]) Try.tlSz (tlC_one _ _ _ _ _ _ _) ?_; intro wB hw8 hc8; rw [splice_all _ _ (by simp [tlC])] at hw8; have BK : Hid _ := hw8; have CB : Hid _ := hc8; clear hw8 hc8))
  refine bodyPost_ret (results_row rfl _ _ (X + 1) 56 _ _ rfl BK.out Try.underlying56 rfl Try.tlSz) rfl ?_
  have hX := HXW.out
  refine ⟨A, cc, H, hcc, rfl, NL.mono (NL.kept N4.out.2 CB.out (fun g hg => by omega)) CW.out.size, NL.mono (NL.kept N4.out.1 CB.out (fun g hg => by omega)) CW.out.size, ?_⟩
  exact (CW.out.trans C5.out (fun i e => .inr (by omega))).trans CB.out (fun i e => .inr (by omega))
end Go.Proofs.Ytnfcmpffihmnmaa
