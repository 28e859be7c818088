/-
  Pages compared.
-/
import Derived.Test.YtgmheipbcopajaaPgS
import Derived.Test.YtgmheipbcopajaaPgT
import Derived.Test.YtgmheipbcopajaaTwS
namespace Go.Proofs.Ytgmheipbcopajaa
open Go.RowKit

theorem Try.size49 : (Try.prog.info? 49).map (·.size) = some 2 := by kernel_rfl
set_option maxRecDepth 100000 in
set_option maxHeartbeats 4000000 in
theorem sameAnnal_any {w : World} {sz : Nat} {Av Bv : Nat → Prop} {A B : Option Addr} {n c d : Nat} {f : Nat → Pk} (ha : RowsIn w Av A n 66 (fun i => (f i).cells)) (hb : RowsIn w Bv B n 66 (fun i => (f i).cells)) (hn : n ≤ 9223372036854775807) (hl : ∀ i, i < n → (f i).x.length = 33 ∧ (f i).y.length = 32) :
    Calls Try.prog 59 #[.agg #[.int .u64 sz, .slice A n c], .agg #[.int .u64 sz, .slice B n d]] w fun e w' => e = .returned (.bool true) ∧ Below w.heap.size w w' := by
  obtain ⟨W, hW⟩ : ∃ W, W = (w.alloc (.cells #[.int .u64 sz, .slice A n c] 49)).alloc (.cells #[.int .u64 sz, .slice B n d] 49) := ⟨_, rfl⟩
  have cW : Chg (fun _ => False) w W := by rw [hW]; exact ((Chg.refl _ _).alloc _).alloc _
  have b1 : Blk W w.heap.size [.int .u64 sz, .slice A n c] 49 := by rw [hW]; exact (Blk.made w _ 49).alloc _
  have b2 : Blk W (w.heap.size + 1) [.int .u64 sz, .slice B n d] 49 := by
    rw [hW]
    have := Blk.made (w.alloc (.cells #[.int .u64 sz, .slice A n c] 49)) [.int .u64 sz, .slice B n d] 49
    rwa [World.size_alloc] at this
  have c0 : W.cell? ⟨w.heap.size, 0, none⟩ = some (.int .u64 sz) := b1.cell 0
  have c1 : W.cell? ⟨w.heap.size, 1, none⟩ = some (.slice A n c) := b1.cell 1
  have d0 : W.cell? ⟨w.heap.size + 1, 0, none⟩ = some (.int .u64 sz) := b2.cell 0
  have d1 : W.cell? ⟨w.heap.size + 1, 1, none⟩ = some (.slice B n d) := b2.cell 1
  have HB : Hid (Below w.heap.size w W) := by rw [hW]; exact ((Below.refl _ _).alloc (Nat.le_refl _) _).alloc (by simp) _
  have HC : Hid _ := samePeaks_any (c := c) (d := d) (ha.kept cW (fun _ _ e => e)) (hb.kept cW (fun _ _ e => e)) hn hl
  clear ha hb cW b1 b2
  go_enter Try.func59, Try.ntmps59
  go_upto_region 1 with fail
  rw [← hW]
  clear hW
  go_wp2_with (go_at_call 107; refine Calls.mono HC.out ?_; rintro e w9 ⟨rfl, bl⟩; have F : Hid (Below w.heap.size w w9) := HB.out.trans (bl.mono HB.out.size); clear bl)
  go_ret
  exact ⟨rfl, F.out⟩

set_option maxRecDepth 100000 in
set_option maxHeartbeats 8000000 in
theorem samePage_any {w : World} {Av Bv : Nat → Prop} {P : Pg} (hP : PgIn w Av P) {A1 A2 A3 : Option Addr} {c1 c2 c3 : Nat} (h1 : RowsIn w Bv A1 P.mn 2 (fun i => (P.ms i).cells)) (h2 : RowsIn w Bv A2 P.vn 67 (fun i => (P.vs i).cells)) (h3 : RowsIn w Bv A3 P.pn 66 (fun i => (P.ps i).cells)) :
    Calls Try.prog 19 #[.agg #[.int .u64 P.la, .int .i64 P.wi, .int .u64 P.se, .slice A1 P.mn c1, .slice A2 P.vn c2, .int .u64 P.sz, .slice A3 P.pn c3], .agg P.cells.toArray] w fun e w' => e = .returned (.bool true) ∧ Below w.heap.size w w' := by
  obtain ⟨W, hW⟩ : ∃ W, W = (w.alloc (.cells #[.int .u64 P.la, .int .i64 P.wi, .int .u64 P.se, .slice A1 P.mn c1, .slice A2 P.vn c2, .int .u64 P.sz, .slice A3 P.pn c3] 51)).alloc (.cells P.cells.toArray 51) := ⟨_, rfl⟩
  have cW : Chg (fun _ => False) w W := by rw [hW]; exact ((Chg.refl _ _).alloc _).alloc _
  have b1 : Blk W w.heap.size [.int .u64 P.la, .int .i64 P.wi, .int .u64 P.se, .slice A1 P.mn c1, .slice A2 P.vn c2, .int .u64 P.sz, .slice A3 P.pn c3] 51 := by rw [hW]; exact (Blk.made w _ 51).alloc _
  have b2 : Blk W (w.heap.size + 1) P.cells 51 := by
    rw [hW]
    have := Blk.made (w.alloc (.cells #[.int .u64 P.la, .int .i64 P.wi, .int .u64 P.se, .slice A1 P.mn c1, .slice A2 P.vn c2, .int .u64 P.sz, .slice A3 P.pn c3] 51)) P.cells 51
    rwa [World.size_alloc] at this
  have x0 : W.cell? ⟨w.heap.size, 0, none⟩ = some (.int .u64 P.la) := b1.cell 0
  have x1 : W.cell? ⟨w.heap.size, 1, none⟩ = some (.int .i64 P.wi) := b1.cell 1
  have x2 : W.cell? ⟨w.heap.size, 2, none⟩ = some (.int .u64 P.se) := b1.cell 2
  have x3 : W.cell? ⟨w.heap.size, 3, none⟩ = some (.slice A1 P.mn c1) := b1.cell 3
  have y0 : W.cell? ⟨w.heap.size + 1, 0, none⟩ = some (.int .u64 P.la) := b2.cell 0
  have y1 : W.cell? ⟨w.heap.size + 1, 1, none⟩ = some (.int .i64 P.wi) := b2.cell 1
  have y2 : W.cell? ⟨w.heap.size + 1, 2, none⟩ = some (.int .u64 P.se) := b2.cell 2
  have y3 : W.cell? ⟨w.heap.size + 1, 3, none⟩ = some (.slice P.ma P.mn P.mc) := b2.cell 3
  have BX : Hid _ := b1
  have BY : Hid _ := b2
  have HB : Hid (Below w.heap.size w W) := by rw [hW]; exact ((Below.refl _ _).alloc (Nat.le_refl _) _).alloc (by simp) _
  have HC1 : Hid _ := sameMarks_any (c := c1) (d := P.mc) (h1.kept cW (fun _ _ e => e)) (hP.mrow.kept cW (fun _ _ e => e)) hP.mn
  have R2 : Hid (RowsIn W Bv A2 P.vn 67 (fun i => (P.vs i).cells)) := h2.kept cW (fun _ _ e => e)
  have R3 : Hid (RowsIn W Bv A3 P.pn 66 (fun i => (P.ps i).cells)) := h3.kept cW (fun _ _ e => e)
  have HP : Hid (PgIn W Av P) := hP.kept cW (fun _ _ e => e)
  have MN := hP.mn
  have VN := hP.vn
  have PN := hP.pn
  clear hP h1 h2 h3 cW b1 b2
  go_enter Try.func19, Try.ntmps19
  go_upto_region 1 with fail
  rw [← hW]
  clear hW
  go_wp2_with fail
  refine Calls.mono HC1.out ?_
  rintro e w8 ⟨rfl, bl⟩
  have c8 : Chg (fun _ => False) W w8 := Chg.of_below bl (fun _ => False)
  have x4 : w8.cell? ⟨w.heap.size, 4, none⟩ = some (.slice A2 P.vn c2) := (BX.out.keep c8 (fun e => e)).cell 4
  have y4 : w8.cell? ⟨w.heap.size + 1, 4, none⟩ = some (.slice P.va P.vn P.vc) := (BY.out.keep c8 (fun e => e)).cell 4
  have BL8 : Hid (Below W.heap.size W w8) := bl
  have HC2 : Hid _ := sameVers_any (c := c2) (d := P.vc) (R2.out.kept c8 (fun _ _ e => e)) (HP.out.vrow.kept c8 (fun _ _ e => e)) VN (fun i hi => ⟨(HP.out.vk i hi).2.1, (HP.out.vk i hi).2.2.2⟩)
  clear bl c8 x0 x1 x2 x3 y0 y1 y2 y3
  go_wp2_with fail
  refine Calls.mono HC2.out ?_
  rintro e w9 ⟨rfl, bl⟩
  have BL9 : Hid (Below W.heap.size W w9) := BL8.out.trans (bl.mono BL8.out.size)
  have c9 : Chg (fun _ => False) W w9 := Chg.of_below BL9.out (fun _ => False)
  have X9 : Hid _ := BX.out.keep c9 (fun e => e)
  have Y9 : Hid _ := BY.out.keep c9 (fun e => e)
  have HC3 : Hid _ := sameAnnal_any (sz := P.sz) (c := c3) (d := P.pc) (R3.out.kept c9 (fun _ _ e => e)) (HP.out.prow.kept c9 (fun _ _ e => e)) PN (fun i hi => (HP.out.pk i hi).2)
  clear bl c9 x4 y4
  go_wp2_with (first
    | refine wpList_load_g (by rfl) 49 (.tmp 37) rfl w.heap.size 5 [.int .u64 P.sz, .slice A3 P.pn c3] rfl X9.out rfl Try.underlying49 rfl Try.size49 ?_
    | refine wpList_load_g (by rfl) 49 (.tmp 39) rfl (w.heap.size + 1) 5 [.int .u64 P.sz, .slice P.pa P.pn P.pc] rfl Y9.out rfl Try.underlying49 rfl Try.size49 ?_)
  refine Calls.mono HC3.out ?_
  rintro e w10 ⟨rfl, bl⟩
  have F : Hid (Below w.heap.size w w10) := HB.out.trans ((BL9.out.trans (bl.mono BL9.out.size)).mono HB.out.size)
  clear bl
  go_wp2_with fail
  go_ret
  exact ⟨rfl, F.out⟩
end Go.Proofs.Ytgmheipbcopajaa
