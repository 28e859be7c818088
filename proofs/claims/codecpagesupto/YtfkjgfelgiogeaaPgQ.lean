import Derived.Test.YtfkjgfelgiogeaaTwW
import Derived.Test.YtfkjgfelgiogeaaEq
import Derived.Test.YtfkjgfelgiogeaaPlain
import Derived.Test.YtfkjgfelgiogeaaPgS
import Derived.Test.YtfkjgfelgiogeaaPgT
/-
  Kids compared.
-/
namespace Go.Proofs.Ytfkjgfelgiogeaa
open Go.RowKit

theorem wpList_load_g {ops : Array Oper} {rest : List Oper} {op : Oper} {a : Act} {w : World} {Q : Exit → Act → World → Prop} (hw : Region.wanted op (yielded ops a.tmps) = true) (ty : TypeId) (x : Operand) (ho : op.op = .load ty x)
    (g o : Nat) (vs : List Value) (hx : a.eval x = .pointer (some ⟨g, o, none⟩)) {cs : List Value} {t : TypeId} (hg : Blk w g cs t) (hv : (cs.drop o).take vs.length = vs) {d : TypeDesc} (hu : Try.prog.underlying ty = some d) (hd : d.isRow = true)
    (hi : (Try.prog.info? ty).map (·.size) = some vs.length) (h : wpList Try.prog ops Q rest (a.put op.dst (.agg vs.toArray)) w) : wpList Try.prog ops Q (op :: rest) a w :=
  wpList_step fun K hK => by
    rw [if_pos hw]
    exact wp_load_mid ty x ho g o hx vs d (hg.range hv) hu hd hi (hK _ _ h)
theorem kdC_ad (lv : Nat) (s : Value) (ct : Nat) (x y : List Int) : ((kdC lv s ct (x ++ y)).drop 3).take (bs x).length = bs x := by simp [kdC, bs]
theorem kdC_lb (lv : Nat) (s : Value) (ct : Nat) (x y : List Int) (h : x.length = 33) : ((kdC lv s ct (x ++ y)).drop 36).take (bs y).length = bs y := by
  have e : (kdC lv s ct (x ++ y)).drop 36 = bs y := by
    show (bs (x ++ y)).drop 33 = bs y
    rw [bs_app, List.drop_append_of_le_length (by rw [bs_len]; omega), List.drop_eq_nil_of_le (by rw [bs_len]; omega), List.nil_append]
  rw [e, List.take_length]

set_option maxRecDepth 100000 in
set_option maxHeartbeats 4000000 in
theorem sameKid_any {w : World} {lv ct : Nat} {x y kl : List Int} (hx : x.length = 33) (hy : y.length = 32) (hk : kl.length ≤ 1024) {a b : Option Addr} {n c m d : Nat} (hs : Src w (.slice a n c) kl) (hu : Src w (.slice b m d) kl) :
    Calls Try.prog 87 #[.agg (kdC lv (.slice a n c) ct (x ++ y)).toArray, .agg (kdC lv (.slice b m d) ct (x ++ y)).toArray] w fun e w' => e = .returned (.bool true) ∧ Below w.heap.size w w' := by
  obtain ⟨W, hW⟩ : ∃ W, W = (w.alloc (.cells (kdC lv (.slice a n c) ct (x ++ y)).toArray 154)).alloc (.cells (kdC lv (.slice b m d) ct (x ++ y)).toArray 154) := ⟨_, rfl⟩
  have cW : Chg (fun _ => False) w W := by rw [hW]; exact ((Chg.refl _ _).alloc _).alloc _
  have B1 : Hid (Blk W w.heap.size (kdC lv (.slice a n c) ct (x ++ y)) 154) := by rw [hW]; exact (Blk.made w _ 154).alloc _
  have B2 : Hid (Blk W (w.heap.size + 1) (kdC lv (.slice b m d) ct (x ++ y)) 154) := by
    rw [hW]
    have := Blk.made (w.alloc (.cells (kdC lv (.slice a n c) ct (x ++ y)).toArray 154)) (kdC lv (.slice b m d) ct (x ++ y)) 154
    rwa [World.size_alloc] at this
  have c0 : W.cell? ⟨w.heap.size, 0, none⟩ = some (.int .i64 lv) := B1.out.cell 0
  have c1 : W.cell? ⟨w.heap.size, 1, none⟩ = some (.slice a n c) := B1.out.cell 1
  have c2 : W.cell? ⟨w.heap.size, 2, none⟩ = some (.int .u64 ct) := B1.out.cell 2
  have d0 : W.cell? ⟨w.heap.size + 1, 0, none⟩ = some (.int .i64 lv) := B2.out.cell 0
  have d1 : W.cell? ⟨w.heap.size + 1, 1, none⟩ = some (.slice b m d) := B2.out.cell 1
  have d2 : W.cell? ⟨w.heap.size + 1, 2, none⟩ = some (.int .u64 ct) := B2.out.cell 2
  have e33 := eql33 x hx
  have e31 := eql31 y hy
  have SA : Hid (Src W (.slice a n c) kl) := hs.kept cW (fun _ _ e => e)
  have SB : Hid (Src W (.slice b m d) kl) := hu.kept cW (fun _ _ e => e)
  have HB : Hid (Below w.heap.size w W) := by rw [hW]; exact ((Below.refl _ _).alloc (Nat.le_refl _) _).alloc (by simp) _
  clear hs hu cW
  go_enter Try.func87, Try.ntmps87
  go_upto_region 1 with fail
  rw [← hW]
  clear hW
  go_wp2_with (first
    | refine wpList_load_g (by rfl) 33 (.tmp 18) rfl w.heap.size 3 (bs x) rfl B1.out (kdC_ad _ _ _ _ _) Try.underlying33 rfl (Try.addrSz x hx) ?_
    | refine wpList_load_g (by rfl) 33 (.tmp 20) rfl (w.heap.size + 1) 3 (bs x) rfl B2.out (kdC_ad _ _ _ _ _) Try.underlying33 rfl (Try.addrSz x hx) ?_
    | refine wpList_load_g (by rfl) 31 (.tmp 25) rfl w.heap.size 36 (bs y) rfl B1.out (kdC_lb _ _ _ _ _ hx) Try.underlying31 rfl (Try.sumSz' y hy) ?_
    | refine wpList_load_g (by rfl) 31 (.tmp 27) rfl (w.heap.size + 1) 36 (bs y) rfl B2.out (kdC_lb _ _ _ _ _ hx) Try.underlying31 rfl (Try.sumSz' y hy) ?_
    | (go_at_call 15; refine Calls.mono (same_any SA.out SB.out (by omega) (by omega)) ?_; rintro e w9 ⟨rfl, n9, rfl⟩; rw [decide_eq_true rfl]))
  have F : Hid (Below w.heap.size w (W.drewN n9)) := ⟨HB.out.os, HB.out.tape, HB.out.output, HB.out.size, HB.out.block⟩
  go_ret
  exact ⟨rfl, F.out⟩
end Go.Proofs.Ytfkjgfelgiogeaa

/-
  Pages compared.
-/
namespace Go.Proofs.Ytfkjgfelgiogeaa
open Go.RowKit

theorem Try.size49 : (Try.prog.info? 49).map (·.size) = some 2 := by kernel_rfl
set_option maxRecDepth 100000 in
set_option maxHeartbeats 4000000 in
theorem sameAnnal_any {w : World} {sz : Nat} {Av Bv : Nat → Prop} {A B : Option Addr} {n c d : Nat} {f : Nat → Pk} (ha : RowsIn w Av A n 66 (fun i => (f i).cells)) (hb : RowsIn w Bv B n 66 (fun i => (f i).cells)) (hn : n ≤ 9223372036854775807) (hl : ∀ i, i < n → (f i).x.length = 33 ∧ (f i).y.length = 32) :
    Calls Try.prog 58 #[.agg #[.int .u64 sz, .slice A n c], .agg #[.int .u64 sz, .slice B n d]] w fun e w' => e = .returned (.bool true) ∧ Below w.heap.size w w' := by
  obtain ⟨W, hW⟩ : ∃ W, W = (w.alloc (.cells #[.int .u64 sz, .slice A n c] 49)).alloc (.cells #[.int .u64 sz, .slice B n d] 49) := ⟨_, rfl⟩
  have cW : Chg (fun _ => False) w W := by rw [hW]; exact ((Chg.refl _ _).alloc _).alloc _
  have b1 : Blk W w.heap.size [.int .u64 sz, .slice A n c] 49 := by rw [hW]; exact (Blk.made w _ 49).alloc _
  have b2 : Blk W (w.heap.size + 1) [.int .u64 sz, .slice B n d] 49 := by
    rw [hW]
    have := Blk.made (w.alloc (.cells #[.int .u64 sz, .slice A n c] 49)) [.int .u64 sz, .slice B n d] 49
    rwa [World.size_alloc] at this
  have c0 : W.cell? ⟨w.heap.size, 0, none⟩ = some (.int .u64 sz) := b1.cell 0
  have c1 : W.cell? ⟨w.heap.size, 1, none⟩ = some (.slice A n c) := b1.cell 1
  have d0 : W.cell? ⟨w.heap.size + 1, 0, none⟩ = some (.int .u64 sz) := b2.cell 0
  have d1 : W.cell? ⟨w.heap.size + 1, 1, none⟩ = some (.slice B n d) := b2.cell 1
  have HB : Hid (Below w.heap.size w W) := by rw [hW]; exact ((Below.refl _ _).alloc (Nat.le_refl _) _).alloc (by simp) _
  have HC : Hid _ := samePeaks_any (c := c) (d := d) (ha.kept cW (fun _ _ e => e)) (hb.kept cW (fun _ _ e => e)) hn hl
  clear ha hb cW b1 b2
  go_enter Try.func58, Try.ntmps58
  go_upto_region 1 with fail
  rw [← hW]
  clear hW
  go_wp2_with (go_at_call 107; refine Calls.mono HC.out ?_; rintro e w9 ⟨rfl, bl⟩; have F : Hid (Below w.heap.size w w9) := HB.out.trans (bl.mono HB.out.size); clear bl)
  go_ret
  exact ⟨rfl, F.out⟩

set_option maxRecDepth 100000 in
set_option maxHeartbeats 8000000 in
theorem samePage_any {w : World} {Av Bv : Nat → Prop} {P : Pg} (hP : PgIn w Av P) {A1 A2 A3 : Option Addr} {c1 c2 c3 : Nat} (h1 : RowsIn w Bv A1 P.mn 2 (fun i => (P.ms i).cells)) (h2 : RowsIn w Bv A2 P.vn 67 (fun i => (P.vs i).cells)) (h3 : RowsIn w Bv A3 P.pn 66 (fun i => (P.ps i).cells)) :
    Calls Try.prog 19 #[.agg #[.int .u64 P.la, .int .i64 P.wi, .int .u64 P.se, .slice A1 P.mn c1, .slice A2 P.vn c2, .int .u64 P.sz, .slice A3 P.pn c3], .agg P.cells.toArray] w fun e w' => e = .returned (.bool true) ∧ Below w.heap.size w w' := by
  obtain ⟨W, hW⟩ : ∃ W, W = (w.alloc (.cells #[.int .u64 P.la, .int .i64 P.wi, .int .u64 P.se, .slice A1 P.mn c1, .slice A2 P.vn c2, .int .u64 P.sz, .slice A3 P.pn c3] 51)).alloc (.cells P.cells.toArray 51) := ⟨_, rfl⟩
  have cW : Chg (fun _ => False) w W := by rw [hW]; exact ((Chg.refl _ _).alloc _).alloc _
  have b1 : Blk W w.heap.size [.int .u64 P.la, .int .i64 P.wi, .int .u64 P.se, .slice A1 P.mn c1, .slice A2 P.vn c2, .int .u64 P.sz, .slice A3 P.pn c3] 51 := by rw [hW]; exact (Blk.made w _ 51).alloc _
  have b2 : Blk W (w.heap.size + 1) P.cells 51 := by
    rw [hW]
    have := Blk.made (w.alloc (.cells #[.int .u64 P.la, .int .i64 P.wi, .int .u64 P.se, .slice A1 P.mn c1, .slice A2 P.vn c2, .int .u64 P.sz, .slice A3 P.pn c3] 51)) P.cells 51
    rwa [World.size_alloc] at this
  have x0 : W.cell? ⟨w.heap.size, 0, none⟩ = some (.int .u64 P.la) := b1.cell 0
  have x1 : W.cell? ⟨w.heap.size, 1, none⟩ = some (.int .i64 P.wi) := b1.cell 1
  have x2 : W.cell? ⟨w.heap.size, 2, none⟩ = some (.int .u64 P.se) := b1.cell 2
  have x3 : W.cell? ⟨w.heap.size, 3, none⟩ = some (.slice A1 P.mn c1) := b1.cell 3
  have y0 : W.cell? ⟨w.heap.size + 1, 0, none⟩ = some (.int .u64 P.la) := b2.cell 0
  have y1 : W.cell? ⟨w.heap.size + 1, 1, none⟩ = some (.int .i64 P.wi) := b2.cell 1
  have y2 : W.cell? ⟨w.heap.size + 1, 2, none⟩ = some (.int .u64 P.se) := b2.cell 2
  have y3 : W.cell? ⟨w.heap.size + 1, 3, none⟩ = some (.slice P.ma P.mn P.mc) := b2.cell 3
  have BX : Hid _ := b1
  have BY : Hid _ := b2
  have HB : Hid (Below w.heap.size w W) := by rw [hW]; exact ((Below.refl _ _).alloc (Nat.le_refl _) _).alloc (by simp) _
  have HC1 : Hid _ := sameMarks_any (c := c1) (d := P.mc) (h1.kept cW (fun _ _ e => e)) (hP.mrow.kept cW (fun _ _ e => e)) hP.mn
  have R2 : Hid (RowsIn W Bv A2 P.vn 67 (fun i => (P.vs i).cells)) := h2.kept cW (fun _ _ e => e)
  have R3 : Hid (RowsIn W Bv A3 P.pn 66 (fun i => (P.ps i).cells)) := h3.kept cW (fun _ _ e => e)
  have HP : Hid (PgIn W Av P) := hP.kept cW (fun _ _ e => e)
  have MN := hP.mn
  have VN := hP.vn
  have PN := hP.pn
  clear hP h1 h2 h3 cW b1 b2
  go_enter Try.func19, Try.ntmps19
  go_upto_region 1 with fail
  rw [← hW]
  clear hW
  go_wp2_with fail
  refine Calls.mono HC1.out ?_
  rintro e w8 ⟨rfl, bl⟩
  have c8 : Chg (fun _ => False) W w8 := Chg.of_below bl (fun _ => False)
  have x4 : w8.cell? ⟨w.heap.size, 4, none⟩ = some (.slice A2 P.vn c2) := (BX.out.keep c8 (fun e => e)).cell 4
  have y4 : w8.cell? ⟨w.heap.size + 1, 4, none⟩ = some (.slice P.va P.vn P.vc) := (BY.out.keep c8 (fun e => e)).cell 4
  have BL8 : Hid (Below W.heap.size W w8) := bl
  have HC2 : Hid _ := sameVers_any (c := c2) (d := P.vc) (R2.out.kept c8 (fun _ _ e => e)) (HP.out.vrow.kept c8 (fun _ _ e => e)) VN (fun i hi => ⟨(HP.out.vk i hi).2.1, (HP.out.vk i hi).2.2.2⟩)
  clear bl c8 x0 x1 x2 x3 y0 y1 y2 y3
  go_wp2_with fail
  refine Calls.mono HC2.out ?_
  rintro e w9 ⟨rfl, bl⟩
  have BL9 : Hid (Below W.heap.size W w9) := BL8.out.trans (bl.mono BL8.out.size)
  have c9 : Chg (fun _ => False) W w9 := Chg.of_below BL9.out (fun _ => False)
  have X9 : Hid _ := BX.out.keep c9 (fun e => e)
  have Y9 : Hid _ := BY.out.keep c9 (fun e => e)
  have HC3 : Hid _ := sameAnnal_any (sz := P.sz) (c := c3) (d := P.pc) (R3.out.kept c9 (fun _ _ e => e)) (HP.out.prow.kept c9 (fun _ _ e => e)) PN (fun i hi => (HP.out.pk i hi).2)
  clear bl c9 x4 y4
  go_wp2_with (first
    | refine wpList_load_g (by rfl) 49 (.tmp 37) rfl w.heap.size 5 [.int .u64 P.sz, .slice A3 P.pn c3] rfl X9.out rfl Try.underlying49 rfl Try.size49 ?_
    | refine wpList_load_g (by rfl) 49 (.tmp 39) rfl (w.heap.size + 1) 5 [.int .u64 P.sz, .slice P.pa P.pn P.pc] rfl Y9.out rfl Try.underlying49 rfl Try.size49 ?_)
  refine Calls.mono HC3.out ?_
  rintro e w10 ⟨rfl, bl⟩
  have F : Hid (Below w.heap.size w w10) := HB.out.trans ((BL9.out.trans (bl.mono BL9.out.size)).mono HB.out.size)
  clear bl
  go_wp2_with fail
  go_ret
  exact ⟨rfl, F.out⟩
end Go.Proofs.Ytfkjgfelgiogeaa
