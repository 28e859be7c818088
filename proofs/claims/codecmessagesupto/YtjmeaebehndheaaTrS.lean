/-
  Two towers that say the same are the same.
-/
import Derived.Test.YtjmeaebehndheaaEq2
import Derived.Test.YtjmeaebehndheaaTwT
import Derived.Test.YtjmeaebehndheaaPrX
namespace Go.Proofs.Ytjmeaebehndheaa
open Go.RowKit

/-- What lies at a kid's key. -/
structure KdT (w : World) (k : Kd) : Prop where
  ks : Src w (.slice k.ka k.kn k.kc) k.kl
  ad : k.ad.length = 33
  lb : k.lb.length = 32
  kl : k.kl.length ≤ 9223372036854775807
theorem KdT.kept {w w' : World} {k : Kd} (h : KdT w k) (c : Chg (fun _ => False) w w') : KdT w' k := ⟨h.ks.kept c (fun _ _ e => e), h.ad, h.lb, h.kl⟩
/-- Two kids that say the same. -/
structure SmK (x y : Kd) : Prop where
  lv : x.lv = y.lv
  kl : x.kl = y.kl
  ct : x.ct = y.ct
  ad : x.ad = y.ad
  lb : x.lb = y.lb
theorem SmK.symm {x y : Kd} (h : SmK x y) : SmK y x := ⟨h.lv.symm, h.kl.symm, h.ct.symm, h.ad.symm, h.lb.symm⟩
theorem Kd.lenF (k : Kd) (h1 : k.ad.length = 33) (h2 : k.lb.length = 32) : k.cells.length = 68 := by simp [Kd.cells, bs, h1, h2]
theorem Kd.szF (k : Kd) (h1 : k.ad.length = 33) (h2 : k.lb.length = 32) : (Try.prog.info? 156).map (·.size) = some k.cells.length := by rw [k.lenF h1 h2]; kernel_rfl
theorem Try.elem67 : Try.prog.elem 67 = 156 := by kernel_rfl
theorem Try.so112 (w : World) : (sizeOf 156).run Try.prog w = .ok 68 w := by kernel_rfl
theorem kdI_ad (lv : Int) (s : Value) (ct : Nat) (x y : List Int) : (((.int .i64 lv :: s :: .int .u64 ct :: bs (x ++ y)) : List Value).drop 3).take (bs x).length = bs x := by simp [bs]
theorem kdI_lb (lv : Int) (s : Value) (ct : Nat) (x y : List Int) (h : x.length = 33) : (((.int .i64 lv :: s :: .int .u64 ct :: bs (x ++ y)) : List Value).drop 36).take (bs y).length = bs y := by
  have e : ((.int .i64 lv :: s :: .int .u64 ct :: bs (x ++ y)) : List Value).drop 36 = bs y := by
    show (bs (x ++ y)).drop 33 = bs y
    rw [bs_app, List.drop_append_of_le_length (by rw [bs_len]; omega), List.drop_eq_nil_of_le (by rw [bs_len]; omega), List.nil_append]
  rw [e, List.take_length]

set_option maxRecDepth 100000 in
set_option maxHeartbeats 4000000 in
theorem sameKidE {w : World} {k l : Kd} (hk : KdT w k) (hl : KdT w l) (hm : SmK k l) :
    Calls Try.prog 87 #[.agg k.cells.toArray, .agg l.cells.toArray] w fun e w' => e = .returned (.bool true) ∧ Below w.heap.size w w' := by
  obtain ⟨lv, a, n, c, kl, ct, x, y⟩ := k
  obtain ⟨lv', b, m, d, kl', ct', x', y'⟩ := l
  obtain ⟨e1, e2, e3, e4, e5⟩ := hm
  simp only at e1 e2 e3 e4 e5
  subst e1 e2 e3 e4 e5
  have hx : x.length = 33 := hk.ad
  have hy : y.length = 32 := hk.lb
  have hk1 : kl.length ≤ 9223372036854775807 := hk.kl
  obtain ⟨K1, hK1⟩ : ∃ K1 : List Value, K1 = .int .i64 lv :: .slice a n c :: .int .u64 ct :: bs (x ++ y) := ⟨_, rfl⟩
  obtain ⟨K2, hK2⟩ : ∃ K2 : List Value, K2 = .int .i64 lv :: .slice b m d :: .int .u64 ct :: bs (x ++ y) := ⟨_, rfl⟩
  show Calls Try.prog 87 #[.agg (.int .i64 lv :: .slice a n c :: .int .u64 ct :: bs (x ++ y) : List Value).toArray, .agg (.int .i64 lv :: .slice b m d :: .int .u64 ct :: bs (x ++ y) : List Value).toArray] w _
  rw [← hK1, ← hK2]
  obtain ⟨W, hW⟩ : ∃ W, W = (w.alloc (.cells K1.toArray 156)).alloc (.cells K2.toArray 156) := ⟨_, rfl⟩
  have cW : Chg (fun _ => False) w W := by rw [hW]; exact ((Chg.refl _ _).alloc _).alloc _
  have B1 : Hid (Blk W w.heap.size K1 156) := by rw [hW]; exact (Blk.made w _ 156).alloc _
  have B2 : Hid (Blk W (w.heap.size + 1) K2 156) := by
    rw [hW]
    have := Blk.made (w.alloc (.cells K1.toArray 156)) K2 156
    rwa [World.size_alloc] at this
  have c0 : W.cell? ⟨w.heap.size, 0, none⟩ = some (.int .i64 lv) := by rw [B1.out.cell, hK1]; rfl
  have c1 : W.cell? ⟨w.heap.size, 1, none⟩ = some (.slice a n c) := by rw [B1.out.cell, hK1]; rfl
  have c2 : W.cell? ⟨w.heap.size, 2, none⟩ = some (.int .u64 ct) := by rw [B1.out.cell, hK1]; rfl
  have d0 : W.cell? ⟨w.heap.size + 1, 0, none⟩ = some (.int .i64 lv) := by rw [B2.out.cell, hK2]; rfl
  have d1 : W.cell? ⟨w.heap.size + 1, 1, none⟩ = some (.slice b m d) := by rw [B2.out.cell, hK2]; rfl
  have d2 : W.cell? ⟨w.heap.size + 1, 2, none⟩ = some (.int .u64 ct) := by rw [B2.out.cell, hK2]; rfl
  have p1 : Hid ((K1.drop 3).take (bs x).length = bs x) := by rw [hK1]; exact kdI_ad _ _ _ _ _
  have p2 : Hid ((K2.drop 3).take (bs x).length = bs x) := by rw [hK2]; exact kdI_ad _ _ _ _ _
  have p3 : Hid ((K1.drop 36).take (bs y).length = bs y) := by rw [hK1]; exact kdI_lb _ _ _ _ _ hx
  have p4 : Hid ((K2.drop 36).take (bs y).length = bs y) := by rw [hK2]; exact kdI_lb _ _ _ _ _ hx
  have e33 := eql33 x hx
  have e31 := eql31 y hy
  have SA : Hid (Src W (.slice a n c) kl) := hk.ks.kept cW (fun _ _ e => e)
  have SB : Hid (Src W (.slice b m d) kl) := hl.ks.kept cW (fun _ _ e => e)
  have HB : Hid (Below w.heap.size w W) := by rw [hW]; exact ((Below.refl _ _).alloc (Nat.le_refl _) _).alloc (by simp) _
  clear hk hl cW hK1 hK2
  go_enter Try.func87, Try.ntmps87
  go_upto_region 1 with fail
  rw [← hW]
  clear hW
  go_wp2_with (first
    | refine wpList_load_g (by rfl) 33 (.tmp 18) rfl w.heap.size 3 (bs x) rfl B1.out p1.out Try.underlying33 rfl (Try.addrSz x hx) ?_
    | refine wpList_load_g (by rfl) 33 (.tmp 20) rfl (w.heap.size + 1) 3 (bs x) rfl B2.out p2.out Try.underlying33 rfl (Try.addrSz x hx) ?_
    | refine wpList_load_g (by rfl) 31 (.tmp 25) rfl w.heap.size 36 (bs y) rfl B1.out p3.out Try.underlying31 rfl (Try.sumSz' y hy) ?_
    | refine wpList_load_g (by rfl) 31 (.tmp 27) rfl (w.heap.size + 1) 36 (bs y) rfl B2.out p4.out Try.underlying31 rfl (Try.sumSz' y hy) ?_
    | (go_at_call 15; refine Calls.mono (same_any SA.out SB.out hk1 hk1) ?_; rintro e w9 ⟨rfl, n9, rfl⟩; rw [decide_eq_true rfl]))
  have F : Hid (Below w.heap.size w (W.drewN n9)) := ⟨HB.out.os, HB.out.tape, HB.out.output, HB.out.size, HB.out.block⟩
  go_ret
  exact ⟨rfl, F.out⟩

theorem Try.eqGuardS33 : Try.prog.eqGuardType Try.prog.depth 33 = false := by kernel_rfl
theorem wpList_bin_g {ops : Array Oper} {rest : List Oper} {op : Oper} {a : Act} {w : World} {Q : Exit → Act → World → Prop} (hw : Region.wanted op (yielded ops a.tmps) = true) (b : BinOp) (t : TypeId) (x y : Operand) (ho : op.op = .binOp b t x y t)
    {u v : Array Value} (hx : a.eval x = .agg u) (hy : a.eval y = .agg v) (hg : Try.prog.eqGuardType Try.prog.depth t = false) {r : Value} (hr : (binOp b t (.agg u) (.agg v)).run Try.prog w = .ok r w) (h : wpList Try.prog ops Q rest (a.put op.dst r) w) : wpList Try.prog ops Q (op :: rest) a w :=
  wpList_step fun K hK => by
    rw [if_pos hw]
    unfold Oper.wp execOp
    simp only [ho, hx, hy, Sem.run_bind, run_eqGuard_agg _ _ _ _ _ _ _ hg, Result.andThen_ok, hr, Sem.run_pure]
    exact hK _ _ h

theorem towC_vl (hd : Bool) (s : Value) (vl : List Int) (kv : Value) : ((towC hd s vl kv).drop 2).take (bs vl).length = bs vl := by simp [towC]

set_option maxRecDepth 100000 in
set_option maxHeartbeats 8000000 in
theorem sameTowerE {w : World} {hd : Bool} {kl vl : List Int} {a1 a2 A B : Option Addr} {n1 c1 n2 c2 n c d : Nat} {Av Bv : Nat → Prop} {f1 f2 : Nat → Kd} (k1 : Src w (.slice a1 n1 c1) kl) (k2 : Src w (.slice a2 n2 c2) kl) (hkl : kl.length ≤ 9223372036854775807) (hv : vl.length = 33) (r1 : RowsIn w Av A n 68 (fun i => (f1 i).cells)) (r2 : RowsIn w Bv B n 68 (fun i => (f2 i).cells)) (t1 : ∀ i, i < n → KdT w (f1 i)) (t2 : ∀ i, i < n → KdT w (f2 i)) (hs : ∀ i, i < n → SmK (f1 i) (f2 i)) (hn : n ≤ 9223372036854775807) :
    Calls Try.prog 30 #[.agg (towC hd (.slice a1 n1 c1) vl (.slice A n c)).toArray, .agg (towC hd (.slice a2 n2 c2) vl (.slice B n d)).toArray] w fun e w' => e = .returned (.bool true) ∧ Below w.heap.size w w' := by
  obtain ⟨W, hW⟩ : ∃ W, W = (w.alloc (.cells (towC hd (.slice a1 n1 c1) vl (.slice A n c)).toArray 69)).alloc (.cells (towC hd (.slice a2 n2 c2) vl (.slice B n d)).toArray 69) := ⟨_, rfl⟩
  have cW : Chg (fun _ => False) w W := by rw [hW]; exact ((Chg.refl _ _).alloc _).alloc _
  have B1 : Hid (Blk W w.heap.size (towC hd (.slice a1 n1 c1) vl (.slice A n c)) 69) := by rw [hW]; exact (Blk.made w _ 69).alloc _
  have B2 : Hid (Blk W (w.heap.size + 1) (towC hd (.slice a2 n2 c2) vl (.slice B n d)) 69) := by
    rw [hW]
    have := Blk.made (w.alloc (.cells (towC hd (.slice a1 n1 c1) vl (.slice A n c)).toArray 69)) (towC hd (.slice a2 n2 c2) vl (.slice B n d)) 69
    rwa [World.size_alloc] at this
  have q0 : W.cell? ⟨w.heap.size, 0, none⟩ = some (.bool hd) := B1.out.cell 0
  have q1 : W.cell? ⟨w.heap.size, 1, none⟩ = some (.slice a1 n1 c1) := B1.out.cell 1
  have Q3 : Hid (∀ k, (W.drewN k).cell? ⟨w.heap.size, 35, none⟩ = some (.slice A n c)) := fun k => by
    have h9 : W.cell? ⟨w.heap.size, 35, none⟩ = some (.slice A n c) := by rw [B1.out.cell]; exact towC_at _ _ _ _ hv
    exact h9
  have s0 : W.cell? ⟨w.heap.size + 1, 0, none⟩ = some (.bool hd) := B2.out.cell 0
  have s1 : W.cell? ⟨w.heap.size + 1, 1, none⟩ = some (.slice a2 n2 c2) := B2.out.cell 1
  have S3 : Hid (∀ k, (W.drewN k).cell? ⟨w.heap.size + 1, 35, none⟩ = some (.slice B n d)) := fun k => by
    have h9 : W.cell? ⟨w.heap.size + 1, 35, none⟩ = some (.slice B n d) := by rw [B2.out.cell]; exact towC_at _ _ _ _ hv
    exact h9
  have E33 : Hid (∀ w, (binOp .neq 33 (.agg (bs vl).toArray) (.agg (bs vl).toArray)).run Try.prog w = .ok (.bool false) w) := fun w => by rw [neq33b vl vl hv hv w, decide_eq_true rfl]; rfl
  have SA : Hid (Src W (.slice a1 n1 c1) kl) := k1.kept cW (fun _ _ e => e)
  have SB : Hid (Src W (.slice a2 n2 c2) kl) := k2.kept cW (fun _ _ e => e)
  have HB : Hid (Below w.heap.size w W) := by rw [hW]; exact ((Below.refl _ _).alloc (Nat.le_refl _) _).alloc (by simp) _
  have R1 : Hid _ := r1.kept cW (fun _ _ e => e)
  have R2 : Hid _ := r2.kept cW (fun _ _ e => e)
  have T1 : Hid (∀ i, i < n → KdT W (f1 i)) := fun i hi => (t1 i hi).kept cW
  have T2 : Hid (∀ i, i < n → KdT W (f2 i)) := fun i hi => (t2 i hi).kept cW
  have HS : Hid _ := hs
  clear k1 k2 r1 r2 t1 t2 hs cW
  go_enter Try.func30, Try.ntmps30
  go_upto_region 1 with fail
  rw [← hW]
  clear hW
  go_wp2_with (first
    | refine wpList_load_g (by rfl) 33 (.tmp 12) rfl w.heap.size 2 (bs vl) rfl B1.out (towC_vl _ _ _ _) Try.underlying33 rfl (Try.addrSz vl hv) ?_
    | refine wpList_load_g (by rfl) 33 (.tmp 14) rfl (w.heap.size + 1) 2 (bs vl) rfl B2.out (towC_vl _ _ _ _) Try.underlying33 rfl (Try.addrSz vl hv) ?_
    | refine wpList_bin_g (by rfl) .neq 33 (.tmp 13) (.tmp 15) rfl (u := (bs vl).toArray) (v := (bs vl).toArray) rfl rfl Try.eqGuardS33 (E33.out _) ?_)
  refine Calls.mono (same_any SA.out SB.out hkl hkl) ?_
  rintro e w9 ⟨rfl, n9, hw9⟩
  rw [decide_eq_true rfl]
  have q3 := Q3.out n9
  have s3 := S3.out n9
  have C9 : Chg (fun _ => False) W w9 := by rw [hw9]; exact drewN_chg W n9 _
  have D1 : Hid _ := B1.out.keep C9 (fun e => e)
  have D2 : Hid _ := B2.out.keep C9 (fun e => e)
  have BL0 : Hid (Below w.heap.size w w9) := HB.out.trans (C9.below HB.out.size (fun _ e => e.elim))
  have CH : Hid _ := C9
  rw [← hw9] at q3 s3
  clear hw9 C9 q0 q1 s0 s1
  go_wp2_with fail
  clear q3 s3
  go_loopw [38] (fun i wr => ∃ j : Nat, j ≤ n ∧ i = .int .i64 j ∧ Hid (Chg (fun _ => False) W wr)) (fun i _ => n - (intOf i).toNat)
  case atStart => exact ⟨0, Nat.zero_le _, rfl, CH.out⟩
  case round =>
    obtain ⟨j, hj, rfl, CJ⟩ := hrel
    by_cases hlt : j < n
    · obtain ⟨g, o1, ea, _, ra⟩ := R1.out j hlt
      obtain ⟨g', o2, eb, _, rb⟩ := R2.out j hlt
      have hix := ix_at Try.underlying67 Try.elem67 Try.so112 (c := c) ea hlt
      have hiy := ix_at Try.underlying67 Try.elem67 Try.so112 (c := d) eb hlt
      obtain ⟨x, hx⟩ : ∃ x, x = f1 j := ⟨_, rfl⟩
      obtain ⟨y, hy⟩ : ∃ y, y = f2 j := ⟨_, rfl⟩
      have cD : Chg (fun _ => False) W wr.drew := CJ.out.drew
      have tx := (T1.out j hlt).kept cD
      have ty := (T2.out j hlt).kept cD
      have hsm := HS.out j hlt
      simp only [← hx] at ra tx hsm
      simp only [← hy] at rb ty hsm
      have zx := x.szF tx.ad tx.lb
      have zy := y.szF ty.ad ty.lb
      have HC : Hid _ := sameKidE tx ty hsm
      have BD : Hid (Below w.heap.size w wr.drew) := HB.out.trans (cD.below HB.out.size (fun _ e => e.elim))
      have CD : Hid _ := cD
      have HH : Hid (Blk wr.drew w.heap.size (towC hd (.slice a1 n1 c1) vl (.slice A n c)) 69 ∧ Blk wr.drew (w.heap.size + 1) (towC hd (.slice a2 n2 c2) vl (.slice B n d)) 69 ∧ wr.drew.rangeAt g (o1 + j * 68) x.cells ∧ wr.drew.rangeAt g' (o2 + j * 68) y.cells) := ⟨B1.out.keep cD (fun e => e), B2.out.keep cD (fun e => e), rangeAt_kept ra cD (fun e => e), rangeAt_kept rb cD (fun e => e)⟩
      clear ra rb hx hy tx ty hsm cD ea eb
      go_upto_region 6 with fail
      refine wp_region_held_drew (S := fun w' => Blk w' w.heap.size (towC hd (.slice a1 n1 c1) vl (.slice A n c)) 69 ∧ Blk w' (w.heap.size + 1) (towC hd (.slice a2 n2 c2) vl (.slice B n d)) 69 ∧ w'.rangeAt g (o1 + j * 68) x.cells ∧ w'.rangeAt g' (o2 + j * 68) y.cells) (by kernel_rfl) HH.out (fun hH => ?_)
      refine wpAnyH_take (i := 0) (v := .pointer (some ⟨w.heap.size, 35, none⟩)) rfl (by kernel_rfl) (by kernel_rfl) (by kernel_rfl) (fun _ _ _ h => h) (Or.inl ⟨by rfl, fun w' hw' => by go_simp⟩) hH ?_
      refine wpAnyH_take (i := 1) (v := .slice A n c) rfl (by kernel_rfl) (by kernel_rfl) (by kernel_rfl) (fun _ _ _ h => h) (Or.inl ⟨by rfl, fun w' hw' => by have h2 : w'.cell? ⟨w.heap.size, 35, none⟩ = some (.slice A n c) := (by rw [Blk.cell hw'.1]; exact towC_at _ _ _ _ hv); go_simp⟩) hH ?_
      refine wpAnyH_take (i := 2) (v := .int .i64 j) rfl (by kernel_rfl) (by kernel_rfl) (by kernel_rfl) (fun _ _ _ h => h) (Or.inl ⟨by rfl, fun w' hw' => by go_simp⟩) hH ?_
      refine wpAnyH_take (i := 3) (v := .pointer (some ⟨g, o1 + j * 68, none⟩)) rfl (by kernel_rfl) (by kernel_rfl) (by kernel_rfl) (fun _ _ _ h => h) (Or.inl ⟨by rfl, fun w' hw' => by have q := hix w'; go_simp⟩) hH ?_
      refine wpAnyH_take (i := 4) (v := .agg x.cells.toArray) rfl (by kernel_rfl) (by kernel_rfl) (by kernel_rfl) (fun _ _ _ h => h) (yieldsIf_load_mid (by rfl) 156 _ rfl g (o1 + j * 68) (by kernel_rfl) x.cells _ (fun w' h => h.2.2.1) Try.underlying156 rfl zx) hH ?_
      refine wpAnyH_take (i := 5) (v := .pointer (some ⟨w.heap.size + 1, 35, none⟩)) rfl (by kernel_rfl) (by kernel_rfl) (by kernel_rfl) (fun _ _ _ h => h) (Or.inl ⟨by rfl, fun w' hw' => by go_simp⟩) hH ?_
      refine wpAnyH_take (i := 6) (v := .slice B n d) rfl (by kernel_rfl) (by kernel_rfl) (by kernel_rfl) (fun _ _ _ h => h) (Or.inl ⟨by rfl, fun w' hw' => by have h2 : w'.cell? ⟨w.heap.size + 1, 35, none⟩ = some (.slice B n d) := (by rw [Blk.cell hw'.2.1]; exact towC_at _ _ _ _ hv); go_simp⟩) hH ?_
      refine wpAnyH_take (i := 7) (v := .int .i64 j) rfl (by kernel_rfl) (by kernel_rfl) (by kernel_rfl) (fun _ _ _ h => h) (Or.inl ⟨by rfl, fun w' hw' => by go_simp⟩) hH ?_
      refine wpAnyH_take (i := 8) (v := .pointer (some ⟨g', o2 + j * 68, none⟩)) rfl (by kernel_rfl) (by kernel_rfl) (by kernel_rfl) (fun _ _ _ h => h) (Or.inl ⟨by rfl, fun w' hw' => by have q := hiy w'; go_simp⟩) hH ?_
      refine wpAnyH_take (i := 9) (v := .agg y.cells.toArray) rfl (by kernel_rfl) (by kernel_rfl) (by kernel_rfl) (fun _ _ _ h => h) (yieldsIf_load_mid (by rfl) 156 _ rfl g' (o2 + j * 68) (by kernel_rfl) y.cells _ (fun w' h => h.2.2.2) Try.underlying156 rfl zy) hH ?_
      clear hix hiy
      refine wpAnyH_ready (rs := [10]) (by kernel_rfl) (by simp) ?_
      refine AllReadyH.cons rfl (fun KK hKK => ?_) AllReadyH.nil
      go_simp
      refine Calls.mono HC.out ?_
      rintro e w3 ⟨rfl, b3⟩
      have c3 : Chg (fun _ => False) wr.drew w3 := Chg.of_below b3 _
      have C3 : Hid (Chg (fun _ => False) W w3) := CD.out.trans c3 (fun _ e => e.elim)
      refine hKK.out _ _ ⟨HH.out.1.keep c3 (fun e => e), HH.out.2.1.keep c3 (fun e => e), rangeAt_kept HH.out.2.2.1 c3 (fun e => e), rangeAt_kept HH.out.2.2.2 c3 (fun e => e)⟩ (fun hH => ?_)
      clear hKK KK
      refine wpAnyH_take (i := 11) (v := .bool false) rfl (by kernel_rfl) (by kernel_rfl) (by kernel_rfl) (fun _ _ _ h => h) (Or.inl ⟨by rfl, fun w' hw' => by go_simp⟩) hH ?_
      refine wpAnyH_done (by kernel_rfl) ?_ _
      clear c3 b3 hH
      go_wp2_with fail
      go_roundw
      case rel => exact ⟨j + 1, by omega, by go_num, C3.out⟩
      case measure => simp [intOf]; omega
    · have F : Hid (Below w.heap.size w wr) := HB.out.trans (CJ.out.below HB.out.size (fun _ e => e.elim))
      go_wp2_with fail
      go_ret
      exact ⟨rfl, F.out⟩
end Go.Proofs.Ytjmeaebehndheaa
