/-
  Two messages that say the same are compared.
-/
import Derived.Test.YtjmeaebehndheaaMsX
import Derived.Test.YtjmeaebehndheaaMsV
import Derived.Test.YtjmeaebehndheaaEq2
import Derived.Test.YtjmeaebehndheaaTrS
namespace Go.Proofs.Ytjmeaebehndheaa
open Go.RowKit

theorem step_storeP {ops : Array Oper} {o : Oper} {a : Act} {w : World} {K : Act → World → Prop} {Q : Exit → Act → World → Prop} {E : Prop} (hgd : o.guard = none) (ty : TypeId) (x y : Operand) (ho : o.op = .store ty x y)
    (g : Nat) (vs : List Value) (hx : a.eval x = .pointer (some ⟨g, 0, none⟩)) (hy : a.eval y = .agg vs.toArray) {cs : List Value} {t : TypeId} (hg : Blk w g cs t) (hl : vs.length = cs.length)
    (hi : (Try.prog.info? ty).map (·.size) = some vs.length) (h1 : ∀ v ∈ vs, v.oneCell' = true)
    (h : ∀ w', Blk w' g vs t → Chg (fun k => k = g) w w' → K (a.put o.dst undef) w') :
    if Region.wanted o (yielded ops a.tmps) = true then Oper.wp Try.prog o a w K Q else E := by
  have hw : Region.wanted o (yielded ops a.tmps) = true := by simp [Region.wanted, hgd]
  rw [if_pos hw]
  obtain ⟨h2, h3⟩ := Blk.setCells vs 0 w cs hg (by omega)
  rw [splice_all _ _ hl] at h2
  exact wp_store_mid ty x y ho g 0 vs.toArray hx hy (by rw [List.size_toArray]; exact hg.there (by omega)) (by rw [List.size_toArray]; exact hi) (all_oneCell_toArray h1) (by rw [List.toList_toArray]; exact h _ h2 h3)
theorem Try.eqGuardType31 : Try.prog.eqGuardType Try.prog.depth 31 = false := by kernel_rfl
theorem neq31b (x y : List Int) (hx : x.length = 32) (hy : y.length = 32) (w : World) : (binOp .neq 31 (.agg (bs x).toArray) (.agg (bs y).toArray)).run Try.prog w = .ok (.bool (!decide (x = y))) w := by
  simp only [binOp]
  simp [Op.equal, Op.maxDepth, eq31b 9998 x y hx hy w]
theorem Own.len_le {w : World} {v : Value} {l : List Int} (h : Own w v l) : l.length ≤ 9223372036854775807 := by
  rcases h.2 with ⟨_, h0⟩ | ⟨g, cap, cur, _, _, _, h1, h2, _⟩
  · omega
  · unfold maxLen at h2; omega

def hdC (hs : Nat) (hl : List Int) : List Value := .int .u64 hs :: bs hl
theorem Try.struct91 : Try.prog.underlying 91 = some (.struct (Try.prog.fieldsOf 91)) := by kernel_rfl
theorem Try.fields91 : (Try.prog.fieldsOf 91).toList.map (fun f => (f.name, f.type, f.offset)) = [("Size", 29, 0), ("Label", 31, 1)] := by kernel_rfl
theorem Try.size91 : (Try.prog.info? 91).map (·.size) = some 33 := by kernel_rfl
theorem Try.hdSz (hs : Nat) (hl : List Int) (h : hl.length = 32) : (Try.prog.info? 91).map (·.size) = some (hdC hs hl).length := by rw [Try.size91]; simp [hdC, bs_len, h]
theorem Try.eqGuardType91 : Try.prog.eqGuardType Try.prog.depth 91 = false := by kernel_rfl
theorem eq91b (d : Nat) (s1 s2 : Nat) (x y : List Int) (hx : x.length = 32) (hy : y.length = 32) (w : World) : (Op.equalIn (d + 3) 91 (.agg (hdC s1 x).toArray) (.agg (hdC s2 y).toArray)).run Try.prog w = .ok (((s1 : Int) == s2) && (decide (x = y) && true)) w := by
  rw [run_equalIn_struct w (d + 2) 91 _ _ Try.struct91 (by kernel_rfl)]
  obtain ⟨f1, f2, e⟩ : ∃ f1 f2, (Try.prog.fieldsOf 91).toList = [f1, f2] := by
    have := congrArg List.length Try.fields91
    rw [List.length_map] at this
    match h : (Try.prog.fieldsOf 91).toList, this with
    | [f1, f2], _ => exact ⟨f1, f2, rfl⟩
  have h := Try.fields91
  rw [e] at h
  simp only [List.map_cons, List.map_nil, List.cons.injEq, Prod.mk.injEq, and_true] at h
  obtain ⟨⟨a1, a2, a3⟩, b1, b2, b3⟩ := h
  rw [e]
  have p1 : ∀ (s : Nat) (z : List Int), (part 29 (hdC s z).toArray 0).run Try.prog w = .ok (.int .u64 s) w := fun s z => by simp [part, isAgg, run_underlying Try.underlying29, hdC]
  have p2 : ∀ (s : Nat) (z : List Int), z.length = 32 → (part 31 (hdC s z).toArray 1).run Try.prog w = .ok (.agg (bs z).toArray) w := fun s z hz => by
    rw [part_row 32 Try.underlying31 rfl (fun _ => by kernel_rfl)]
    have : ((hdC s z).drop 1).take 32 = bs z := by
      show (bs z).take 32 = bs z
      exact List.take_of_length_le (by rw [bs_len]; omega)
    rw [this]
  refine eqF_consb (d + 2) _ _ f1 _ w _ _ _ _ (by rw [a1]; simp) (by rw [a2, a3]; exact p1 s1 x) (by rw [a2, a3]; exact p1 s2 y) (by rw [a2]; exact run_equalIn_int w (d + 1) 29 .u64 .u64 _ _ Try.underlying29) ?_
  exact eqF_consb (d + 2) _ _ f2 _ w _ _ _ _ (by rw [b1]; simp) (by rw [b2, b3]; exact p2 s1 x hx) (by rw [b2, b3]; exact p2 s2 y hy) (by rw [b2]; exact eq31b d x y hx hy w) (eqF_nilb _ _ _ w)
theorem neq91b (s1 s2 : Nat) (x y : List Int) (hx : x.length = 32) (hy : y.length = 32) (w : World) : (binOp .neq 91 (.agg (hdC s1 x).toArray) (.agg (hdC s2 y).toArray)).run Try.prog w = .ok (.bool (!decide (s1 = s2 ∧ x = y))) w := by
  have e : (((s1 : Int) == s2) && (decide (x = y) && true)) = decide (s1 = s2 ∧ x = y) := by
    rw [Bool.and_true]
    by_cases h1 : s1 = s2
    · by_cases h2 : x = y
      · simp [h1, h2]
      · simp [h2]
    · have h3 : ((s1 : Int) == s2) = false := by simp; omega
      rw [h3]
      simp [h1]
  have h := eq91b 9997 s1 s2 x y hx hy w
  rw [e] at h
  simp only [binOp]
  simp [Op.equal, Op.maxDepth, h]
section
variable (ki ver oth : Nat) (lo hi : Value) (op : Bool) (hs : Nat) (hl lb : List Int) (ct co : Nat) (bo pa cg : Value)
theorem msC_hd (_h1 : hl.length = 32) : ((msC ki ver oth lo hi op hs hl lb ct co bo pa cg).drop 6).take (hdC hs hl).length = hdC hs hl := by
  simp [msC, hdC]
theorem msC_lb (h1 : hl.length = 32) : ((msC ki ver oth lo hi op hs hl lb ct co bo pa cg).drop 39).take (bs lb).length = bs lb := by
  have h2 : (bs hl).length = 32 := by rw [bs_len, h1]
  show ((bs hl ++ (bs lb ++ _)).drop 32).take _ = _
  rw [List.drop_append, h2, List.drop_of_length_le (l := bs hl) (by omega)]
  simp
theorem msC_sp : ((msC ki ver oth lo hi op hs hl lb ct co bo pa cg).drop 3).take (spC lo hi op).length = spC lo hi op := by
  simp [msC, spC]
end

/-- A text that lies in memory. -/
structure TxV (w : World) (t : Tx) : Prop where
  s : Src w t.val t.l
  le : t.l.length ≤ 9223372036854775807
theorem TxV.kept {w w' : World} {t : Tx} (h : TxV w t) (c : Chg (fun _ => False) w w') : TxV w' t := ⟨h.s.kept c (fun _ _ e => e), h.le⟩
structure CgV (w : World) (o : Cg) : Prop where
  ky : TxV w o.ky
  od : TxV w o.od
  nw : TxV w o.nw
theorem CgV.kept {w w' : World} {t : Cg} (h : CgV w t) (c : Chg (fun _ => False) w w') : CgV w' t := ⟨h.ky.kept c, h.od.kept c, h.nw.kept c⟩
/-- Two changes that say the same. -/
structure SmC (x y : Cg) : Prop where
  ky : x.ky.l = y.ky.l
  had : x.had = y.had
  od : x.od.l = y.od.l
  has : x.has = y.has
  nw : x.nw.l = y.nw.l
theorem SmC.symm {x y : Cg} (h : SmC x y) : SmC y x := ⟨h.ky.symm, h.had.symm, h.od.symm, h.has.symm, h.nw.symm⟩
theorem SmC.bytes {x y : Cg} (h : SmC x y) : x.bytes = y.bytes := by
  unfold Cg.bytes Tx.bytes
  rw [h.ky, h.had, h.od, h.has, h.nw]
/-- A message that lies in memory. -/
structure MV (w : World) (M : Msg) : Prop where
  lo : TxV w M.sp.lo
  hi : TxV w M.sp.hi
  bo : TxV w M.bo
  hl : M.hl.length = 32
  lb : M.lb.length = 32
  pn : M.pn ≤ 9223372036854775807
  pr : RowsIn w (fun _ => True) M.pa M.pn 32 (fun i => bs (M.ps i))
  pl : ∀ i, i < M.pn → (M.ps i).length = 32
  cn : M.cn ≤ 9223372036854775807
  cr : RowsIn w (fun _ => True) M.ca M.cn 5 (fun i => (M.cs i).cells)
  ci : ∀ i, i < M.cn → CgV w (M.cs i)
theorem MV.kept {w w' : World} {M : Msg} (h : MV w M) (c : Chg (fun _ => False) w w') : MV w' M :=
  ⟨h.lo.kept c, h.hi.kept c, h.bo.kept c, h.hl, h.lb, h.pn, h.pr.kept c (fun _ _ e => e), h.pl, h.cn, h.cr.kept c (fun _ _ e => e), fun i hi => (h.ci i hi).kept c⟩
theorem TxIn.v {w : World} {Av : Nat → Prop} {t : Tx} (h : TxIn w Av t) : TxV w t := ⟨h.s, by have := h.le; omega⟩
theorem MsIn.mv {w : World} {Av : Nat → Prop} {M : Msg} (h : MsIn w Av M) : MV w M :=
  ⟨h.sp.lo.v, h.sp.hi.v, h.bo.v, h.hl, h.lb, h.pn, RowsIn.mono h.pr (fun _ _ => trivial), h.pl, h.cn, RowsIn.mono h.cr (fun _ _ => trivial), fun i hi => ⟨(h.ci i hi).ky.v, (h.ci i hi).od.v, (h.ci i hi).nw.v⟩⟩
/-- Two messages that say the same. -/
structure SmM (x y : Msg) : Prop where
  ki : x.ki = y.ki
  ver : x.ver = y.ver
  oth : x.oth = y.oth
  op : x.sp.op = y.sp.op
  lo : x.sp.lo.l = y.sp.lo.l
  hi : x.sp.hi.l = y.sp.hi.l
  hs : x.hs = y.hs
  hl : x.hl = y.hl
  lb : x.lb = y.lb
  ct : x.ct = y.ct
  co : x.co = y.co
  bo : x.bo.l = y.bo.l
  pn : x.pn = y.pn
  ps : ∀ i, i < x.pn → x.ps i = y.ps i
  cn : x.cn = y.cn
  cs : ∀ i, i < x.cn → SmC (x.cs i) (y.cs i)

set_option maxRecDepth 100000 in
set_option maxHeartbeats 8000000 in
theorem sameSumsE {w : World} {A B : Option Addr} {n c d : Nat} {f g : Nat → List Int} (r1 : RowsIn w (fun _ => True) A n 32 (fun i => bs (f i))) (r2 : RowsIn w (fun _ => True) B n 32 (fun i => bs (g i))) (l1 : ∀ i, i < n → (f i).length = 32) (hs : ∀ i, i < n → f i = g i) (hn : n ≤ 9223372036854775807) :
    Calls Try.prog 91 #[.slice A n c, .slice B n d] w fun e w' => e = .returned (.bool true) ∧ Below w.heap.size w w' := by
  have R1 : Hid _ := r1
  have R2 : Hid _ := r2
  have LN : Hid _ := l1
  have HS : Hid _ := hs
  have HB0 : Hid (Below w.heap.size w w) := Below.refl _ _
  clear r1 r2 l1 hs
  go_enter Try.func91, Try.ntmps91
  go_wp2_with fail
  go_loopw [13] (fun i wr => ∃ j : Nat, j ≤ n ∧ i = .int .i64 j ∧ Hid (Below w.heap.size w wr)) (fun i _ => n - (intOf i).toNat)
  case atStart => exact ⟨0, Nat.zero_le _, rfl, HB0.out⟩
  case round =>
    obtain ⟨j, hj, rfl, BL⟩ := hrel
    by_cases hlt : j < n
    · obtain ⟨g1, o1, ea, _, ra⟩ := R1.out j hlt
      obtain ⟨g2, o2, eb, _, rb⟩ := R2.out j hlt
      have hix := ix_at Try.underlying92 Try.elem92 Try.so31 (c := c) ea hlt
      have hiy := ix_at Try.underlying92 Try.elem92 Try.so31 (c := d) eb hlt
      have lx := LN.out j hlt
      simp only [← HS.out j hlt] at rb
      obtain ⟨x, hx⟩ : ∃ x, x = f j := ⟨_, rfl⟩
      simp only [← hx] at ra rb lx
      have cR : Chg (fun _ => False) w wr := Chg.of_below BL.out (fun _ => False)
      have RA : Hid (wr.rangeAt g1 (o1 + j * 32) (bs x)) := rangeAt_kept ra cR (fun e => e)
      have RB : Hid (wr.rangeAt g2 (o2 + j * 32) (bs x)) := rangeAt_kept rb cR (fun e => e)
      have BL9 : Hid (Below w.heap.size w wr.drew) := ⟨BL.out.os, BL.out.tape, BL.out.output, BL.out.size, BL.out.block⟩
      have NE : ∀ w, (binOp .neq 31 (.agg (bs x).toArray) (.agg (bs x).toArray)).run Try.prog w = .ok (.bool false) w := fun w => by rw [neq31b x x lx lx w, decide_eq_true rfl]; rfl
      clear ea eb ra rb hx cR
      go_upto_region 6 with fail
      refine wp_region_held_drew (S := fun w' => w'.rangeAt g1 (o1 + j * 32) (bs x) ∧ w'.rangeAt g2 (o2 + j * 32) (bs x)) (by kernel_rfl) ⟨RA.out, RB.out⟩ (fun hH => ?_)
      refine wpAnyH_take (i := 0) (v := .slice A n c) rfl (by kernel_rfl) (by kernel_rfl) (by kernel_rfl) (fun _ _ _ h => h) (Or.inl ⟨by rfl, fun w' _ => by go_simp⟩) hH ?_
      refine wpAnyH_take (i := 1) (v := .int .i64 j) rfl (by kernel_rfl) (by kernel_rfl) (by kernel_rfl) (fun _ _ _ h => h) (Or.inl ⟨by rfl, fun w' _ => by go_simp⟩) hH ?_
      refine wpAnyH_take (i := 2) (v := .pointer (some ⟨g1, o1 + j * 32, none⟩)) rfl (by kernel_rfl) (by kernel_rfl) (by kernel_rfl) (fun _ _ _ h => h) (Or.inl ⟨by rfl, fun w' _ => by have q := hix w'; go_simp⟩) hH ?_
      refine wpAnyH_take (i := 3) (v := .agg (bs x).toArray) rfl (by kernel_rfl) (by kernel_rfl) (by kernel_rfl) (fun _ _ _ h => h) (yieldsIf_load_mid (by rfl) 31 _ rfl g1 (o1 + j * 32) (by kernel_rfl) (bs x) _ (fun w' h => h.1) Try.underlying31 rfl (Try.sumSz' x lx)) hH ?_
      refine wpAnyH_take (i := 4) (v := .slice B n d) rfl (by kernel_rfl) (by kernel_rfl) (by kernel_rfl) (fun _ _ _ h => h) (Or.inl ⟨by rfl, fun w' _ => by go_simp⟩) hH ?_
      refine wpAnyH_take (i := 5) (v := .int .i64 j) rfl (by kernel_rfl) (by kernel_rfl) (by kernel_rfl) (fun _ _ _ h => h) (Or.inl ⟨by rfl, fun w' _ => by go_simp⟩) hH ?_
      refine wpAnyH_take (i := 6) (v := .pointer (some ⟨g2, o2 + j * 32, none⟩)) rfl (by kernel_rfl) (by kernel_rfl) (by kernel_rfl) (fun _ _ _ h => h) (Or.inl ⟨by rfl, fun w' _ => by have q := hiy w'; go_simp⟩) hH ?_
      refine wpAnyH_take (i := 7) (v := .agg (bs x).toArray) rfl (by kernel_rfl) (by kernel_rfl) (by kernel_rfl) (fun _ _ _ h => h) (yieldsIf_load_mid (by rfl) 31 _ rfl g2 (o2 + j * 32) (by kernel_rfl) (bs x) _ (fun w' h => h.2) Try.underlying31 rfl (Try.sumSz' x lx)) hH ?_
      refine wpAnyH_ready (rs := [8]) (by kernel_rfl) (by simp) ?_
      refine AllReadyH.cons rfl (fun K hK => ?_) AllReadyH.nil
      clear hix hiy
      go_simp
      refine hK.out _ _ ⟨RA.out, RB.out⟩ (fun _ => ?_)
      clear hK K hH
      refine wpAnyH_done (by kernel_rfl) ?_ _
      clear NE
      go_wp2_with fail
      go_roundw
      case rel => exact ⟨j + 1, by omega, by go_num, BL9.out⟩
      case measure => simp [intOf]; omega
    · go_wp2_with fail
      go_ret
      exact ⟨rfl, BL.out⟩

set_option maxRecDepth 100000 in
set_option maxHeartbeats 8000000 in
theorem sameSpanE {w : World} {x y : Sp} (h1 : TxV w x.lo) (h2 : TxV w x.hi) (h3 : TxV w y.lo) (h4 : TxV w y.hi) (e1 : x.op = y.op) (e2 : x.lo.l = y.lo.l) (e3 : x.hi.l = y.hi.l) :
    Calls Try.prog 90 #[.agg x.cells.toArray, .agg y.cells.toArray] w fun e w' => e = .returned (.bool true) ∧ Below w.heap.size w w' := by
  obtain ⟨⟨la, ln, lc, ll⟩, ⟨ha, hn, hc, hl⟩, op⟩ := x
  obtain ⟨⟨ma, mn, mc, ml⟩, ⟨ka, kn, kc, kl⟩, oq⟩ := y
  simp only at e1 e2 e3
  subst e1 e2 e3
  show Calls Try.prog 90 #[.agg (spC (.slice la ln lc) (.slice ha hn hc) op).toArray, .agg (spC (.slice ma mn mc) (.slice ka kn kc) op).toArray] w _
  obtain ⟨W, hW⟩ : ∃ W, W = (w.alloc (.cells (spC (.slice la ln lc) (.slice ha hn hc) op).toArray 89)).alloc (.cells (spC (.slice ma mn mc) (.slice ka kn kc) op).toArray 89) := ⟨_, rfl⟩
  have cW : Chg (fun _ => False) w W := by rw [hW]; exact ((Chg.refl _ _).alloc _).alloc _
  have BX : Hid (Blk W w.heap.size (spC (.slice la ln lc) (.slice ha hn hc) op) 89) := by rw [hW]; exact (Blk.made w _ 89).alloc _
  have BY : Hid (Blk W (w.heap.size + 1) (spC (.slice ma mn mc) (.slice ka kn kc) op) 89) := by
    rw [hW]
    have h9 := Blk.made (w.alloc (.cells (spC (.slice la ln lc) (.slice ha hn hc) op).toArray 89)) (spC (.slice ma mn mc) (.slice ka kn kc) op) 89
    rwa [World.size_alloc] at h9
  have F0 : Hid (Below w.heap.size w W) := cW.below (Nat.le_refl _) (fun _ e => e.elim)
  have X1 : Hid _ := h1.kept cW
  have X2 : Hid _ := h2.kept cW
  have Y1 : Hid _ := h3.kept cW
  have Y2 : Hid _ := h4.kept cW
  have HW : Hid _ := hW
  clear h1 h2 h3 h4 cW hW
  have xo : W.cell? ⟨w.heap.size, 2, none⟩ = some (.bool op) := BX.out.cell 2
  have yo : W.cell? ⟨w.heap.size + 1, 2, none⟩ = some (.bool op) := BY.out.cell 2
  have i1 : (op == op) = true := by simp
  have xx : W.cell? ⟨w.heap.size, 0, none⟩ = some (.slice la ln lc) := BX.out.cell 0
  have yy : W.cell? ⟨w.heap.size + 1, 0, none⟩ = some (.slice ma mn mc) := BY.out.cell 0
  go_enter Try.func90, Try.ntmps90
  go_upto_region 1 with fail
  rw [← HW.out]
  go_wp2_with fail
  refine Calls.mono (same_any X1.out.s Y1.out.s X1.out.le Y1.out.le) ?_
  rintro e v1 ⟨rfl, kk, hw⟩
  rw [decide_eq_true rfl]
  have C1 : Hid (Chg (fun _ => False) W v1) := by rw [hw]; exact drewN_chg _ _ _
  have F1 : Hid (Below w.heap.size w v1) := F0.out.trans (C1.out.below F0.out.size (fun _ e => e.elim))
  clear hw xx yy xo yo i1
  have xx : v1.cell? ⟨w.heap.size, 1, none⟩ = some (.slice ha hn hc) := (BX.out.keep C1.out (fun e => e)).cell 1
  have yy : v1.cell? ⟨w.heap.size + 1, 1, none⟩ = some (.slice ka kn kc) := (BY.out.keep C1.out (fun e => e)).cell 1
  go_wp2_with fail
  refine Calls.mono (same_any (X2.out.kept C1.out).s (Y2.out.kept C1.out).s X2.out.le Y2.out.le) ?_
  rintro e v2 ⟨rfl, kk, hw⟩
  rw [decide_eq_true rfl]
  have F2 : Hid (Below w.heap.size w v2) := by rw [hw]; exact F1.out.trans ((drewN_chg v1 kk (fun _ => False)).below F1.out.size (fun _ e => e.elim))
  clear hw xx yy
  go_wp2_with fail
  go_ret
  exact ⟨rfl, F2.out⟩

set_option maxRecDepth 100000 in
set_option maxHeartbeats 16000000 in
theorem sameChangesE {w : World} {A B : Option Addr} {n c d : Nat} {f1 f2 : Nat → Cg} (r1 : RowsIn w (fun _ => True) A n 5 (fun i => (f1 i).cells)) (r2 : RowsIn w (fun _ => True) B n 5 (fun i => (f2 i).cells)) (t1 : ∀ i, i < n → CgV w (f1 i)) (t2 : ∀ i, i < n → CgV w (f2 i)) (hs : ∀ i, i < n → SmC (f1 i) (f2 i)) (hn : n ≤ 9223372036854775807) :
    Calls Try.prog 92 #[.slice A n c, .slice B n d] w fun e w' => e = .returned (.bool true) ∧ Below w.heap.size w w' := by
  have R1 : Hid _ := r1
  have R2 : Hid _ := r2
  have T1 : Hid _ := t1
  have T2 : Hid _ := t2
  have HS : Hid _ := hs
  have HB0 : Hid (Below w.heap.size w w) := Below.refl _ _
  clear r1 r2 t1 t2 hs
  go_enter Try.func92, Try.ntmps92
  go_wp2_with fail
  go_loopw [15] (fun i wr => ∃ j : Nat, j ≤ n ∧ i = .int .i64 j ∧ Hid (Below w.heap.size w wr)) (fun i _ => n - (intOf i).toNat)
  case atStart => exact ⟨0, Nat.zero_le _, rfl, HB0.out⟩
  case round =>
    obtain ⟨j, hj, rfl, BL⟩ := hrel
    by_cases hlt : j < n
    · obtain ⟨g, o1, ea, _, ra⟩ := R1.out j hlt
      obtain ⟨g', o2, eb, _, rb⟩ := R2.out j hlt
      have hix := ix_at Try.underlying93 Try.elem93 Try.so215 (c := c) ea hlt
      have hiy := ix_at Try.underlying93 Try.elem93 Try.so215 (c := d) eb hlt
      have cR : Chg (fun _ => False) w wr := Chg.of_below BL.out (fun _ => False)
      have tx := (T1.out j hlt).kept cR
      have ty := (T2.out j hlt).kept cR
      have hsm := HS.out j hlt
      obtain ⟨x, hx⟩ : ∃ x, x = f1 j := ⟨_, rfl⟩
      obtain ⟨y, hy⟩ : ∃ y, y = f2 j := ⟨_, rfl⟩
      simp only [← hx] at ra tx hsm
      simp only [← hy] at rb ty hsm
      have RA : Hid (wr.rangeAt g (o1 + j * 5) x.cells) := rangeAt_kept ra cR (fun e => e)
      have RB : Hid (wr.rangeAt g' (o2 + j * 5) y.cells) := rangeAt_kept rb cR (fun e => e)
      have TX : Hid _ := tx
      have TY : Hid _ := ty
      have SM : Hid _ := hsm
      have zx := Try.cgSz x
      have zy := Try.cgSz y
      clear ea eb ra rb hx hy cR tx ty hsm
      go_upto_region 6 with fail
      go_cut [6, 7, 15] from 15 to 62 (fun s6 s7 s15 wx => ∃ g6 g7 : Nat, s6 = .pointer (some ⟨g6, 0, none⟩) ∧ s7 = .pointer (some ⟨g7, 0, none⟩) ∧ s15 = .int .i64 j ∧ Hid (Blk wx g6 x.cells 112 ∧ Blk wx g7 y.cells 112 ∧ Chg (fun _ => False) wr wx))
      case first =>
        refine wp_region_held_drew (S := fun w' => w'.rangeAt g (o1 + j * 5) x.cells ∧ w'.rangeAt g' (o2 + j * 5) y.cells) (by kernel_rfl) ⟨RA.out, RB.out⟩ (fun hH => ?_)
        refine wpAnyH_take (i := 0) (v := .slice A n c) rfl (by kernel_rfl) (by kernel_rfl) (by kernel_rfl) (fun _ _ _ h => h) (Or.inl ⟨by rfl, fun w' _ => by go_simp⟩) hH ?_
        refine wpAnyH_take (i := 1) (v := .int .i64 j) rfl (by kernel_rfl) (by kernel_rfl) (by kernel_rfl) (fun _ _ _ h => h) (Or.inl ⟨by rfl, fun w' _ => by go_simp⟩) hH ?_
        refine wpAnyH_take (i := 2) (v := .pointer (some ⟨g, o1 + j * 5, none⟩)) rfl (by kernel_rfl) (by kernel_rfl) (by kernel_rfl) (fun _ _ _ h => h) (Or.inl ⟨by rfl, fun w' _ => by have q := hix w'; go_simp⟩) hH ?_
        refine wpAnyH_take (i := 3) (v := .agg x.cells.toArray) rfl (by kernel_rfl) (by kernel_rfl) (by kernel_rfl) (fun _ _ _ h => h) (yieldsIf_load_mid (by rfl) 112 _ rfl g (o1 + j * 5) (by kernel_rfl) x.cells _ (fun w' h => h.1) Try.underlying112 rfl zx) hH ?_
        refine wpAnyH_take (i := 4) (v := .slice B n d) rfl (by kernel_rfl) (by kernel_rfl) (by kernel_rfl) (fun _ _ _ h => h) (Or.inl ⟨by rfl, fun w' _ => by go_simp⟩) hH ?_
        refine wpAnyH_take (i := 5) (v := .int .i64 j) rfl (by kernel_rfl) (by kernel_rfl) (by kernel_rfl) (fun _ _ _ h => h) (Or.inl ⟨by rfl, fun w' _ => by go_simp⟩) hH ?_
        refine wpAnyH_take (i := 6) (v := .pointer (some ⟨g', o2 + j * 5, none⟩)) rfl (by kernel_rfl) (by kernel_rfl) (by kernel_rfl) (fun _ _ _ h => h) (Or.inl ⟨by rfl, fun w' _ => by have q := hiy w'; go_simp⟩) hH ?_
        refine wpAnyH_take (i := 7) (v := .agg y.cells.toArray) rfl (by kernel_rfl) (by kernel_rfl) (by kernel_rfl) (fun _ _ _ h => h) (yieldsIf_load_mid (by rfl) 112 _ rfl g' (o2 + j * 5) (by kernel_rfl) y.cells _ (fun w' h => h.2) Try.underlying112 rfl zy) hH ?_
        have ca1 : Hid (Chg (fun _ => False) wr (wr.alloc (.cells (chC (.slice none 0 0) false (.slice none 0 0) false (.slice none 0 0)).toArray 112)).drew) := ((Chg.refl _ _).alloc _).drew
        have ca2 : Hid (Chg (fun _ => False) wr ((wr.alloc (.cells (chC (.slice none 0 0) false (.slice none 0 0) false (.slice none 0 0)).toArray 112)).alloc (.cells (chC (.slice none 0 0) false (.slice none 0 0) false (.slice none 0 0)).toArray 112)).drew) := (((Chg.refl _ _).alloc _).alloc _).drew
        have N0 : Hid (Blk ((wr.alloc (.cells (chC (.slice none 0 0) false (.slice none 0 0) false (.slice none 0 0)).toArray 112)).alloc (.cells (chC (.slice none 0 0) false (.slice none 0 0) false (.slice none 0 0)).toArray 112)).drew wr.heap.size (chC (.slice none 0 0) false (.slice none 0 0) false (.slice none 0 0)) 112) := ((Blk.made wr _ 112).alloc _).drew
        have N1 : Hid (Blk ((wr.alloc (.cells (chC (.slice none 0 0) false (.slice none 0 0) false (.slice none 0 0)).toArray 112)).alloc (.cells (chC (.slice none 0 0) false (.slice none 0 0) false (.slice none 0 0)).toArray 112)).drew (wr.heap.size + 1) (chC (.slice none 0 0) false (.slice none 0 0) false (.slice none 0 0)) 112) := by
          have h9 := (Blk.made (wr.alloc (.cells (chC (.slice none 0 0) false (.slice none 0 0) false (.slice none 0 0)).toArray 112)) (chC (.slice none 0 0) false (.slice none 0 0) false (.slice none 0 0)) 112).drew
          rwa [World.size_alloc] at h9
        have RAL : Hid (g < wr.heap.size) := World.block_lt_of_cell? _ _ (RA.out 1 _ (show x.cells[1]? = some (.bool x.had) from rfl))
        have RBL : Hid (g' < wr.heap.size) := World.block_lt_of_cell? _ _ (RB.out 1 _ (show y.cells[1]? = some (.bool y.had) from rfl))
        refine wpAnyH_ready (rs := [8, 9]) (by kernel_rfl) (by simp) ?_
        refine AllReadyH.cons rfl (fun KK hKK => ?_) (AllReadyH.cons rfl (fun KK hKK => ?_) AllReadyH.nil)
        · clear hix hiy
          go_simp
          refine hKK.out _ _ ⟨rangeAt_kept RA.out ca1.out (fun e => e), rangeAt_kept RB.out ca1.out (fun e => e)⟩ (fun hH => ?_)
          clear hKK KK
          refine wpAnyH_ready (rs := [9]) (by kernel_rfl) (by simp) ?_
          refine AllReadyH.cons rfl (fun KK hKK => ?_) AllReadyH.nil
          go_simp
          refine hKK.out _ _ ⟨rangeAt_kept RA.out ca2.out (fun e => e), rangeAt_kept RB.out ca2.out (fun e => e)⟩ (fun hH => ?_)
          clear hKK KK
          refine wpAnyH_ready (rs := [10]) (by kernel_rfl) (by simp) ?_
          refine AllReadyH.cons rfl (fun KK hKK => ?_) AllReadyH.nil
          refine step_storeP rfl 112 (.tmp 6) (.tmp 21) rfl (wr.heap.size) x.cells (by kernel_rfl) (by kernel_rfl) (N0.out) rfl zx x.one ?_
          intro wS b6 cS
          refine hKK.out _ _ ⟨rangeAt_kept (rangeAt_kept RA.out ca2.out (fun e => e)) cS (fun e => by have := RAL.out; omega), rangeAt_kept (rangeAt_kept RB.out ca2.out (fun e => e)) cS (fun e => by have := RBL.out; omega)⟩ (fun hH => ?_)
          clear hKK KK
          refine wpAnyH_ready (rs := [11]) (by kernel_rfl) (by simp) ?_
          refine AllReadyH.cons rfl (fun KK hKK => ?_) AllReadyH.nil
          refine step_storeP rfl 112 (.tmp 7) (.tmp 25) rfl (wr.heap.size + 1) y.cells (by kernel_rfl) (by kernel_rfl) (N1.out.keep cS (by omega)) rfl zy y.one ?_
          intro wE b7 cE
          refine hKK.out _ _ ⟨rangeAt_kept (rangeAt_kept (rangeAt_kept RA.out ca2.out (fun e => e)) cS (fun e => by have := RAL.out; omega)) cE (fun e => by have := RAL.out; omega), rangeAt_kept (rangeAt_kept (rangeAt_kept RB.out ca2.out (fun e => e)) cS (fun e => by have := RBL.out; omega)) cE (fun e => by have := RBL.out; omega)⟩ (fun hH => ?_)
          clear hKK KK hH
          refine wpAnyH_done (by kernel_rfl) ?_ _
          have DX : Hid (Blk wE (wr.heap.size) x.cells 112) := b6.keep cE (by omega)
          have DY : Hid (Blk wE (wr.heap.size + 1) y.cells 112) := b7
          have CE : Hid (Chg (fun _ => False) wr wE) := (ca2.out.trans cS (fun k e => .inr (by omega))).trans cE (fun k e => .inr (by omega))
          clear b6 b7 cS cE
          go_wp2_with fail
          go_meet
          case rel => exact ⟨_, _, rfl, rfl, rfl, DX.out, DY.out, CE.out⟩
        · clear hix hiy
          go_simp
          refine hKK.out _ _ ⟨rangeAt_kept RA.out ca1.out (fun e => e), rangeAt_kept RB.out ca1.out (fun e => e)⟩ (fun hH => ?_)
          clear hKK KK
          refine wpAnyH_ready (rs := [8]) (by kernel_rfl) (by simp) ?_
          refine AllReadyH.cons rfl (fun KK hKK => ?_) AllReadyH.nil
          go_simp
          refine hKK.out _ _ ⟨rangeAt_kept RA.out ca2.out (fun e => e), rangeAt_kept RB.out ca2.out (fun e => e)⟩ (fun hH => ?_)
          clear hKK KK
          refine wpAnyH_ready (rs := [10]) (by kernel_rfl) (by simp) ?_
          refine AllReadyH.cons rfl (fun KK hKK => ?_) AllReadyH.nil
          refine step_storeP rfl 112 (.tmp 6) (.tmp 21) rfl (wr.heap.size + 1) x.cells (by kernel_rfl) (by kernel_rfl) (N1.out) rfl zx x.one ?_
          intro wS b6 cS
          refine hKK.out _ _ ⟨rangeAt_kept (rangeAt_kept RA.out ca2.out (fun e => e)) cS (fun e => by have := RAL.out; omega), rangeAt_kept (rangeAt_kept RB.out ca2.out (fun e => e)) cS (fun e => by have := RBL.out; omega)⟩ (fun hH => ?_)
          clear hKK KK
          refine wpAnyH_ready (rs := [11]) (by kernel_rfl) (by simp) ?_
          refine AllReadyH.cons rfl (fun KK hKK => ?_) AllReadyH.nil
          refine step_storeP rfl 112 (.tmp 7) (.tmp 25) rfl (wr.heap.size) y.cells (by kernel_rfl) (by kernel_rfl) (N0.out.keep cS (by omega)) rfl zy y.one ?_
          intro wE b7 cE
          refine hKK.out _ _ ⟨rangeAt_kept (rangeAt_kept (rangeAt_kept RA.out ca2.out (fun e => e)) cS (fun e => by have := RAL.out; omega)) cE (fun e => by have := RAL.out; omega), rangeAt_kept (rangeAt_kept (rangeAt_kept RB.out ca2.out (fun e => e)) cS (fun e => by have := RBL.out; omega)) cE (fun e => by have := RBL.out; omega)⟩ (fun hH => ?_)
          clear hKK KK hH
          refine wpAnyH_done (by kernel_rfl) ?_ _
          have DX : Hid (Blk wE (wr.heap.size + 1) x.cells 112) := b6.keep cE (by omega)
          have DY : Hid (Blk wE (wr.heap.size) y.cells 112) := b7
          have CE : Hid (Chg (fun _ => False) wr wE) := (ca2.out.trans cS (fun k e => .inr (by omega))).trans cE (fun k e => .inr (by omega))
          clear b6 b7 cS cE
          go_wp2_with fail
          go_meet
          case rel => exact ⟨_, _, rfl, rfl, rfl, DX.out, DY.out, CE.out⟩
      case rest =>
        obtain ⟨g6, g7, rfl, rfl, rfl, hid⟩ := hcut
        obtain ⟨⟨xa, xn, xc, xl⟩, xh, ⟨ya, yn, yc, yl⟩, xs, ⟨za, zn, zc, zl⟩⟩ := x
        obtain ⟨⟨xa2, xn2, xc2, xl2⟩, xh2, ⟨ya2, yn2, yc2, yl2⟩, xs2, ⟨za2, zn2, zc2, zl2⟩⟩ := y
        obtain ⟨e1, e2, e3, e4, e5⟩ := SM.out
        simp only at e1 e2 e3 e4 e5
        subst e1 e2 e3 e4 e5
        have DX : Hid _ := hid.out.1
        have DY : Hid _ := hid.out.2.1
        have CE : Hid _ := hid.out.2.2
        clear hid SM
        have BLE : Hid (Below w.heap.size w wc) := BL.out.trans (CE.out.below BL.out.size (fun _ e => e.elim))
        have PX : Hid _ := TX.out.kept CE.out
        have PY : Hid _ := TY.out.kept CE.out
        have x1 : wc.cell? ⟨g6, 1, none⟩ = some (.bool xh) := DX.out.cell 1
        have y1 : wc.cell? ⟨g7, 1, none⟩ = some (.bool xh) := DY.out.cell 1
        have x3 : wc.cell? ⟨g6, 3, none⟩ = some (.bool xs) := DX.out.cell 3
        have y3 : wc.cell? ⟨g7, 3, none⟩ = some (.bool xs) := DY.out.cell 3
        have iq1 : (xh != xh) = false := by simp
        have iq2 : (xs != xs) = false := by simp
        have xx : wc.cell? ⟨g6, 0, none⟩ = some (.slice xa xn xc) := DX.out.cell 0
        have yy : wc.cell? ⟨g7, 0, none⟩ = some (.slice xa2 xn2 xc2) := DY.out.cell 0
        clear zx zy RA RB TX TY CE hix hiy
        go_wp2_with fail
        refine Calls.mono (same_any PX.out.ky.s PY.out.ky.s PX.out.ky.le PY.out.ky.le) ?_
        rintro e v1 ⟨rfl, kk, hw⟩
        rw [decide_eq_true rfl]
        have C1 : Hid (Chg (fun _ => False) wc v1) := by rw [hw]; exact drewN_chg _ _ _
        clear hw xx yy x1 y1 x3 y3 iq1 iq2
        have xx : v1.cell? ⟨g6, 2, none⟩ = some (.slice ya yn yc) := (DX.out.keep C1.out (fun e => e)).cell 2
        have yy : v1.cell? ⟨g7, 2, none⟩ = some (.slice ya2 yn2 yc2) := (DY.out.keep C1.out (fun e => e)).cell 2
        go_wp2_with fail
        refine Calls.mono (same_any (PX.out.kept C1.out).od.s (PY.out.kept C1.out).od.s PX.out.od.le PY.out.od.le) ?_
        rintro e v2 ⟨rfl, kk, hw⟩
        rw [decide_eq_true rfl]
        have C2 : Hid (Chg (fun _ => False) wc v2) := by rw [hw]; exact C1.out.trans (drewN_chg _ _ (fun _ => False)) (fun _ e => e.elim)
        clear hw xx yy
        have xx : v2.cell? ⟨g6, 4, none⟩ = some (.slice za zn zc) := (DX.out.keep C2.out (fun e => e)).cell 4
        have yy : v2.cell? ⟨g7, 4, none⟩ = some (.slice za2 zn2 zc2) := (DY.out.keep C2.out (fun e => e)).cell 4
        go_wp2_with fail
        refine Calls.mono (same_any (PX.out.kept C2.out).nw.s (PY.out.kept C2.out).nw.s PX.out.nw.le PY.out.nw.le) ?_
        rintro e v3 ⟨rfl, kk, hw⟩
        rw [decide_eq_true rfl]
        have C3 : Hid (Chg (fun _ => False) wc v3) := by rw [hw]; exact C2.out.trans (drewN_chg _ _ (fun _ => False)) (fun _ e => e.elim)
        have F3 : Hid (Below w.heap.size w v3) := BLE.out.trans (C3.out.below BLE.out.size (fun _ e => e.elim))
        clear hw xx yy
        go_wp2_with fail
        go_roundw
        case rel => exact ⟨j + 1, by omega, by go_num, F3.out⟩
        case measure => simp [intOf]; omega
    · go_wp2_with fail
      go_ret
      exact ⟨rfl, BL.out⟩

end Go.Proofs.Ytjmeaebehndheaa
