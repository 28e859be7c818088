/-
  The reference reads messages: their fields.
-/
import Derived.Test.YtjmeaebehndheaaMxD
namespace Go.Proofs.Ytjmeaebehndheaa
open Go.RowKit

theorem BX.sw {w wr : World} {p r q : Nat} {tv : Value} {T : List Int} {ty : TypeId} {Z cs : List Value} {I J : World → Prop} {a : Nat} {err : Int} (h : BX w p tv T ty r q Z I wr a err cs) (j : J wr) (st : SX ty J) : BX w p tv T ty r q Z J wr a err cs := ⟨h.st_, h.res, h.row, j, st, h.ge⟩
theorem drew_chg (w : World) : Chg (fun _ => False) w w.drew := drewN_chg w 1 _
theorem BX.drew {w wr : World} {p r q : Nat} {tv : Value} {T : List Int} {ty : TypeId} {Z cs : List Value} {J : World → Prop} {a : Nat} {err : Int} (h : BX w p tv T ty r q Z J wr a err cs) (j : J wr.drew) : BX w p tv T ty r q Z J wr.drew a err cs := ⟨h.st_.drewN 1, h.res.drew, h.row.drew, j, h.st, h.ge⟩
theorem CM.freshC {w w' : World} {v : Value} {L : List ChV} (h : CM w v L) (c : Chg (fun _ => False) w w') : CM w' v L := h.kept c (fun _ _ _ e => e.elim)
/-- What the reference's readFields gives: behind the kind K, from b on. -/
def fldX (T : List Int) (K b : Nat) (e : Int) : MsS :=
  if K = 1 then ⟨1, 0, 0, [], [], false, 0, z32, z32, 0, 0, [], [], [], b, e⟩
  else if K = 2 then
    let U := uintS T b e maxN
    let P := spanS T U.2.1 U.2.2
    ⟨2, U.1, 0, P.lo, P.hi, P.op, 0, z32, z32, 0, 0, [], [], [], P.at_, P.err⟩
  else if K = 3 then
    let U := uintS T b e maxN
    ⟨3, U.1, 0, [], [], false, 0, z32, z32, 0, 0, [], [], [], U.2.1, U.2.2⟩
  else if K = 4 then
    let U := uintS T b e 4611686018427387905
    ⟨4, 0, U.1, [], [], false, 0, z32, z32, 0, 0, [], [], [], U.2.1, U.2.2⟩
  else if K = 5 then
    let U := uintS T b e maxN
    let V := uintS T U.2.1 U.2.2 maxN
    ⟨5, V.1, U.1, [], [], false, 0, z32, z32, 0, 0, [], [], [], V.2.1, V.2.2⟩
  else if K = 11 then
    let U := uintS T b e maxN
    let V := uintS T (pA T U.2.1 U.2.2 32) (pE T U.2.1 U.2.2 32) maxN
    let X := uintS T V.2.1 V.2.2 4611686018427387905
    ⟨11, U.1, 0, [], [], false, X.1, pad 32 (pL T X.2.1 X.2.2 32), pad 32 (pL T U.2.1 U.2.2 32), V.1, 0, [], [], [], pA T X.2.1 X.2.2 32, pE T X.2.1 X.2.2 32⟩
  else if K = 12 then
    let L := textS T b e 4194304
    ⟨12, 0, 0, [], [], false, 0, z32, z32, 0, 0, L.1, [], [], L.2.1, L.2.2⟩
  else if K = 13 ∨ K = 14 then
    let U := uintS T b e 128
    let M := manyE sumE T U.1 U.2.1 U.2.2
    ⟨K, 0, 0, [], [], false, 0, z32, z32, 0, 0, [], M.1, [], M.2.1, M.2.2⟩
  else if K = 15 then
    let U := uintS T b e 4194304
    let M := manyX T U.1 U.2.1 U.2.2
    ⟨15, 0, 0, [], [], false, 0, z32, z32, 0, 0, [], [], M.1, M.2.1, M.2.2⟩
  else if K = 19 then
    let U := uintS T b e 999
    ⟨19, 0, 0, [], [], false, 0, z32, z32, 0, U.1, [], [], [], U.2.1, U.2.2⟩
  else ⟨K, 0, 0, [], [], false, 0, z32, z32, 0, 0, [], [], [], b, failE e 24⟩
/-- What readFields answers. -/
structure XMsQ (w w' : World) (p : Nat) (tv : Value) (T : List Int) (S : MsS) (e : Ending) : Prop where
  ex : ∃ lo hi bo pa cg L, e = .returned (.agg (msC S.ki S.ver S.oth lo hi S.op S.hs S.hl S.lb S.ct S.co bo pa cg).toArray) ∧ (Own w' lo S.lo ∧ Own w' hi S.hi ∧ Own w' bo S.bo ∧ GL w' pa 31 32 S.pa ∧ CM w' cg L) ∧ L.map Prod.fst = S.ch ∧ RP w w' p 64 tv T S.at_ S.err ∧ MsAp w.heap.size lo hi bo pa cg L

set_option maxRecDepth 100000 in
set_option maxHeartbeats 16000000 in
theorem xFields_any {w : World} {p : Nat} {tv : Value} {T : List Int} {a1 : Nat} {e1 : Int} (h : RS w p 64 tv T a1 e1) (K : Nat) (KL : K < 256) :
    Calls Try.prog 96 #[.pointer (some ⟨p, 0, none⟩), .agg (msC K 0 0 (.slice none 0 0) (.slice none 0 0) false 0 z32 z32 0 0 (.slice none 0 0) (.slice none 0 0) (.slice none 0 0)).toArray] w fun e w' => XMsQ w w' p tv T (fldX T K a1 e1) e := by
  obtain ⟨Z, hZ⟩ : ∃ Z, Z = msC 0 0 0 (.slice none 0 0) (.slice none 0 0) false 0 z32 z32 0 0 (.slice none 0 0) (.slice none 0 0) (.slice none 0 0) := ⟨_, rfl⟩
  have LZ : Z.length = 76 := by rw [hZ]; exact msC_len _ _ _ _ _ _ _ _ _ _ _ _ _ _ z32_len z32_len
  obtain ⟨w2, hw2⟩ : ∃ w2, w2 = (w.alloc (.cells (msC K 0 0 (.slice none 0 0) (.slice none 0 0) false 0 z32 z32 0 0 (.slice none 0 0) (.slice none 0 0) (.slice none 0 0)).toArray 95)).alloc (.cells Try.zeroCells95 95) := ⟨_, rfl⟩
  have B2 : Hid (BX w p tv T 95 (w.heap.size + 1) w.heap.size Z (fun _ => True) w2 a1 e1 (msC K 0 0 (.slice none 0 0) (.slice none 0 0) false 0 z32 z32 0 0 (.slice none 0 0) (.slice none 0 0) (.slice none 0 0))) := by rw [hw2, hZ, show Try.zeroCells95 = (msC 0 0 0 (.slice none 0 0) (.slice none 0 0) false 0 z32 z32 0 0 (.slice none 0 0) (.slice none 0 0) (.slice none 0 0)).toArray by kernel_rfl]; exact BX.start2 h _ _ 95
  have hlt := h.lt
  have hbig := h.big
  obtain ⟨S, hS⟩ : ∃ S, S = fldX T K a1 e1 := ⟨_, rfl⟩
  rw [← hS]
  unfold fldX at hS
  have HSS : Hid _ := hS
  have HW : Hid _ := hw2
  clear h hS hw2 hZ
  go_enter Try.func96, Try.ntmps96
  go_upto_region 1 with fail
  rw [← HW.out]
  clear HW
  have k0 : w2.cell? ⟨w.heap.size, 0, none⟩ = some (.int .i64 K) := B2.out.row.cell 0
  by_cases q1 : K = 1
  · subst q1
    have h9 := HSS.out
    rw [if_pos rfl] at h9
    clear HSS
    have HSS : Hid _ := h9
    clear h9
    go_wp2_with (first
      | (refine wpList_load_part rfl 95 (.tmp 3) rfl w.heap.size 0 (msC 1 0 0 (.slice none 0 0) (.slice none 0 0) false 0 z32 z32 0 0 (.slice none 0 0) (.slice none 0 0) (.slice none 0 0)) rfl B2.out.row (by simp) Try.underlying95 rfl (Try.msSz _ _ _ _ _ _ _ _ _ _ _ _ _ _ z32_len z32_len) ?_)
      | (refine wpList_store_part rfl 95 (.tmp 4) (.tmp 106) rfl (w.heap.size + 1) 0 (msC 1 0 0 (.slice none 0 0) (.slice none 0 0) false 0 z32 z32 0 0 (.slice none 0 0) (.slice none 0 0) (.slice none 0 0)) rfl rfl B2.out.res (by rw [msC_len _ _ _ _ _ _ _ _ _ _ _ _ _ _ z32_len z32_len, LZ]; decide) (Try.msSz _ _ _ _ _ _ _ _ _ _ _ _ _ _ z32_len z32_len) (msC_one _ _ _ _ _ _ _ _ _ _ _ _ _ _ rfl rfl rfl rfl rfl) ?_; intro w8 b8 c8; rw [splice_all _ _ (by rw [msC_len _ _ _ _ _ _ _ _ _ _ _ _ _ _ z32_len z32_len, LZ])] at b8; have RR : Hid _ := b8; have FF : Hid _ := B2.out.fin c8; clear b8 c8))
    exact bodyPost_ret (v := .agg (msC 1 0 0 (.slice none 0 0) (.slice none 0 0) false 0 z32 z32 0 0 (.slice none 0 0) (.slice none 0 0) (.slice none 0 0)).toArray) (results_row1 rfl _ _ (w.heap.size + 1) 95 _ _ _ rfl RR.out.eq Try.underlying95 rfl (Try.msSz _ _ _ _ _ _ _ _ _ _ _ _ _ _ z32_len z32_len)) rfl (by rw [HSS.out]; exact ⟨⟨(.slice none 0 0), (.slice none 0 0), (.slice none 0 0), (.slice none 0 0), (.slice none 0 0), [], rfl, ⟨Own.nil _, Own.nil _, Own.nil _, GL.nil _ _ _, CM.nil _⟩, rfl, FF.out.1, MsAp.nils _⟩⟩)
  · by_cases q2 : K = 2
    · subst q2
      have h9 := HSS.out
      rw [if_neg (by decide), if_pos rfl] at h9
      clear HSS
      have HSS : Hid _ := h9
      clear h9
      clear q1
      have HC : Hid _ := xNumberV B2.out.st_.rp.1
      obtain ⟨U, a2, e2, hU⟩ : ∃ U b c, uintS T a1 e1 maxN = (U, b, c) := ⟨_, _, _, rfl⟩
      have hS := HSS.out
      simp only [hU] at HC hS
      clear HSS
      have HSS : Hid _ := hS
      have Um : U ≤ maxN := by have h9 := uintS_most T a1 e1 maxN; rw [hU] at h9; exact h9
      clear hU hS
      go_wp2_with fail
      refine Calls.mono HC.out ?_
      rintro e w3 ⟨rfl, r1⟩
      have B3 : Hid _ := B2.out.call r1
      clear r1 HC B2 k0
      have hc : w3.cell? ⟨w.heap.size, 1, none⟩ = some (.int .u64 0) := B3.out.row.cell 1
      have hf : w3.frozen? ⟨w.heap.size, 1, none⟩ = false := B3.out.row.fr 1
      have B4 : Hid (BX w p tv T 95 (w.heap.size + 1) w.heap.size _ _ (w3.setCell ⟨w.heap.size, 1, none⟩ (.int .u64 U)) a2 e2 (msC 2 U 0 (.slice none 0 0) (.slice none 0 0) false 0 z32 z32 0 0 (.slice none 0 0) (.slice none 0 0) (.slice none 0 0))) := B3.out.set 1 (.int .u64 U)
      clear B3
      have HC : Hid _ := xSpan_any B4.out.st_.rp.1
      obtain ⟨P, hP⟩ : ∃ P, P = spanS T a2 e2 := ⟨_, rfl⟩
      have hS := HSS.out
      simp only [← hP] at HC hS
      clear HSS
      have HSS : Hid _ := hS
      clear hP hS
      go_wp2_with fail
      refine Calls.mono HC.out ?_
      intro e w7 hq
      obtain ⟨s1, s2, rfl, o1, o2, r1, a3⟩ := hq.ex
      have AP : Hid (Ap3 w.heap.size s1 s2 (.slice none 0 0)) := a3.mono B4.out.st_.rp.2.size
      clear a3
      obtain ⟨xa, xc, hsf⟩ := Own.form o1
      obtain ⟨x, hn⟩ : ∃ n, n = P.lo.length := ⟨_, rfl⟩
      rw [← hn] at hsf
      subst hsf
      obtain ⟨ya, yc, hsf⟩ := Own.form o2
      obtain ⟨y, hm⟩ : ∃ n, n = P.hi.length := ⟨_, rfl⟩
      rw [← hm] at hsf
      subst hsf
      have B7 : Hid _ := ((B4.out.call r1).more (SX.own (by decide) _ _) o1).more (SX.own (by decide) _ _) o2
      clear r1 HC B4 o1 o2 hn hm hq hc hf
      go_upto_region 37 with (refine wpList_store_part rfl 89 (.tmp 22) (.tmp 21) rfl w.heap.size 3 (spC (.slice xa x xc) (.slice ya y yc) P.op) rfl rfl B7.out.row (by rw [msC_len _ _ _ _ _ _ _ _ _ _ _ _ _ _ z32_len z32_len]; simp [spC]) (Try.spSz _ _ _) (spC_one rfl rfl _) ?_; intro w9 b7 c7; rw [msC_putsp] at b7; have B8 : Hid _ := B7.out.chg b7 c7; clear b7 c7)
      clear B7
      go_wp2_with (first
        | (refine wpList_load_part rfl 95 (.tmp 3) rfl w.heap.size 0 (msC 2 U 0 (.slice xa x xc) (.slice ya y yc) P.op 0 z32 z32 0 0 (.slice none 0 0) (.slice none 0 0) (.slice none 0 0)) rfl B8.out.row (by simp) Try.underlying95 rfl (Try.msSz _ _ _ _ _ _ _ _ _ _ _ _ _ _ z32_len z32_len) ?_)
        | (refine wpList_store_part rfl 95 (.tmp 4) (.tmp 106) rfl (w.heap.size + 1) 0 (msC 2 U 0 (.slice xa x xc) (.slice ya y yc) P.op 0 z32 z32 0 0 (.slice none 0 0) (.slice none 0 0) (.slice none 0 0)) rfl rfl B8.out.res (by rw [msC_len _ _ _ _ _ _ _ _ _ _ _ _ _ _ z32_len z32_len, LZ]; decide) (Try.msSz _ _ _ _ _ _ _ _ _ _ _ _ _ _ z32_len z32_len) (msC_one _ _ _ _ _ _ _ _ _ _ _ _ _ _ rfl rfl rfl rfl rfl) ?_; intro w8 b8 c8; rw [splice_all _ _ (by rw [msC_len _ _ _ _ _ _ _ _ _ _ _ _ _ _ z32_len z32_len, LZ])] at b8; have RR : Hid _ := b8; have FF : Hid _ := B8.out.fin c8; clear b8 c8))
      exact bodyPost_ret (v := .agg (msC 2 U 0 (.slice xa x xc) (.slice ya y yc) P.op 0 z32 z32 0 0 (.slice none 0 0) (.slice none 0 0) (.slice none 0 0)).toArray) (results_row1 rfl _ _ (w.heap.size + 1) 95 _ _ _ rfl RR.out.eq Try.underlying95 rfl (Try.msSz _ _ _ _ _ _ _ _ _ _ _ _ _ _ z32_len z32_len)) rfl (by rw [HSS.out]; exact ⟨⟨(.slice xa x xc), (.slice ya y yc), (.slice none 0 0), (.slice none 0 0), (.slice none 0 0), [], rfl, ⟨FF.out.2.1.2, FF.out.2.2, Own.nil _, GL.nil _ _ _, CM.nil _⟩, rfl, FF.out.1, MsAp.span AP.out⟩⟩)
    · by_cases q3 : K = 3
      · subst q3
        have h9 := HSS.out
        rw [if_neg (by decide), if_neg (by decide), if_pos rfl] at h9
        clear HSS
        have HSS : Hid _ := h9
        clear h9
        clear q1 q2
        have HC : Hid _ := xNumberV B2.out.st_.rp.1
        obtain ⟨U, a2, e2, hU⟩ : ∃ U b c, uintS T a1 e1 maxN = (U, b, c) := ⟨_, _, _, rfl⟩
        have hS := HSS.out
        simp only [hU] at HC hS
        clear HSS
        have HSS : Hid _ := hS
        have Um : U ≤ maxN := by have h9 := uintS_most T a1 e1 maxN; rw [hU] at h9; exact h9
        clear hU hS
        go_wp2_with fail
        refine Calls.mono HC.out ?_
        rintro e w3 ⟨rfl, r1⟩
        have B3 : Hid _ := B2.out.call r1
        clear r1 HC B2 k0
        have hc : w3.cell? ⟨w.heap.size, 1, none⟩ = some (.int .u64 0) := B3.out.row.cell 1
        have hf : w3.frozen? ⟨w.heap.size, 1, none⟩ = false := B3.out.row.fr 1
        have B4 : Hid (BX w p tv T 95 (w.heap.size + 1) w.heap.size _ _ (w3.setCell ⟨w.heap.size, 1, none⟩ (.int .u64 U)) a2 e2 (msC 3 U 0 (.slice none 0 0) (.slice none 0 0) false 0 z32 z32 0 0 (.slice none 0 0) (.slice none 0 0) (.slice none 0 0))) := B3.out.set 1 (.int .u64 U)
        clear B3
        go_wp2_with (first
          | (refine wpList_load_part rfl 95 (.tmp 3) rfl w.heap.size 0 (msC 3 U 0 (.slice none 0 0) (.slice none 0 0) false 0 z32 z32 0 0 (.slice none 0 0) (.slice none 0 0) (.slice none 0 0)) rfl B4.out.row (by simp) Try.underlying95 rfl (Try.msSz _ _ _ _ _ _ _ _ _ _ _ _ _ _ z32_len z32_len) ?_)
          | (refine wpList_store_part rfl 95 (.tmp 4) (.tmp 106) rfl (w.heap.size + 1) 0 (msC 3 U 0 (.slice none 0 0) (.slice none 0 0) false 0 z32 z32 0 0 (.slice none 0 0) (.slice none 0 0) (.slice none 0 0)) rfl rfl B4.out.res (by rw [msC_len _ _ _ _ _ _ _ _ _ _ _ _ _ _ z32_len z32_len, LZ]; decide) (Try.msSz _ _ _ _ _ _ _ _ _ _ _ _ _ _ z32_len z32_len) (msC_one _ _ _ _ _ _ _ _ _ _ _ _ _ _ rfl rfl rfl rfl rfl) ?_; intro w8 b8 c8; rw [splice_all _ _ (by rw [msC_len _ _ _ _ _ _ _ _ _ _ _ _ _ _ z32_len z32_len, LZ])] at b8; have RR : Hid _ := b8; have FF : Hid _ := B4.out.fin c8; clear b8 c8))
        exact bodyPost_ret (v := .agg (msC 3 U 0 (.slice none 0 0) (.slice none 0 0) false 0 z32 z32 0 0 (.slice none 0 0) (.slice none 0 0) (.slice none 0 0)).toArray) (results_row1 rfl _ _ (w.heap.size + 1) 95 _ _ _ rfl RR.out.eq Try.underlying95 rfl (Try.msSz _ _ _ _ _ _ _ _ _ _ _ _ _ _ z32_len z32_len)) rfl (by rw [HSS.out]; exact ⟨⟨(.slice none 0 0), (.slice none 0 0), (.slice none 0 0), (.slice none 0 0), (.slice none 0 0), [], rfl, ⟨Own.nil _, Own.nil _, Own.nil _, GL.nil _ _ _, CM.nil _⟩, rfl, FF.out.1, MsAp.nils _⟩⟩)
      · by_cases q4 : K = 4
        · subst q4
          have h9 := HSS.out
          rw [if_neg (by decide), if_neg (by decide), if_neg (by decide), if_pos rfl] at h9
          clear HSS
          have HSS : Hid _ := h9
          clear h9
          clear q1 q2 q3
          have HC : Hid _ := xUint_any B2.out.st_.rp.1 4611686018427387905 (by decide)
          obtain ⟨U, a2, e2, hU⟩ : ∃ U b c, uintS T a1 e1 4611686018427387905 = (U, b, c) := ⟨_, _, _, rfl⟩
          have hS := HSS.out
          simp only [hU] at HC hS
          clear HSS
          have HSS : Hid _ := hS
          have Um : U ≤ 4611686018427387905 := by have h9 := uintS_most T a1 e1 4611686018427387905; rw [hU] at h9; exact h9
          clear hU hS
          go_wp2_with fail
          refine Calls.mono HC.out ?_
          rintro e w3 ⟨rfl, r1⟩
          have B3 : Hid _ := B2.out.call r1
          clear r1 HC B2 k0
          have hc : w3.cell? ⟨w.heap.size, 2, none⟩ = some (.int .u64 0) := B3.out.row.cell 2
          have hf : w3.frozen? ⟨w.heap.size, 2, none⟩ = false := B3.out.row.fr 2
          have B4 : Hid (BX w p tv T 95 (w.heap.size + 1) w.heap.size _ _ (w3.setCell ⟨w.heap.size, 2, none⟩ (.int .u64 U)) a2 e2 (msC 4 0 U (.slice none 0 0) (.slice none 0 0) false 0 z32 z32 0 0 (.slice none 0 0) (.slice none 0 0) (.slice none 0 0))) := B3.out.set 2 (.int .u64 U)
          clear B3
          go_wp2_with (first
            | (refine wpList_load_part rfl 95 (.tmp 3) rfl w.heap.size 0 (msC 4 0 U (.slice none 0 0) (.slice none 0 0) false 0 z32 z32 0 0 (.slice none 0 0) (.slice none 0 0) (.slice none 0 0)) rfl B4.out.row (by simp) Try.underlying95 rfl (Try.msSz _ _ _ _ _ _ _ _ _ _ _ _ _ _ z32_len z32_len) ?_)
            | (refine wpList_store_part rfl 95 (.tmp 4) (.tmp 106) rfl (w.heap.size + 1) 0 (msC 4 0 U (.slice none 0 0) (.slice none 0 0) false 0 z32 z32 0 0 (.slice none 0 0) (.slice none 0 0) (.slice none 0 0)) rfl rfl B4.out.res (by rw [msC_len _ _ _ _ _ _ _ _ _ _ _ _ _ _ z32_len z32_len, LZ]; decide) (Try.msSz _ _ _ _ _ _ _ _ _ _ _ _ _ _ z32_len z32_len) (msC_one _ _ _ _ _ _ _ _ _ _ _ _ _ _ rfl rfl rfl rfl rfl) ?_; intro w8 b8 c8; rw [splice_all _ _ (by rw [msC_len _ _ _ _ _ _ _ _ _ _ _ _ _ _ z32_len z32_len, LZ])] at b8; have RR : Hid _ := b8; have FF : Hid _ := B4.out.fin c8; clear b8 c8))
          exact bodyPost_ret (v := .agg (msC 4 0 U (.slice none 0 0) (.slice none 0 0) false 0 z32 z32 0 0 (.slice none 0 0) (.slice none 0 0) (.slice none 0 0)).toArray) (results_row1 rfl _ _ (w.heap.size + 1) 95 _ _ _ rfl RR.out.eq Try.underlying95 rfl (Try.msSz _ _ _ _ _ _ _ _ _ _ _ _ _ _ z32_len z32_len)) rfl (by rw [HSS.out]; exact ⟨⟨(.slice none 0 0), (.slice none 0 0), (.slice none 0 0), (.slice none 0 0), (.slice none 0 0), [], rfl, ⟨Own.nil _, Own.nil _, Own.nil _, GL.nil _ _ _, CM.nil _⟩, rfl, FF.out.1, MsAp.nils _⟩⟩)
        · by_cases q5 : K = 5
          · subst q5
            have h9 := HSS.out
            rw [if_neg (by decide), if_neg (by decide), if_neg (by decide), if_neg (by decide), if_pos rfl] at h9
            clear HSS
            have HSS : Hid _ := h9
            clear h9
            clear q1 q2 q3 q4
            have HC : Hid _ := xNumberV B2.out.st_.rp.1
            obtain ⟨U, a2, e2, hU⟩ : ∃ U b c, uintS T a1 e1 maxN = (U, b, c) := ⟨_, _, _, rfl⟩
            have hS := HSS.out
            simp only [hU] at HC hS
            clear HSS
            have HSS : Hid _ := hS
            have Um : U ≤ maxN := by have h9 := uintS_most T a1 e1 maxN; rw [hU] at h9; exact h9
            clear hU hS
            go_wp2_with fail
            refine Calls.mono HC.out ?_
            rintro e w3 ⟨rfl, r1⟩
            have B3 : Hid _ := B2.out.call r1
            clear r1 HC B2 k0
            have hc : w3.cell? ⟨w.heap.size, 2, none⟩ = some (.int .u64 0) := B3.out.row.cell 2
            have hf : w3.frozen? ⟨w.heap.size, 2, none⟩ = false := B3.out.row.fr 2
            have B4 : Hid (BX w p tv T 95 (w.heap.size + 1) w.heap.size _ _ (w3.setCell ⟨w.heap.size, 2, none⟩ (.int .u64 U)) a2 e2 (msC 5 0 U (.slice none 0 0) (.slice none 0 0) false 0 z32 z32 0 0 (.slice none 0 0) (.slice none 0 0) (.slice none 0 0))) := B3.out.set 2 (.int .u64 U)
            clear B3
            have HC : Hid _ := xNumberV B4.out.st_.rp.1
            obtain ⟨V, a3, e3, hU⟩ : ∃ U b c, uintS T a2 e2 maxN = (U, b, c) := ⟨_, _, _, rfl⟩
            have hS := HSS.out
            simp only [hU] at HC hS
            clear HSS
            have HSS : Hid _ := hS
            have Vm : V ≤ maxN := by have h9 := uintS_most T a2 e2 maxN; rw [hU] at h9; exact h9
            clear hU hS
            go_wp2_with fail
            refine Calls.mono HC.out ?_
            rintro e w5 ⟨rfl, r1⟩
            have B5 : Hid _ := B4.out.call r1
            clear r1 HC B4 hc hf
            have hc : w5.cell? ⟨w.heap.size, 1, none⟩ = some (.int .u64 0) := B5.out.row.cell 1
            have hf : w5.frozen? ⟨w.heap.size, 1, none⟩ = false := B5.out.row.fr 1
            have B6 : Hid (BX w p tv T 95 (w.heap.size + 1) w.heap.size _ _ (w5.setCell ⟨w.heap.size, 1, none⟩ (.int .u64 V)) a3 e3 (msC 5 V U (.slice none 0 0) (.slice none 0 0) false 0 z32 z32 0 0 (.slice none 0 0) (.slice none 0 0) (.slice none 0 0))) := B5.out.set 1 (.int .u64 V)
            clear B5
            go_wp2_with (first
              | (refine wpList_load_part rfl 95 (.tmp 3) rfl w.heap.size 0 (msC 5 V U (.slice none 0 0) (.slice none 0 0) false 0 z32 z32 0 0 (.slice none 0 0) (.slice none 0 0) (.slice none 0 0)) rfl B6.out.row (by simp) Try.underlying95 rfl (Try.msSz _ _ _ _ _ _ _ _ _ _ _ _ _ _ z32_len z32_len) ?_)
              | (refine wpList_store_part rfl 95 (.tmp 4) (.tmp 106) rfl (w.heap.size + 1) 0 (msC 5 V U (.slice none 0 0) (.slice none 0 0) false 0 z32 z32 0 0 (.slice none 0 0) (.slice none 0 0) (.slice none 0 0)) rfl rfl B6.out.res (by rw [msC_len _ _ _ _ _ _ _ _ _ _ _ _ _ _ z32_len z32_len, LZ]; decide) (Try.msSz _ _ _ _ _ _ _ _ _ _ _ _ _ _ z32_len z32_len) (msC_one _ _ _ _ _ _ _ _ _ _ _ _ _ _ rfl rfl rfl rfl rfl) ?_; intro w8 b8 c8; rw [splice_all _ _ (by rw [msC_len _ _ _ _ _ _ _ _ _ _ _ _ _ _ z32_len z32_len, LZ])] at b8; have RR : Hid _ := b8; have FF : Hid _ := B6.out.fin c8; clear b8 c8))
            exact bodyPost_ret (v := .agg (msC 5 V U (.slice none 0 0) (.slice none 0 0) false 0 z32 z32 0 0 (.slice none 0 0) (.slice none 0 0) (.slice none 0 0)).toArray) (results_row1 rfl _ _ (w.heap.size + 1) 95 _ _ _ rfl RR.out.eq Try.underlying95 rfl (Try.msSz _ _ _ _ _ _ _ _ _ _ _ _ _ _ z32_len z32_len)) rfl (by rw [HSS.out]; exact ⟨⟨(.slice none 0 0), (.slice none 0 0), (.slice none 0 0), (.slice none 0 0), (.slice none 0 0), [], rfl, ⟨Own.nil _, Own.nil _, Own.nil _, GL.nil _ _ _, CM.nil _⟩, rfl, FF.out.1, MsAp.nils _⟩⟩)
          · by_cases q11 : K = 11
            · subst q11
              have h9 := HSS.out
              rw [if_neg (by decide), if_neg (by decide), if_neg (by decide), if_neg (by decide), if_neg (by decide), if_pos rfl] at h9
              clear HSS
              have HSS : Hid _ := h9
              clear h9
              clear q1 q2 q3 q4 q5
              have HC : Hid _ := xNumberV B2.out.st_.rp.1
              obtain ⟨U, a2, e2, hU⟩ : ∃ U b c, uintS T a1 e1 maxN = (U, b, c) := ⟨_, _, _, rfl⟩
              have hS := HSS.out
              simp only [hU] at HC hS
              clear HSS
              have HSS : Hid _ := hS
              have Um : U ≤ maxN := by have h9 := uintS_most T a1 e1 maxN; rw [hU] at h9; exact h9
              clear hU hS
              go_wp2_with fail
              refine Calls.mono HC.out ?_
              rintro e w3 ⟨rfl, r1⟩
              have B3 : Hid _ := B2.out.call r1
              clear r1 HC B2 k0
              have hc : w3.cell? ⟨w.heap.size, 1, none⟩ = some (.int .u64 0) := B3.out.row.cell 1
              have hf : w3.frozen? ⟨w.heap.size, 1, none⟩ = false := B3.out.row.fr 1
              have B4 : Hid (BX w p tv T 95 (w.heap.size + 1) w.heap.size _ _ (w3.setCell ⟨w.heap.size, 1, none⟩ (.int .u64 U)) a2 e2 (msC 11 U 0 (.slice none 0 0) (.slice none 0 0) false 0 z32 z32 0 0 (.slice none 0 0) (.slice none 0 0) (.slice none 0 0))) := B3.out.set 1 (.int .u64 U)
              clear B3
              have HC : Hid _ := xSum_any B4.out.st_.rp.1
              obtain ⟨y, hy⟩ : ∃ y, y = pad 32 (pL T a2 e2 32) := ⟨_, rfl⟩
              have Hy : y.length = 32 := by rw [hy]; exact pad_len (pL_len T a2 e2 32)
              obtain ⟨a3, ha2⟩ : ∃ b, b = pA T a2 e2 32 := ⟨_, rfl⟩
              obtain ⟨e3, he2⟩ : ∃ b, b = pE T a2 e2 32 := ⟨_, rfl⟩
              have hS := HSS.out
              simp only [← hy, ← ha2, ← he2] at HC hS
              clear HSS
              have HSS : Hid _ := hS
              clear hy ha2 he2 hS
              go_wp2_with fail
              refine Calls.mono HC.out ?_
              rintro e w5 ⟨rfl, r1⟩
              have B5 : Hid _ := B4.out.call r1
              clear r1 HC B4 hc hf
              go_upto_region 17 with (refine wpList_store_part rfl 31 (.tmp 48) (.tmp 47) rfl w.heap.size 39 (bs y) rfl rfl B5.out.row (by rw [msC_len _ _ _ _ _ _ _ _ _ _ _ _ _ _ z32_len z32_len, bs_len, Hy]; decide) (Try.sumSz' y Hy) (bs_one y) ?_; intro w6 b7 c7; rw [msC_putlb _ _ _ _ _ _ _ _ _ _ _ _ _ _ z32_len _ (by rw [z32_len, Hy])] at b7; have B6 : Hid _ := B5.out.chg b7 c7; clear b7 c7)
              clear B5
              have HC : Hid _ := xNumberV B6.out.st_.rp.1
              obtain ⟨V, a4, e4, hU⟩ : ∃ U b c, uintS T a3 e3 maxN = (U, b, c) := ⟨_, _, _, rfl⟩
              have hS := HSS.out
              simp only [hU] at HC hS
              clear HSS
              have HSS : Hid _ := hS
              have Vm : V ≤ maxN := by have h9 := uintS_most T a3 e3 maxN; rw [hU] at h9; exact h9
              clear hU hS
              go_wp2_with fail
              refine Calls.mono HC.out ?_
              rintro e w7 ⟨rfl, r1⟩
              have B7 : Hid _ := B6.out.call r1
              clear r1 HC B6 
              have hc : w7.cell? ⟨w.heap.size, 71, none⟩ = some (.int .u64 0) := by rw [B7.out.row.cell]; exact msC_at _ _ _ _ _ _ _ _ _ _ _ _ _ _ z32_len Hy 0
              have hf : w7.frozen? ⟨w.heap.size, 71, none⟩ = false := B7.out.row.fr 71
              have h9 := B7.out.set 71 (.int .u64 V)
              rw [msC_setct _ _ _ _ _ _ _ _ _ _ _ _ _ _ z32_len Hy] at h9
              have B8 : Hid _ := h9
              clear h9
              clear B7
              have HC : Hid _ := xUint_any B8.out.st_.rp.1 4611686018427387905 (by decide)
              obtain ⟨X, a5, e5, hU⟩ : ∃ U b c, uintS T a4 e4 4611686018427387905 = (U, b, c) := ⟨_, _, _, rfl⟩
              have hS := HSS.out
              simp only [hU] at HC hS
              clear HSS
              have HSS : Hid _ := hS
              have Xm : X ≤ 4611686018427387905 := by have h9 := uintS_most T a4 e4 4611686018427387905; rw [hU] at h9; exact h9
              clear hU hS
              go_wp2_with fail
              refine Calls.mono HC.out ?_
              rintro e w9 ⟨rfl, r1⟩
              have B9 : Hid _ := B8.out.call r1
              clear r1 HC B8 hc hf
              have hc : w9.cell? ⟨w.heap.size, 6, none⟩ = some (.int .u64 0) := B9.out.row.cell 6
              have hf : w9.frozen? ⟨w.heap.size, 6, none⟩ = false := B9.out.row.fr 6
              have B10 : Hid (BX w p tv T 95 (w.heap.size + 1) w.heap.size _ _ (w9.setCell ⟨w.heap.size, 6, none⟩ (.int .u64 X)) a5 e5 (msC 11 U 0 (.slice none 0 0) (.slice none 0 0) false X z32 y V 0 (.slice none 0 0) (.slice none 0 0) (.slice none 0 0))) := B9.out.set 6 (.int .u64 X)
              clear B9
              have HC : Hid _ := xSum_any B10.out.st_.rp.1
              obtain ⟨z, hy⟩ : ∃ y, y = pad 32 (pL T a5 e5 32) := ⟨_, rfl⟩
              have Hz : z.length = 32 := by rw [hy]; exact pad_len (pL_len T a5 e5 32)
              obtain ⟨a6, ha2⟩ : ∃ b, b = pA T a5 e5 32 := ⟨_, rfl⟩
              obtain ⟨e6, he2⟩ : ∃ b, b = pE T a5 e5 32 := ⟨_, rfl⟩
              have hS := HSS.out
              simp only [← hy, ← ha2, ← he2] at HC hS
              clear HSS
              have HSS : Hid _ := hS
              clear hy ha2 he2 hS
              go_wp2_with fail
              refine Calls.mono HC.out ?_
              rintro e w11 ⟨rfl, r1⟩
              have B11 : Hid _ := B10.out.call r1
              clear r1 HC B10 hc hf
              go_upto_region 37 with (refine wpList_store_part rfl 31 (.tmp 59) (.tmp 57) rfl w.heap.size 7 (bs z) rfl rfl B11.out.row (by rw [msC_len _ _ _ _ _ _ _ _ _ _ _ _ _ _ z32_len Hy, bs_len, Hz]; decide) (Try.sumSz' z Hz) (bs_one z) ?_; intro w12 b7 c7; rw [msC_puthl _ _ _ _ _ _ _ _ _ _ _ _ _ _ _ (by rw [z32_len, Hz])] at b7; have B12 : Hid _ := B11.out.chg b7 c7; clear b7 c7)
              clear B11
              go_wp2_with (first
                | (refine wpList_load_part rfl 95 (.tmp 3) rfl w.heap.size 0 (msC 11 U 0 (.slice none 0 0) (.slice none 0 0) false X z y V 0 (.slice none 0 0) (.slice none 0 0) (.slice none 0 0)) rfl B12.out.row (by simp) Try.underlying95 rfl (Try.msSz _ _ _ _ _ _ _ _ _ _ _ _ _ _ Hz Hy) ?_)
                | (refine wpList_store_part rfl 95 (.tmp 4) (.tmp 106) rfl (w.heap.size + 1) 0 (msC 11 U 0 (.slice none 0 0) (.slice none 0 0) false X z y V 0 (.slice none 0 0) (.slice none 0 0) (.slice none 0 0)) rfl rfl B12.out.res (by rw [msC_len _ _ _ _ _ _ _ _ _ _ _ _ _ _ Hz Hy, LZ]; decide) (Try.msSz _ _ _ _ _ _ _ _ _ _ _ _ _ _ Hz Hy) (msC_one _ _ _ _ _ _ _ _ _ _ _ _ _ _ rfl rfl rfl rfl rfl) ?_; intro w8 b8 c8; rw [splice_all _ _ (by rw [msC_len _ _ _ _ _ _ _ _ _ _ _ _ _ _ Hz Hy, LZ])] at b8; have RR : Hid _ := b8; have FF : Hid _ := B12.out.fin c8; clear b8 c8))
              exact bodyPost_ret (v := .agg (msC 11 U 0 (.slice none 0 0) (.slice none 0 0) false X z y V 0 (.slice none 0 0) (.slice none 0 0) (.slice none 0 0)).toArray) (results_row1 rfl _ _ (w.heap.size + 1) 95 _ _ _ rfl RR.out.eq Try.underlying95 rfl (Try.msSz _ _ _ _ _ _ _ _ _ _ _ _ _ _ Hz Hy)) rfl (by rw [HSS.out]; exact ⟨⟨(.slice none 0 0), (.slice none 0 0), (.slice none 0 0), (.slice none 0 0), (.slice none 0 0), [], rfl, ⟨Own.nil _, Own.nil _, Own.nil _, GL.nil _ _ _, CM.nil _⟩, rfl, FF.out.1, MsAp.nils _⟩⟩)
            · by_cases q12 : K = 12
              · subst q12
                have h9 := HSS.out
                rw [if_neg (by decide), if_neg (by decide), if_neg (by decide), if_neg (by decide), if_neg (by decide), if_neg (by decide), if_pos rfl] at h9
                clear HSS
                have HSS : Hid _ := h9
                clear h9
                clear q1 q2 q3 q4 q5 q11
                have HC : Hid _ := xText_any B2.out.st_.rp.1 4194304 (by decide)
                obtain ⟨L, a2, e2, hL⟩ : ∃ F b c, textS T a1 e1 4194304 = (F, b, c) := ⟨_, _, _, rfl⟩
                have hS := HSS.out
                simp only [hL] at HC hS
                clear HSS
                have HSS : Hid _ := hS
                clear hL hS
                go_wp2_with fail
                refine Calls.mono HC.out ?_
                rintro e w3 ⟨s, rfl, o1, r1, g1⟩
                have AP : Hid (∀ g, s.ownBlock = some g → w.heap.size ≤ g) := fun g hg => Nat.le_trans B2.out.st_.rp.2.size (g1 g hg)
                clear g1
                obtain ⟨xa, xc, hsf⟩ := Own.form o1
                obtain ⟨x, hn⟩ : ∃ n, n = L.length := ⟨_, rfl⟩
                rw [← hn] at hsf
                subst hsf
                have B3 : Hid _ := (B2.out.call r1).more (SX.own (by decide) _ _) o1
                clear r1 HC B2 o1 hn k0
                have hc : w3.cell? ⟨w.heap.size, 73, none⟩ = some (.slice none 0 0) := by rw [B3.out.row.cell]; exact msC_at _ _ _ _ _ _ _ _ _ _ _ _ _ _ z32_len z32_len 2
                have hf : w3.frozen? ⟨w.heap.size, 73, none⟩ = false := B3.out.row.fr 73
                have h9 := B3.out.set 73 (.slice xa x xc)
                rw [msC_setbo _ _ _ _ _ _ _ _ _ _ _ _ _ _ z32_len z32_len] at h9
                have B4 : Hid _ := h9
                clear h9
                clear B3
                go_wp2_with (first
                  | (refine wpList_load_part rfl 95 (.tmp 3) rfl w.heap.size 0 (msC 12 0 0 (.slice none 0 0) (.slice none 0 0) false 0 z32 z32 0 0 (.slice xa x xc) (.slice none 0 0) (.slice none 0 0)) rfl B4.out.row (by simp) Try.underlying95 rfl (Try.msSz _ _ _ _ _ _ _ _ _ _ _ _ _ _ z32_len z32_len) ?_)
                  | (refine wpList_store_part rfl 95 (.tmp 4) (.tmp 106) rfl (w.heap.size + 1) 0 (msC 12 0 0 (.slice none 0 0) (.slice none 0 0) false 0 z32 z32 0 0 (.slice xa x xc) (.slice none 0 0) (.slice none 0 0)) rfl rfl B4.out.res (by rw [msC_len _ _ _ _ _ _ _ _ _ _ _ _ _ _ z32_len z32_len, LZ]; decide) (Try.msSz _ _ _ _ _ _ _ _ _ _ _ _ _ _ z32_len z32_len) (msC_one _ _ _ _ _ _ _ _ _ _ _ _ _ _ rfl rfl rfl rfl rfl) ?_; intro w8 b8 c8; rw [splice_all _ _ (by rw [msC_len _ _ _ _ _ _ _ _ _ _ _ _ _ _ z32_len z32_len, LZ])] at b8; have RR : Hid _ := b8; have FF : Hid _ := B4.out.fin c8; clear b8 c8))
                exact bodyPost_ret (v := .agg (msC 12 0 0 (.slice none 0 0) (.slice none 0 0) false 0 z32 z32 0 0 (.slice xa x xc) (.slice none 0 0) (.slice none 0 0)).toArray) (results_row1 rfl _ _ (w.heap.size + 1) 95 _ _ _ rfl RR.out.eq Try.underlying95 rfl (Try.msSz _ _ _ _ _ _ _ _ _ _ _ _ _ _ z32_len z32_len)) rfl (by rw [HSS.out]; exact ⟨⟨(.slice none 0 0), (.slice none 0 0), (.slice xa x xc), (.slice none 0 0), (.slice none 0 0), [], rfl, ⟨Own.nil _, Own.nil _, FF.out.2.2, GL.nil _ _ _, CM.nil _⟩, rfl, FF.out.1, MsAp.body AP.out⟩⟩)
              · by_cases q13 : K = 13
                · subst q13
                  have h9 := HSS.out
                  rw [if_neg (by decide), if_neg (by decide), if_neg (by decide), if_neg (by decide), if_neg (by decide), if_neg (by decide), if_neg (by decide), if_pos (.inl rfl)] at h9
                  clear HSS
                  have HSS : Hid _ := h9
                  clear h9
                  clear q1 q2 q3 q4 q5 q11 q12
                  have HC : Hid _ := xUint_any B2.out.st_.rp.1 128 (by decide)
                  obtain ⟨U, a2, e2, hU⟩ : ∃ U b c, uintS T a1 e1 128 = (U, b, c) := ⟨_, _, _, rfl⟩
                  have hS := HSS.out
                  simp only [hU] at HC hS
                  clear HSS
                  have HSS : Hid _ := hS
                  have Um : U ≤ 128 := by have h9 := uintS_most T a1 e1 128; rw [hU] at h9; exact h9
                  clear hU hS
                  go_wp2_with fail
                  refine Calls.mono HC.out ?_
                  rintro e w3 ⟨rfl, r1⟩
                  have B3 : Hid _ := (B2.out.call r1).sw (J := (fun w => GL w (.slice none 0 0) 31 32 [])) (GL.nil _ _ _) (SX.gl (by decide) (by decide) _ _)
                  clear r1 HC B2 k0
                  go_wp2_with fail
                  go_loopw [6] (fun i wr => ∃ (j aj : Nat) (ej : Int) (v : Value) (L : List (List Value)), j ≤ U ∧ i = .int .u64 j ∧ Hid (BX w p tv T 95 (w.heap.size + 1) w.heap.size Z (fun w => GL w v 31 32 L) wr aj ej (msC 13 0 0 (.slice none 0 0) (.slice none 0 0) false 0 z32 z32 0 0 (.slice none 0 0) v (.slice none 0 0)) ∧ L.length = j ∧ manyE sumE T U a2 e2 = (L ++ (manyE sumE T (U - j) aj ej).1, (manyE sumE T (U - j) aj ej).2) ∧ (∀ g, v.ownBlock = some g → w.heap.size ≤ g))) (fun i _ => U - (intOf i).toNat)
                  case atStart => exact ⟨0, a2, e2, (.slice none 0 0), [], Nat.zero_le _, rfl, B3.out, rfl, by simp, nilB⟩
                  case round =>
                    obtain ⟨j, aj, ej, v, L, hj, rfl, hid⟩ := hrel
                    have XJ : Hid _ := hid.out.1
                    have HKS : Hid _ := hid.out.2.1
                    have HMS : Hid _ := hid.out.2.2.1
                    have HNV : Hid _ := hid.out.2.2.2
                    clear hid
                    by_cases hnn : ej = 0 ∧ j < U
                    · obtain ⟨he, hlt⟩ := hnn
                      subst he
                      obtain ⟨va, vc, hvf⟩ := XJ.out.inv.form
                      obtain ⟨vn, hvn⟩ : ∃ vn, vn = L.length := ⟨_, rfl⟩
                      rw [← hvn] at hvf
                      subst hvf
                      clear hvn
                      have HM : Hid _ := xMore_any XJ.out.st_.rp.1 j U
                      rw [decide_eq_true ⟨rfl, hlt⟩] at HM
                      go_upto_region 28 with (go_at_call 124; refine Calls.mono HM.out ?_; rintro e wq ⟨rfl, hwq⟩; subst hwq)
                      clear HM
                      have XD : Hid (BX w p tv T 95 (w.heap.size + 1) w.heap.size Z (fun w => GL w (.slice va vn vc) 31 32 L) wq.drew aj 0 (msC 13 0 0 (.slice none 0 0) (.slice none 0 0) false 0 z32 z32 0 0 (.slice none 0 0) (.slice va vn vc) (.slice none 0 0))) := XJ.out.drew (XJ.out.inv.fresh (drew_chg wq))
                      have QA : Hid (wq.drew.cell? ⟨w.heap.size, 74, none⟩ = some (.slice va vn vc)) := by show _ = _; rw [XD.out.row.cell]; exact msC_at _ _ _ _ _ _ _ _ _ _ _ _ _ _ z32_len z32_len 3
                      refine wp_region_held_drew (S := fun _ => True) (by kernel_rfl) trivial (fun _ => ?_)
                      refine wpAnyH_take (i := 0) (v := .pointer (some ⟨w.heap.size, 74, none⟩)) rfl (by kernel_rfl) (by kernel_rfl) (by kernel_rfl) (fun _ _ _ h => h) (Or.inl ⟨by rfl, fun w' _ => by go_simp⟩) trivial ?_
                      refine wpAnyH_take (i := 2) (v := .pointer (some ⟨p, 0, none⟩)) rfl (by kernel_rfl) (by kernel_rfl) (by kernel_rfl) (fun _ _ _ h => h) (Or.inl ⟨by rfl, fun w' _ => by go_simp⟩) trivial ?_
                      refine wpAnyH_ready (rs := [1, 3]) (by kernel_rfl) (by simp) ?_
                      refine AllReadyH.cons rfl (fun KK hKK => ?_) (AllReadyH.cons rfl (fun KK hKK => ?_) AllReadyH.nil)
                      · have q4 := QA.out
                        go_simp
                        refine hKK.out _ _ trivial (fun _ => ?_)
                        clear hKK KK q4
                        refine wpAnyH_ready (rs := [3]) (by kernel_rfl) (by simp) ?_
                        refine AllReadyH.cons rfl (fun KK hKK => ?_) AllReadyH.nil
                        go_simp
                        refine Calls.mono (xSum_any XD.out.st_.rp.1) ?_
                        rintro e w6 ⟨rfl, r6⟩
                        obtain ⟨y, hy⟩ : ∃ y, y = pad 32 (pL T aj 0 32) := ⟨_, rfl⟩
                        have Hy : y.length = 32 := by rw [hy]; exact pad_len (pL_len T aj 0 32)
                        rw [← hy]
                        obtain ⟨o, ho⟩ : ∃ o, o = bs y := ⟨_, rfl⟩
                        have LC : o.length = 32 := by rw [ho, bs_len]; exact Hy
                        have b6 := XD.out.call r6
                        obtain ⟨v7, w7, hr7, gl7, c7, b7⟩ := b6.inv.add (sl := 92) (C := o) Try.underlying92 infoS31 (by kernel_rfl) (by decide) LC (by rw [ho]; exact bs_one y) (by have := HKS.out; omega) (by have := HKS.out; omega) 92
                        obtain ⟨row6, row7, bx7⟩ := XD.out.add r6 c7 HNV.out (fun g hg => b6.inv.blk hg) (by decide) gl7 (SX.gl (by decide) (by decide) _ _)
                        have EO : sumE T aj 0 = (o, pA T aj 0 32, pE T aj 0 32) := by rw [ho, hy]; rfl
                        have hst : manyE sumE T (U - j) aj 0 = (o :: (manyE sumE T (U - (j + 1)) (pA T aj 0 32) (pE T aj 0 32)).1, (manyE sumE T (U - (j + 1)) (pA T aj 0 32) (pE T aj 0 32)).2) := by
                          rw [show U - j = (U - (j + 1)) + 1 by omega, manyE_step, EO]
                        rw [← ho]
                        obtain ⟨an, han⟩ : ∃ x, x = pA T aj 0 32 := ⟨_, rfl⟩
                        obtain ⟨en, hen⟩ : ∃ x, x = pE T aj 0 32 := ⟨_, rfl⟩
                        rw [← han, ← hen] at hst bx7
                        have bx8 : BX w p tv T 95 (w.heap.size + 1) w.heap.size Z (fun w => GL w v7 31 32 (L ++ [o])) (w7.setCell ⟨w.heap.size, 74, none⟩ v7) an en (msC 13 0 0 (.slice none 0 0) (.slice none 0 0) false 0 z32 z32 0 0 (.slice none 0 0) v7 (.slice none 0 0)) := by
                          have h9 := bx7.set 74 v7
                          rwa [msC_setpa _ _ _ _ _ _ _ _ _ _ _ _ _ _ z32_len z32_len] at h9
                        have NV7 : ∀ g, v7.ownBlock = some g → w.heap.size ≤ g := fun g hg => by
                          rcases b7 with e | ⟨q, e, hq⟩
                          · exact HNV.out g (by rw [← e]; exact hg)
                          · rw [hg] at e
                            injection e with e
                            have := b6.st_.rp.2.size
                            omega
                        obtain ⟨ya, yc, hyf⟩ := gl7.form
                        obtain ⟨ln, hln⟩ : ∃ ln, ln = (L ++ [o]).length := ⟨_, rfl⟩
                        rw [← hln] at hyf
                        subst hyf
                        obtain ⟨w8, hw8⟩ : ∃ w8, w8 = w7.setCell ⟨w.heap.size, 74, none⟩ (.slice ya ln yc) := ⟨_, rfl⟩
                        rw [← hw8] at bx8
                        have FIN : Hid (BX w p tv T 95 (w.heap.size + 1) w.heap.size Z (fun w => GL w (.slice ya ln yc) 31 32 (L ++ [o])) w8 an en (msC 13 0 0 (.slice none 0 0) (.slice none 0 0) false 0 z32 z32 0 0 (.slice none 0 0) (.slice ya ln yc) (.slice none 0 0)) ∧ (L ++ [o]).length = j + 1 ∧ manyE sumE T U a2 e2 = ((L ++ [o]) ++ (manyE sumE T (U - (j + 1)) an en).1, (manyE sumE T (U - (j + 1)) an en).2) ∧ (∀ g, (Value.slice ya ln yc).ownBlock = some g → w.heap.size ≤ g)) := by
                          refine ⟨bx8, by rw [List.length_append, HKS.out]; rfl, ?_, NV7⟩
                          rw [HMS.out, hst]
                          simp
                        have HW8 : Hid _ := hw8
                        have QB : Hid (w6.cell? ⟨w.heap.size, 74, none⟩ = some (.slice va vn vc)) := by show _ = _; rw [row6.cell]; exact msC_at _ _ _ _ _ _ _ _ _ _ _ _ _ _ z32_len z32_len 3
                        have QC : Hid ((w6.alloc (.cells (o).toArray 31)).cell? ⟨w.heap.size, 74, none⟩ = some (.slice va vn vc)) := by show _ = _; rw [(row6.alloc _).cell]; exact msC_at _ _ _ _ _ _ _ _ _ _ _ _ _ _ z32_len z32_len 3
                        have Q7 : Hid (w7.cell? ⟨w.heap.size, 74, none⟩ = some (.slice va vn vc)) := by show _ = _; rw [row7.cell]; exact msC_at _ _ _ _ _ _ _ _ _ _ _ _ _ _ z32_len z32_len 3
                        have F7 : Hid (w7.frozen? ⟨w.heap.size, 74, none⟩ = false) := row7.fr 74
                        have HR7 : Hid _ := hr7
                        clear row6 hr7 row7 hw8
                        clear hy Hy ho b6 gl7 c7 b7 bx7 bx8 NV7 hln EO hst han hen r6
                        refine hKK.out _ _ trivial (fun _ => ?_)
                        clear hKK KK
                        refine wpAnyH_ready (rs := [4]) (by kernel_rfl) (by simp) ?_
                        refine AllReadyH.cons rfl (fun KK hKK => ?_) AllReadyH.nil
                        refine step_buildP (sl := 92) Try.underlying92 infoS31 (by decide) (by decide) rfl (.tmp 79) rfl (C := o) (by kernel_rfl) LC ?_
                        refine hKK.out _ _ trivial (fun _ => ?_)
                        clear hKK KK
                        refine wpAnyH_ready (rs := [5]) (by kernel_rfl) (by simp) ?_
                        refine AllReadyH.cons rfl (fun KK hKK => ?_) AllReadyH.nil
                        refine step_appP #[92, 92] rfl (.tmp 77) (.tmp 80) rfl (v := .slice va vn vc) (u := .slice (some ⟨w6.heap.size, 0, none⟩) 1 1) (by kernel_rfl) (by kernel_rfl) HR7.out ?_
                        refine hKK.out _ _ trivial (fun _ => ?_)
                        clear hKK KK
                        refine wpAnyH_take (i := 6) (v := .pointer (some ⟨w.heap.size, 74, none⟩)) rfl (by kernel_rfl) (by kernel_rfl) (by kernel_rfl) (fun _ _ _ h => h) (Or.inl ⟨by rfl, fun w' _ => by go_simp⟩) trivial ?_
                        refine wpAnyH_ready (rs := [7]) (by kernel_rfl) (by simp) ?_
                        refine AllReadyH.cons rfl (fun KK hKK => ?_) AllReadyH.nil
                        have s7 := Q7.out
                        have f7 := F7.out
                        go_simp
                        refine hKK.out _ _ trivial (fun _ => ?_)
                        clear hKK KK s7 f7
                        refine wpAnyH_done (by kernel_rfl) ?_ _
                        rw [← HW8.out]
                        go_wp2_with fail
                        go_roundw
                        case rel => exact ⟨j + 1, _, _, _, L ++ [o], by omega, by go_num, FIN.out⟩
                        case measure => simp [intOf]; omega
                      · go_simp
                        refine Calls.mono (xSum_any XD.out.st_.rp.1) ?_
                        rintro e w6 ⟨rfl, r6⟩
                        obtain ⟨y, hy⟩ : ∃ y, y = pad 32 (pL T aj 0 32) := ⟨_, rfl⟩
                        have Hy : y.length = 32 := by rw [hy]; exact pad_len (pL_len T aj 0 32)
                        rw [← hy]
                        obtain ⟨o, ho⟩ : ∃ o, o = bs y := ⟨_, rfl⟩
                        have LC : o.length = 32 := by rw [ho, bs_len]; exact Hy
                        have b6 := XD.out.call r6
                        obtain ⟨v7, w7, hr7, gl7, c7, b7⟩ := b6.inv.add (sl := 92) (C := o) Try.underlying92 infoS31 (by kernel_rfl) (by decide) LC (by rw [ho]; exact bs_one y) (by have := HKS.out; omega) (by have := HKS.out; omega) 92
                        obtain ⟨row6, row7, bx7⟩ := XD.out.add r6 c7 HNV.out (fun g hg => b6.inv.blk hg) (by decide) gl7 (SX.gl (by decide) (by decide) _ _)
                        have EO : sumE T aj 0 = (o, pA T aj 0 32, pE T aj 0 32) := by rw [ho, hy]; rfl
                        have hst : manyE sumE T (U - j) aj 0 = (o :: (manyE sumE T (U - (j + 1)) (pA T aj 0 32) (pE T aj 0 32)).1, (manyE sumE T (U - (j + 1)) (pA T aj 0 32) (pE T aj 0 32)).2) := by
                          rw [show U - j = (U - (j + 1)) + 1 by omega, manyE_step, EO]
                        rw [← ho]
                        obtain ⟨an, han⟩ : ∃ x, x = pA T aj 0 32 := ⟨_, rfl⟩
                        obtain ⟨en, hen⟩ : ∃ x, x = pE T aj 0 32 := ⟨_, rfl⟩
                        rw [← han, ← hen] at hst bx7
                        have bx8 : BX w p tv T 95 (w.heap.size + 1) w.heap.size Z (fun w => GL w v7 31 32 (L ++ [o])) (w7.setCell ⟨w.heap.size, 74, none⟩ v7) an en (msC 13 0 0 (.slice none 0 0) (.slice none 0 0) false 0 z32 z32 0 0 (.slice none 0 0) v7 (.slice none 0 0)) := by
                          have h9 := bx7.set 74 v7
                          rwa [msC_setpa _ _ _ _ _ _ _ _ _ _ _ _ _ _ z32_len z32_len] at h9
                        have NV7 : ∀ g, v7.ownBlock = some g → w.heap.size ≤ g := fun g hg => by
                          rcases b7 with e | ⟨q, e, hq⟩
                          · exact HNV.out g (by rw [← e]; exact hg)
                          · rw [hg] at e
                            injection e with e
                            have := b6.st_.rp.2.size
                            omega
                        obtain ⟨ya, yc, hyf⟩ := gl7.form
                        obtain ⟨ln, hln⟩ : ∃ ln, ln = (L ++ [o]).length := ⟨_, rfl⟩
                        rw [← hln] at hyf
                        subst hyf
                        obtain ⟨w8, hw8⟩ : ∃ w8, w8 = w7.setCell ⟨w.heap.size, 74, none⟩ (.slice ya ln yc) := ⟨_, rfl⟩
                        rw [← hw8] at bx8
                        have FIN : Hid (BX w p tv T 95 (w.heap.size + 1) w.heap.size Z (fun w => GL w (.slice ya ln yc) 31 32 (L ++ [o])) w8 an en (msC 13 0 0 (.slice none 0 0) (.slice none 0 0) false 0 z32 z32 0 0 (.slice none 0 0) (.slice ya ln yc) (.slice none 0 0)) ∧ (L ++ [o]).length = j + 1 ∧ manyE sumE T U a2 e2 = ((L ++ [o]) ++ (manyE sumE T (U - (j + 1)) an en).1, (manyE sumE T (U - (j + 1)) an en).2) ∧ (∀ g, (Value.slice ya ln yc).ownBlock = some g → w.heap.size ≤ g)) := by
                          refine ⟨bx8, by rw [List.length_append, HKS.out]; rfl, ?_, NV7⟩
                          rw [HMS.out, hst]
                          simp
                        have HW8 : Hid _ := hw8
                        have QB : Hid (w6.cell? ⟨w.heap.size, 74, none⟩ = some (.slice va vn vc)) := by show _ = _; rw [row6.cell]; exact msC_at _ _ _ _ _ _ _ _ _ _ _ _ _ _ z32_len z32_len 3
                        have QC : Hid ((w6.alloc (.cells (o).toArray 31)).cell? ⟨w.heap.size, 74, none⟩ = some (.slice va vn vc)) := by show _ = _; rw [(row6.alloc _).cell]; exact msC_at _ _ _ _ _ _ _ _ _ _ _ _ _ _ z32_len z32_len 3
                        have Q7 : Hid (w7.cell? ⟨w.heap.size, 74, none⟩ = some (.slice va vn vc)) := by show _ = _; rw [row7.cell]; exact msC_at _ _ _ _ _ _ _ _ _ _ _ _ _ _ z32_len z32_len 3
                        have F7 : Hid (w7.frozen? ⟨w.heap.size, 74, none⟩ = false) := row7.fr 74
                        have HR7 : Hid _ := hr7
                        clear row6 hr7 row7 hw8
                        clear hy Hy ho b6 gl7 c7 b7 bx7 bx8 NV7 hln EO hst han hen r6
                        refine hKK.out _ _ trivial (fun _ => ?_)
                        clear hKK KK
                        refine wpAnyH_ready (rs := [1, 4]) (by kernel_rfl) (by simp) ?_
                        refine AllReadyH.cons rfl (fun KK hKK => ?_) (AllReadyH.cons rfl (fun KK hKK => ?_) AllReadyH.nil)
                        · have q4 := QB.out
                          go_simp
                          refine hKK.out _ _ trivial (fun _ => ?_)
                          clear hKK KK q4
                          refine wpAnyH_ready (rs := [4]) (by kernel_rfl) (by simp) ?_
                          refine AllReadyH.cons rfl (fun KK hKK => ?_) AllReadyH.nil
                          refine step_buildP (sl := 92) Try.underlying92 infoS31 (by decide) (by decide) rfl (.tmp 79) rfl (C := o) (by kernel_rfl) LC ?_
                          refine hKK.out _ _ trivial (fun _ => ?_)
                          clear hKK KK
                          refine wpAnyH_ready (rs := [5]) (by kernel_rfl) (by simp) ?_
                          refine AllReadyH.cons rfl (fun KK hKK => ?_) AllReadyH.nil
                          refine step_appP #[92, 92] rfl (.tmp 77) (.tmp 80) rfl (v := .slice va vn vc) (u := .slice (some ⟨w6.heap.size, 0, none⟩) 1 1) (by kernel_rfl) (by kernel_rfl) HR7.out ?_
                          refine hKK.out _ _ trivial (fun _ => ?_)
                          clear hKK KK
                          refine wpAnyH_take (i := 6) (v := .pointer (some ⟨w.heap.size, 74, none⟩)) rfl (by kernel_rfl) (by kernel_rfl) (by kernel_rfl) (fun _ _ _ h => h) (Or.inl ⟨by rfl, fun w' _ => by go_simp⟩) trivial ?_
                          refine wpAnyH_ready (rs := [7]) (by kernel_rfl) (by simp) ?_
                          refine AllReadyH.cons rfl (fun KK hKK => ?_) AllReadyH.nil
                          have s7 := Q7.out
                          have f7 := F7.out
                          go_simp
                          refine hKK.out _ _ trivial (fun _ => ?_)
                          clear hKK KK s7 f7
                          refine wpAnyH_done (by kernel_rfl) ?_ _
                          rw [← HW8.out]
                          go_wp2_with fail
                          go_roundw
                          case rel => exact ⟨j + 1, _, _, _, L ++ [o], by omega, by go_num, FIN.out⟩
                          case measure => simp [intOf]; omega
                        · refine step_buildP (sl := 92) Try.underlying92 infoS31 (by decide) (by decide) rfl (.tmp 79) rfl (C := o) (by kernel_rfl) LC ?_
                          refine hKK.out _ _ trivial (fun _ => ?_)
                          clear hKK KK
                          refine wpAnyH_ready (rs := [1]) (by kernel_rfl) (by simp) ?_
                          refine AllReadyH.cons rfl (fun KK hKK => ?_) AllReadyH.nil
                          have q4 := QC.out
                          go_simp
                          refine hKK.out _ _ trivial (fun _ => ?_)
                          clear hKK KK q4
                          refine wpAnyH_ready (rs := [5]) (by kernel_rfl) (by simp) ?_
                          refine AllReadyH.cons rfl (fun KK hKK => ?_) AllReadyH.nil
                          refine step_appP #[92, 92] rfl (.tmp 77) (.tmp 80) rfl (v := .slice va vn vc) (u := .slice (some ⟨w6.heap.size, 0, none⟩) 1 1) (by kernel_rfl) (by kernel_rfl) HR7.out ?_
                          refine hKK.out _ _ trivial (fun _ => ?_)
                          clear hKK KK
                          refine wpAnyH_take (i := 6) (v := .pointer (some ⟨w.heap.size, 74, none⟩)) rfl (by kernel_rfl) (by kernel_rfl) (by kernel_rfl) (fun _ _ _ h => h) (Or.inl ⟨by rfl, fun w' _ => by go_simp⟩) trivial ?_
                          refine wpAnyH_ready (rs := [7]) (by kernel_rfl) (by simp) ?_
                          refine AllReadyH.cons rfl (fun KK hKK => ?_) AllReadyH.nil
                          have s7 := Q7.out
                          have f7 := F7.out
                          go_simp
                          refine hKK.out _ _ trivial (fun _ => ?_)
                          clear hKK KK s7 f7
                          refine wpAnyH_done (by kernel_rfl) ?_ _
                          rw [← HW8.out]
                          go_wp2_with fail
                          go_roundw
                          case rel => exact ⟨j + 1, _, _, _, L ++ [o], by omega, by go_num, FIN.out⟩
                          case measure => simp [intOf]; omega
                    · obtain ⟨va, vc, hvf⟩ := XJ.out.inv.form
                      obtain ⟨vn, hvn⟩ : ∃ vn, vn = L.length := ⟨_, rfl⟩
                      rw [← hvn] at hvf
                      subst hvf
                      clear hvn
                      have HM : Hid _ := xMore_any XJ.out.st_.rp.1 j U
                      rw [decide_eq_false hnn] at HM
                      have FE : manyE sumE T U a2 e2 = (L, aj, ej) := by
                        rw [HMS.out]
                        rcases Classical.em (ej = 0) with h0 | h0
                        · have hj9 : U - j = 0 := by
                            rcases Nat.lt_or_ge j U with h1 | h1
                            · exact absurd ⟨h0, h1⟩ hnn
                            · omega
                          rw [hj9]
                          simp [manyE]
                        · rw [manyE_err h0]
                          simp
                      have h9 := HSS.out
                      rw [FE] at h9
                      have HS9 : Hid _ := h9
                      clear h9 FE HSS
                      go_upto_region 37 with (go_at_call 124; refine Calls.mono HM.out ?_; rintro e wq ⟨rfl, hwq⟩; subst hwq)
                      clear HM
                      go_wp2_with (first
                        | (refine wpList_load_part rfl 95 (.tmp 3) rfl w.heap.size 0 (msC 13 0 0 (.slice none 0 0) (.slice none 0 0) false 0 z32 z32 0 0 (.slice none 0 0) (.slice va vn vc) (.slice none 0 0)) rfl XJ.out.row (by simp) Try.underlying95 rfl (Try.msSz _ _ _ _ _ _ _ _ _ _ _ _ _ _ z32_len z32_len) ?_)
                        | (refine wpList_store_part rfl 95 (.tmp 4) (.tmp 106) rfl (w.heap.size + 1) 0 (msC 13 0 0 (.slice none 0 0) (.slice none 0 0) false 0 z32 z32 0 0 (.slice none 0 0) (.slice va vn vc) (.slice none 0 0)) rfl rfl XJ.out.res (by rw [msC_len _ _ _ _ _ _ _ _ _ _ _ _ _ _ z32_len z32_len, LZ]; decide) (Try.msSz _ _ _ _ _ _ _ _ _ _ _ _ _ _ z32_len z32_len) (msC_one _ _ _ _ _ _ _ _ _ _ _ _ _ _ rfl rfl rfl rfl rfl) ?_; intro w8 b8 c8; rw [splice_all _ _ (by rw [msC_len _ _ _ _ _ _ _ _ _ _ _ _ _ _ z32_len z32_len, LZ])] at b8; have RR : Hid _ := b8; have FF : Hid _ := XJ.out.fin c8; clear b8 c8))
                      exact bodyPost_ret (v := .agg (msC 13 0 0 (.slice none 0 0) (.slice none 0 0) false 0 z32 z32 0 0 (.slice none 0 0) (.slice va vn vc) (.slice none 0 0)).toArray) (results_row1 rfl _ _ (w.heap.size + 1) 95 _ _ _ rfl RR.out.eq Try.underlying95 rfl (Try.msSz _ _ _ _ _ _ _ _ _ _ _ _ _ _ z32_len z32_len)) rfl (by rw [HS9.out]; exact ⟨⟨(.slice none 0 0), (.slice none 0 0), (.slice none 0 0), (.slice va vn vc), (.slice none 0 0), [], rfl, ⟨Own.nil _, Own.nil _, Own.nil _, FF.out.2, CM.nil _⟩, rfl, FF.out.1, MsAp.path HNV.out⟩⟩)
                · by_cases q14 : K = 14
                  · subst q14
                    have h9 := HSS.out
                    rw [if_neg (by decide), if_neg (by decide), if_neg (by decide), if_neg (by decide), if_neg (by decide), if_neg (by decide), if_neg (by decide), if_pos (.inr rfl)] at h9
                    clear HSS
                    have HSS : Hid _ := h9
                    clear h9
                    clear q1 q2 q3 q4 q5 q11 q12 q13
                    have HC : Hid _ := xUint_any B2.out.st_.rp.1 128 (by decide)
                    obtain ⟨U, a2, e2, hU⟩ : ∃ U b c, uintS T a1 e1 128 = (U, b, c) := ⟨_, _, _, rfl⟩
                    have hS := HSS.out
                    simp only [hU] at HC hS
                    clear HSS
                    have HSS : Hid _ := hS
                    have Um : U ≤ 128 := by have h9 := uintS_most T a1 e1 128; rw [hU] at h9; exact h9
                    clear hU hS
                    go_wp2_with fail
                    refine Calls.mono HC.out ?_
                    rintro e w3 ⟨rfl, r1⟩
                    have B3 : Hid _ := (B2.out.call r1).sw (J := (fun w => GL w (.slice none 0 0) 31 32 [])) (GL.nil _ _ _) (SX.gl (by decide) (by decide) _ _)
                    clear r1 HC B2 k0
                    go_wp2_with fail
                    go_loopw [6] (fun i wr => ∃ (j aj : Nat) (ej : Int) (v : Value) (L : List (List Value)), j ≤ U ∧ i = .int .u64 j ∧ Hid (BX w p tv T 95 (w.heap.size + 1) w.heap.size Z (fun w => GL w v 31 32 L) wr aj ej (msC 14 0 0 (.slice none 0 0) (.slice none 0 0) false 0 z32 z32 0 0 (.slice none 0 0) v (.slice none 0 0)) ∧ L.length = j ∧ manyE sumE T U a2 e2 = (L ++ (manyE sumE T (U - j) aj ej).1, (manyE sumE T (U - j) aj ej).2) ∧ (∀ g, v.ownBlock = some g → w.heap.size ≤ g))) (fun i _ => U - (intOf i).toNat)
                    case atStart => exact ⟨0, a2, e2, (.slice none 0 0), [], Nat.zero_le _, rfl, B3.out, rfl, by simp, nilB⟩
                    case round =>
                      obtain ⟨j, aj, ej, v, L, hj, rfl, hid⟩ := hrel
                      have XJ : Hid _ := hid.out.1
                      have HKS : Hid _ := hid.out.2.1
                      have HMS : Hid _ := hid.out.2.2.1
                      have HNV : Hid _ := hid.out.2.2.2
                      clear hid
                      by_cases hnn : ej = 0 ∧ j < U
                      · obtain ⟨he, hlt⟩ := hnn
                        subst he
                        obtain ⟨va, vc, hvf⟩ := XJ.out.inv.form
                        obtain ⟨vn, hvn⟩ : ∃ vn, vn = L.length := ⟨_, rfl⟩
                        rw [← hvn] at hvf
                        subst hvf
                        clear hvn
                        have HM : Hid _ := xMore_any XJ.out.st_.rp.1 j U
                        rw [decide_eq_true ⟨rfl, hlt⟩] at HM
                        go_upto_region 28 with (go_at_call 124; refine Calls.mono HM.out ?_; rintro e wq ⟨rfl, hwq⟩; subst hwq)
                        clear HM
                        have XD : Hid (BX w p tv T 95 (w.heap.size + 1) w.heap.size Z (fun w => GL w (.slice va vn vc) 31 32 L) wq.drew aj 0 (msC 14 0 0 (.slice none 0 0) (.slice none 0 0) false 0 z32 z32 0 0 (.slice none 0 0) (.slice va vn vc) (.slice none 0 0))) := XJ.out.drew (XJ.out.inv.fresh (drew_chg wq))
                        have QA : Hid (wq.drew.cell? ⟨w.heap.size, 74, none⟩ = some (.slice va vn vc)) := by show _ = _; rw [XD.out.row.cell]; exact msC_at _ _ _ _ _ _ _ _ _ _ _ _ _ _ z32_len z32_len 3
                        refine wp_region_held_drew (S := fun _ => True) (by kernel_rfl) trivial (fun _ => ?_)
                        refine wpAnyH_take (i := 0) (v := .pointer (some ⟨w.heap.size, 74, none⟩)) rfl (by kernel_rfl) (by kernel_rfl) (by kernel_rfl) (fun _ _ _ h => h) (Or.inl ⟨by rfl, fun w' _ => by go_simp⟩) trivial ?_
                        refine wpAnyH_take (i := 2) (v := .pointer (some ⟨p, 0, none⟩)) rfl (by kernel_rfl) (by kernel_rfl) (by kernel_rfl) (fun _ _ _ h => h) (Or.inl ⟨by rfl, fun w' _ => by go_simp⟩) trivial ?_
                        refine wpAnyH_ready (rs := [1, 3]) (by kernel_rfl) (by simp) ?_
                        refine AllReadyH.cons rfl (fun KK hKK => ?_) (AllReadyH.cons rfl (fun KK hKK => ?_) AllReadyH.nil)
                        · have q4 := QA.out
                          go_simp
                          refine hKK.out _ _ trivial (fun _ => ?_)
                          clear hKK KK q4
                          refine wpAnyH_ready (rs := [3]) (by kernel_rfl) (by simp) ?_
                          refine AllReadyH.cons rfl (fun KK hKK => ?_) AllReadyH.nil
                          go_simp
                          refine Calls.mono (xSum_any XD.out.st_.rp.1) ?_
                          rintro e w6 ⟨rfl, r6⟩
                          obtain ⟨y, hy⟩ : ∃ y, y = pad 32 (pL T aj 0 32) := ⟨_, rfl⟩
                          have Hy : y.length = 32 := by rw [hy]; exact pad_len (pL_len T aj 0 32)
                          rw [← hy]
                          obtain ⟨o, ho⟩ : ∃ o, o = bs y := ⟨_, rfl⟩
                          have LC : o.length = 32 := by rw [ho, bs_len]; exact Hy
                          have b6 := XD.out.call r6
                          obtain ⟨v7, w7, hr7, gl7, c7, b7⟩ := b6.inv.add (sl := 92) (C := o) Try.underlying92 infoS31 (by kernel_rfl) (by decide) LC (by rw [ho]; exact bs_one y) (by have := HKS.out; omega) (by have := HKS.out; omega) 92
                          obtain ⟨row6, row7, bx7⟩ := XD.out.add r6 c7 HNV.out (fun g hg => b6.inv.blk hg) (by decide) gl7 (SX.gl (by decide) (by decide) _ _)
                          have EO : sumE T aj 0 = (o, pA T aj 0 32, pE T aj 0 32) := by rw [ho, hy]; rfl
                          have hst : manyE sumE T (U - j) aj 0 = (o :: (manyE sumE T (U - (j + 1)) (pA T aj 0 32) (pE T aj 0 32)).1, (manyE sumE T (U - (j + 1)) (pA T aj 0 32) (pE T aj 0 32)).2) := by
                            rw [show U - j = (U - (j + 1)) + 1 by omega, manyE_step, EO]
                          rw [← ho]
                          obtain ⟨an, han⟩ : ∃ x, x = pA T aj 0 32 := ⟨_, rfl⟩
                          obtain ⟨en, hen⟩ : ∃ x, x = pE T aj 0 32 := ⟨_, rfl⟩
                          rw [← han, ← hen] at hst bx7
                          have bx8 : BX w p tv T 95 (w.heap.size + 1) w.heap.size Z (fun w => GL w v7 31 32 (L ++ [o])) (w7.setCell ⟨w.heap.size, 74, none⟩ v7) an en (msC 14 0 0 (.slice none 0 0) (.slice none 0 0) false 0 z32 z32 0 0 (.slice none 0 0) v7 (.slice none 0 0)) := by
                            have h9 := bx7.set 74 v7
                            rwa [msC_setpa _ _ _ _ _ _ _ _ _ _ _ _ _ _ z32_len z32_len] at h9
                          have NV7 : ∀ g, v7.ownBlock = some g → w.heap.size ≤ g := fun g hg => by
                            rcases b7 with e | ⟨q, e, hq⟩
                            · exact HNV.out g (by rw [← e]; exact hg)
                            · rw [hg] at e
                              injection e with e
                              have := b6.st_.rp.2.size
                              omega
                          obtain ⟨ya, yc, hyf⟩ := gl7.form
                          obtain ⟨ln, hln⟩ : ∃ ln, ln = (L ++ [o]).length := ⟨_, rfl⟩
                          rw [← hln] at hyf
                          subst hyf
                          obtain ⟨w8, hw8⟩ : ∃ w8, w8 = w7.setCell ⟨w.heap.size, 74, none⟩ (.slice ya ln yc) := ⟨_, rfl⟩
                          rw [← hw8] at bx8
                          have FIN : Hid (BX w p tv T 95 (w.heap.size + 1) w.heap.size Z (fun w => GL w (.slice ya ln yc) 31 32 (L ++ [o])) w8 an en (msC 14 0 0 (.slice none 0 0) (.slice none 0 0) false 0 z32 z32 0 0 (.slice none 0 0) (.slice ya ln yc) (.slice none 0 0)) ∧ (L ++ [o]).length = j + 1 ∧ manyE sumE T U a2 e2 = ((L ++ [o]) ++ (manyE sumE T (U - (j + 1)) an en).1, (manyE sumE T (U - (j + 1)) an en).2) ∧ (∀ g, (Value.slice ya ln yc).ownBlock = some g → w.heap.size ≤ g)) := by
                            refine ⟨bx8, by rw [List.length_append, HKS.out]; rfl, ?_, NV7⟩
                            rw [HMS.out, hst]
                            simp
                          have HW8 : Hid _ := hw8
                          have QB : Hid (w6.cell? ⟨w.heap.size, 74, none⟩ = some (.slice va vn vc)) := by show _ = _; rw [row6.cell]; exact msC_at _ _ _ _ _ _ _ _ _ _ _ _ _ _ z32_len z32_len 3
                          have QC : Hid ((w6.alloc (.cells (o).toArray 31)).cell? ⟨w.heap.size, 74, none⟩ = some (.slice va vn vc)) := by show _ = _; rw [(row6.alloc _).cell]; exact msC_at _ _ _ _ _ _ _ _ _ _ _ _ _ _ z32_len z32_len 3
                          have Q7 : Hid (w7.cell? ⟨w.heap.size, 74, none⟩ = some (.slice va vn vc)) := by show _ = _; rw [row7.cell]; exact msC_at _ _ _ _ _ _ _ _ _ _ _ _ _ _ z32_len z32_len 3
                          have F7 : Hid (w7.frozen? ⟨w.heap.size, 74, none⟩ = false) := row7.fr 74
                          have HR7 : Hid _ := hr7
                          clear row6 hr7 row7 hw8
                          clear hy Hy ho b6 gl7 c7 b7 bx7 bx8 NV7 hln EO hst han hen r6
                          refine hKK.out _ _ trivial (fun _ => ?_)
                          clear hKK KK
                          refine wpAnyH_ready (rs := [4]) (by kernel_rfl) (by simp) ?_
                          refine AllReadyH.cons rfl (fun KK hKK => ?_) AllReadyH.nil
                          refine step_buildP (sl := 92) Try.underlying92 infoS31 (by decide) (by decide) rfl (.tmp 79) rfl (C := o) (by kernel_rfl) LC ?_
                          refine hKK.out _ _ trivial (fun _ => ?_)
                          clear hKK KK
                          refine wpAnyH_ready (rs := [5]) (by kernel_rfl) (by simp) ?_
                          refine AllReadyH.cons rfl (fun KK hKK => ?_) AllReadyH.nil
                          refine step_appP #[92, 92] rfl (.tmp 77) (.tmp 80) rfl (v := .slice va vn vc) (u := .slice (some ⟨w6.heap.size, 0, none⟩) 1 1) (by kernel_rfl) (by kernel_rfl) HR7.out ?_
                          refine hKK.out _ _ trivial (fun _ => ?_)
                          clear hKK KK
                          refine wpAnyH_take (i := 6) (v := .pointer (some ⟨w.heap.size, 74, none⟩)) rfl (by kernel_rfl) (by kernel_rfl) (by kernel_rfl) (fun _ _ _ h => h) (Or.inl ⟨by rfl, fun w' _ => by go_simp⟩) trivial ?_
                          refine wpAnyH_ready (rs := [7]) (by kernel_rfl) (by simp) ?_
                          refine AllReadyH.cons rfl (fun KK hKK => ?_) AllReadyH.nil
                          have s7 := Q7.out
                          have f7 := F7.out
                          go_simp
                          refine hKK.out _ _ trivial (fun _ => ?_)
                          clear hKK KK s7 f7
                          refine wpAnyH_done (by kernel_rfl) ?_ _
                          rw [← HW8.out]
                          go_wp2_with fail
                          go_roundw
                          case rel => exact ⟨j + 1, _, _, _, L ++ [o], by omega, by go_num, FIN.out⟩
                          case measure => simp [intOf]; omega
                        · go_simp
                          refine Calls.mono (xSum_any XD.out.st_.rp.1) ?_
                          rintro e w6 ⟨rfl, r6⟩
                          obtain ⟨y, hy⟩ : ∃ y, y = pad 32 (pL T aj 0 32) := ⟨_, rfl⟩
                          have Hy : y.length = 32 := by rw [hy]; exact pad_len (pL_len T aj 0 32)
                          rw [← hy]
                          obtain ⟨o, ho⟩ : ∃ o, o = bs y := ⟨_, rfl⟩
                          have LC : o.length = 32 := by rw [ho, bs_len]; exact Hy
                          have b6 := XD.out.call r6
                          obtain ⟨v7, w7, hr7, gl7, c7, b7⟩ := b6.inv.add (sl := 92) (C := o) Try.underlying92 infoS31 (by kernel_rfl) (by decide) LC (by rw [ho]; exact bs_one y) (by have := HKS.out; omega) (by have := HKS.out; omega) 92
                          obtain ⟨row6, row7, bx7⟩ := XD.out.add r6 c7 HNV.out (fun g hg => b6.inv.blk hg) (by decide) gl7 (SX.gl (by decide) (by decide) _ _)
                          have EO : sumE T aj 0 = (o, pA T aj 0 32, pE T aj 0 32) := by rw [ho, hy]; rfl
                          have hst : manyE sumE T (U - j) aj 0 = (o :: (manyE sumE T (U - (j + 1)) (pA T aj 0 32) (pE T aj 0 32)).1, (manyE sumE T (U - (j + 1)) (pA T aj 0 32) (pE T aj 0 32)).2) := by
                            rw [show U - j = (U - (j + 1)) + 1 by omega, manyE_step, EO]
                          rw [← ho]
                          obtain ⟨an, han⟩ : ∃ x, x = pA T aj 0 32 := ⟨_, rfl⟩
                          obtain ⟨en, hen⟩ : ∃ x, x = pE T aj 0 32 := ⟨_, rfl⟩
                          rw [← han, ← hen] at hst bx7
                          have bx8 : BX w p tv T 95 (w.heap.size + 1) w.heap.size Z (fun w => GL w v7 31 32 (L ++ [o])) (w7.setCell ⟨w.heap.size, 74, none⟩ v7) an en (msC 14 0 0 (.slice none 0 0) (.slice none 0 0) false 0 z32 z32 0 0 (.slice none 0 0) v7 (.slice none 0 0)) := by
                            have h9 := bx7.set 74 v7
                            rwa [msC_setpa _ _ _ _ _ _ _ _ _ _ _ _ _ _ z32_len z32_len] at h9
                          have NV7 : ∀ g, v7.ownBlock = some g → w.heap.size ≤ g := fun g hg => by
                            rcases b7 with e | ⟨q, e, hq⟩
                            · exact HNV.out g (by rw [← e]; exact hg)
                            · rw [hg] at e
                              injection e with e
                              have := b6.st_.rp.2.size
                              omega
                          obtain ⟨ya, yc, hyf⟩ := gl7.form
                          obtain ⟨ln, hln⟩ : ∃ ln, ln = (L ++ [o]).length := ⟨_, rfl⟩
                          rw [← hln] at hyf
                          subst hyf
                          obtain ⟨w8, hw8⟩ : ∃ w8, w8 = w7.setCell ⟨w.heap.size, 74, none⟩ (.slice ya ln yc) := ⟨_, rfl⟩
                          rw [← hw8] at bx8
                          have FIN : Hid (BX w p tv T 95 (w.heap.size + 1) w.heap.size Z (fun w => GL w (.slice ya ln yc) 31 32 (L ++ [o])) w8 an en (msC 14 0 0 (.slice none 0 0) (.slice none 0 0) false 0 z32 z32 0 0 (.slice none 0 0) (.slice ya ln yc) (.slice none 0 0)) ∧ (L ++ [o]).length = j + 1 ∧ manyE sumE T U a2 e2 = ((L ++ [o]) ++ (manyE sumE T (U - (j + 1)) an en).1, (manyE sumE T (U - (j + 1)) an en).2) ∧ (∀ g, (Value.slice ya ln yc).ownBlock = some g → w.heap.size ≤ g)) := by
                            refine ⟨bx8, by rw [List.length_append, HKS.out]; rfl, ?_, NV7⟩
                            rw [HMS.out, hst]
                            simp
                          have HW8 : Hid _ := hw8
                          have QB : Hid (w6.cell? ⟨w.heap.size, 74, none⟩ = some (.slice va vn vc)) := by show _ = _; rw [row6.cell]; exact msC_at _ _ _ _ _ _ _ _ _ _ _ _ _ _ z32_len z32_len 3
                          have QC : Hid ((w6.alloc (.cells (o).toArray 31)).cell? ⟨w.heap.size, 74, none⟩ = some (.slice va vn vc)) := by show _ = _; rw [(row6.alloc _).cell]; exact msC_at _ _ _ _ _ _ _ _ _ _ _ _ _ _ z32_len z32_len 3
                          have Q7 : Hid (w7.cell? ⟨w.heap.size, 74, none⟩ = some (.slice va vn vc)) := by show _ = _; rw [row7.cell]; exact msC_at _ _ _ _ _ _ _ _ _ _ _ _ _ _ z32_len z32_len 3
                          have F7 : Hid (w7.frozen? ⟨w.heap.size, 74, none⟩ = false) := row7.fr 74
                          have HR7 : Hid _ := hr7
                          clear row6 hr7 row7 hw8
                          clear hy Hy ho b6 gl7 c7 b7 bx7 bx8 NV7 hln EO hst han hen r6
                          refine hKK.out _ _ trivial (fun _ => ?_)
                          clear hKK KK
                          refine wpAnyH_ready (rs := [1, 4]) (by kernel_rfl) (by simp) ?_
                          refine AllReadyH.cons rfl (fun KK hKK => ?_) (AllReadyH.cons rfl (fun KK hKK => ?_) AllReadyH.nil)
                          · have q4 := QB.out
                            go_simp
                            refine hKK.out _ _ trivial (fun _ => ?_)
                            clear hKK KK q4
                            refine wpAnyH_ready (rs := [4]) (by kernel_rfl) (by simp) ?_
                            refine AllReadyH.cons rfl (fun KK hKK => ?_) AllReadyH.nil
                            refine step_buildP (sl := 92) Try.underlying92 infoS31 (by decide) (by decide) rfl (.tmp 79) rfl (C := o) (by kernel_rfl) LC ?_
                            refine hKK.out _ _ trivial (fun _ => ?_)
                            clear hKK KK
                            refine wpAnyH_ready (rs := [5]) (by kernel_rfl) (by simp) ?_
                            refine AllReadyH.cons rfl (fun KK hKK => ?_) AllReadyH.nil
                            refine step_appP #[92, 92] rfl (.tmp 77) (.tmp 80) rfl (v := .slice va vn vc) (u := .slice (some ⟨w6.heap.size, 0, none⟩) 1 1) (by kernel_rfl) (by kernel_rfl) HR7.out ?_
                            refine hKK.out _ _ trivial (fun _ => ?_)
                            clear hKK KK
                            refine wpAnyH_take (i := 6) (v := .pointer (some ⟨w.heap.size, 74, none⟩)) rfl (by kernel_rfl) (by kernel_rfl) (by kernel_rfl) (fun _ _ _ h => h) (Or.inl ⟨by rfl, fun w' _ => by go_simp⟩) trivial ?_
                            refine wpAnyH_ready (rs := [7]) (by kernel_rfl) (by simp) ?_
                            refine AllReadyH.cons rfl (fun KK hKK => ?_) AllReadyH.nil
                            have s7 := Q7.out
                            have f7 := F7.out
                            go_simp
                            refine hKK.out _ _ trivial (fun _ => ?_)
                            clear hKK KK s7 f7
                            refine wpAnyH_done (by kernel_rfl) ?_ _
                            rw [← HW8.out]
                            go_wp2_with fail
                            go_roundw
                            case rel => exact ⟨j + 1, _, _, _, L ++ [o], by omega, by go_num, FIN.out⟩
                            case measure => simp [intOf]; omega
                          · refine step_buildP (sl := 92) Try.underlying92 infoS31 (by decide) (by decide) rfl (.tmp 79) rfl (C := o) (by kernel_rfl) LC ?_
                            refine hKK.out _ _ trivial (fun _ => ?_)
                            clear hKK KK
                            refine wpAnyH_ready (rs := [1]) (by kernel_rfl) (by simp) ?_
                            refine AllReadyH.cons rfl (fun KK hKK => ?_) AllReadyH.nil
                            have q4 := QC.out
                            go_simp
                            refine hKK.out _ _ trivial (fun _ => ?_)
                            clear hKK KK q4
                            refine wpAnyH_ready (rs := [5]) (by kernel_rfl) (by simp) ?_
                            refine AllReadyH.cons rfl (fun KK hKK => ?_) AllReadyH.nil
                            refine step_appP #[92, 92] rfl (.tmp 77) (.tmp 80) rfl (v := .slice va vn vc) (u := .slice (some ⟨w6.heap.size, 0, none⟩) 1 1) (by kernel_rfl) (by kernel_rfl) HR7.out ?_
                            refine hKK.out _ _ trivial (fun _ => ?_)
                            clear hKK KK
                            refine wpAnyH_take (i := 6) (v := .pointer (some ⟨w.heap.size, 74, none⟩)) rfl (by kernel_rfl) (by kernel_rfl) (by kernel_rfl) (fun _ _ _ h => h) (Or.inl ⟨by rfl, fun w' _ => by go_simp⟩) trivial ?_
                            refine wpAnyH_ready (rs := [7]) (by kernel_rfl) (by simp) ?_
                            refine AllReadyH.cons rfl (fun KK hKK => ?_) AllReadyH.nil
                            have s7 := Q7.out
                            have f7 := F7.out
                            go_simp
                            refine hKK.out _ _ trivial (fun _ => ?_)
                            clear hKK KK s7 f7
                            refine wpAnyH_done (by kernel_rfl) ?_ _
                            rw [← HW8.out]
                            go_wp2_with fail
                            go_roundw
                            case rel => exact ⟨j + 1, _, _, _, L ++ [o], by omega, by go_num, FIN.out⟩
                            case measure => simp [intOf]; omega
                      · obtain ⟨va, vc, hvf⟩ := XJ.out.inv.form
                        obtain ⟨vn, hvn⟩ : ∃ vn, vn = L.length := ⟨_, rfl⟩
                        rw [← hvn] at hvf
                        subst hvf
                        clear hvn
                        have HM : Hid _ := xMore_any XJ.out.st_.rp.1 j U
                        rw [decide_eq_false hnn] at HM
                        have FE : manyE sumE T U a2 e2 = (L, aj, ej) := by
                          rw [HMS.out]
                          rcases Classical.em (ej = 0) with h0 | h0
                          · have hj9 : U - j = 0 := by
                              rcases Nat.lt_or_ge j U with h1 | h1
                              · exact absurd ⟨h0, h1⟩ hnn
                              · omega
                            rw [hj9]
                            simp [manyE]
                          · rw [manyE_err h0]
                            simp
                        have h9 := HSS.out
                        rw [FE] at h9
                        have HS9 : Hid _ := h9
                        clear h9 FE HSS
                        go_upto_region 37 with (go_at_call 124; refine Calls.mono HM.out ?_; rintro e wq ⟨rfl, hwq⟩; subst hwq)
                        clear HM
                        go_wp2_with (first
                          | (refine wpList_load_part rfl 95 (.tmp 3) rfl w.heap.size 0 (msC 14 0 0 (.slice none 0 0) (.slice none 0 0) false 0 z32 z32 0 0 (.slice none 0 0) (.slice va vn vc) (.slice none 0 0)) rfl XJ.out.row (by simp) Try.underlying95 rfl (Try.msSz _ _ _ _ _ _ _ _ _ _ _ _ _ _ z32_len z32_len) ?_)
                          | (refine wpList_store_part rfl 95 (.tmp 4) (.tmp 106) rfl (w.heap.size + 1) 0 (msC 14 0 0 (.slice none 0 0) (.slice none 0 0) false 0 z32 z32 0 0 (.slice none 0 0) (.slice va vn vc) (.slice none 0 0)) rfl rfl XJ.out.res (by rw [msC_len _ _ _ _ _ _ _ _ _ _ _ _ _ _ z32_len z32_len, LZ]; decide) (Try.msSz _ _ _ _ _ _ _ _ _ _ _ _ _ _ z32_len z32_len) (msC_one _ _ _ _ _ _ _ _ _ _ _ _ _ _ rfl rfl rfl rfl rfl) ?_; intro w8 b8 c8; rw [splice_all _ _ (by rw [msC_len _ _ _ _ _ _ _ _ _ _ _ _ _ _ z32_len z32_len, LZ])] at b8; have RR : Hid _ := b8; have FF : Hid _ := XJ.out.fin c8; clear b8 c8))
                        exact bodyPost_ret (v := .agg (msC 14 0 0 (.slice none 0 0) (.slice none 0 0) false 0 z32 z32 0 0 (.slice none 0 0) (.slice va vn vc) (.slice none 0 0)).toArray) (results_row1 rfl _ _ (w.heap.size + 1) 95 _ _ _ rfl RR.out.eq Try.underlying95 rfl (Try.msSz _ _ _ _ _ _ _ _ _ _ _ _ _ _ z32_len z32_len)) rfl (by rw [HS9.out]; exact ⟨⟨(.slice none 0 0), (.slice none 0 0), (.slice none 0 0), (.slice va vn vc), (.slice none 0 0), [], rfl, ⟨Own.nil _, Own.nil _, Own.nil _, FF.out.2, CM.nil _⟩, rfl, FF.out.1, MsAp.path HNV.out⟩⟩)
                  · by_cases q15 : K = 15
                    · subst q15
                      have h9 := HSS.out
                      rw [if_neg (by decide), if_neg (by decide), if_neg (by decide), if_neg (by decide), if_neg (by decide), if_neg (by decide), if_neg (by decide), if_neg (by decide), if_pos rfl] at h9
                      clear HSS
                      have HSS : Hid _ := h9
                      clear h9
                      clear q1 q2 q3 q4 q5 q11 q12 q13 q14
                      have HC : Hid _ := xUint_any B2.out.st_.rp.1 4194304 (by decide)
                      obtain ⟨U, a2, e2, hU⟩ : ∃ U b c, uintS T a1 e1 4194304 = (U, b, c) := ⟨_, _, _, rfl⟩
                      have hS := HSS.out
                      simp only [hU] at HC hS
                      clear HSS
                      have HSS : Hid _ := hS
                      have Um : U ≤ 4194304 := by have h9 := uintS_most T a1 e1 4194304; rw [hU] at h9; exact h9
                      clear hU hS
                      go_wp2_with fail
                      refine Calls.mono HC.out ?_
                      rintro e w3 ⟨rfl, r1⟩
                      have B3 : Hid _ := (B2.out.call r1).sw (J := (fun w => CM w (.slice none 0 0) [])) (CM.nil _) (SX.cm (by decide) (by decide) _ _)
                      clear r1 HC B2 k0
                      go_wp2_with fail
                      go_loopw [8] (fun i wr => ∃ (j aj : Nat) (ej : Int) (v : Value) (L : List ChV), j ≤ U ∧ i = .int .u64 j ∧ Hid (BX w p tv T 95 (w.heap.size + 1) w.heap.size Z (fun w => CM w v L) wr aj ej (msC 15 0 0 (.slice none 0 0) (.slice none 0 0) false 0 z32 z32 0 0 (.slice none 0 0) (.slice none 0 0) v) ∧ L.length = j ∧ manyX T U a2 e2 = (L.map Prod.fst ++ (manyX T (U - j) aj ej).1, (manyX T (U - j) aj ej).2) ∧ (∀ g, v.ownBlock = some g → w.heap.size ≤ g) ∧ (∀ o, o ∈ L → ∀ g, cB o g → w.heap.size ≤ g))) (fun i _ => U - (intOf i).toNat)
                      case atStart => exact ⟨0, a2, e2, (.slice none 0 0), [], Nat.zero_le _, rfl, B3.out, rfl, by simp, nilB, fun o ho => by cases ho⟩
                      case round =>
                        obtain ⟨j, aj, ej, v, L, hj, rfl, hid⟩ := hrel
                        have XJ : Hid _ := hid.out.1
                        have HKS : Hid _ := hid.out.2.1
                        have HMS : Hid _ := hid.out.2.2.1
                        have HNV : Hid _ := hid.out.2.2.2.1
                        have HNT : Hid _ := hid.out.2.2.2.2
                        clear hid
                        by_cases hnn : ej = 0 ∧ j < U
                        · obtain ⟨he, hlt⟩ := hnn
                          subst he
                          obtain ⟨va, vc, hvf⟩ := XJ.out.inv.form
                          obtain ⟨vn, hvn⟩ : ∃ vn, vn = L.length := ⟨_, rfl⟩
                          rw [← hvn] at hvf
                          subst hvf
                          clear hvn
                          have HM : Hid _ := xMore_any XJ.out.st_.rp.1 j U
                          rw [decide_eq_true ⟨rfl, hlt⟩] at HM
                          go_upto_region 34 with (go_at_call 124; refine Calls.mono HM.out ?_; rintro e wq ⟨rfl, hwq⟩; subst hwq)
                          clear HM
                          have XD : Hid (BX w p tv T 95 (w.heap.size + 1) w.heap.size Z (fun w => CM w (.slice va vn vc) L) wq.drew aj 0 (msC 15 0 0 (.slice none 0 0) (.slice none 0 0) false 0 z32 z32 0 0 (.slice none 0 0) (.slice none 0 0) (.slice va vn vc))) := XJ.out.drew (XJ.out.inv.freshC (drew_chg wq))
                          have QA : Hid (wq.drew.cell? ⟨w.heap.size, 75, none⟩ = some (.slice va vn vc)) := by show _ = _; rw [XD.out.row.cell]; exact msC_at _ _ _ _ _ _ _ _ _ _ _ _ _ _ z32_len z32_len 4
                          refine wp_region_held_drew (S := fun _ => True) (by kernel_rfl) trivial (fun _ => ?_)
                          refine wpAnyH_take (i := 0) (v := .pointer (some ⟨w.heap.size, 75, none⟩)) rfl (by kernel_rfl) (by kernel_rfl) (by kernel_rfl) (fun _ _ _ h => h) (Or.inl ⟨by rfl, fun w' _ => by go_simp⟩) trivial ?_
                          refine wpAnyH_take (i := 2) (v := .pointer (some ⟨p, 0, none⟩)) rfl (by kernel_rfl) (by kernel_rfl) (by kernel_rfl) (fun _ _ _ h => h) (Or.inl ⟨by rfl, fun w' _ => by go_simp⟩) trivial ?_
                          refine wpAnyH_ready (rs := [1, 3]) (by kernel_rfl) (by simp) ?_
                          refine AllReadyH.cons rfl (fun KK hKK => ?_) (AllReadyH.cons rfl (fun KK hKK => ?_) AllReadyH.nil)
                          · have q4 := QA.out
                            go_simp
                            refine hKK.out _ _ trivial (fun _ => ?_)
                            clear hKK KK q4
                            refine wpAnyH_ready (rs := [3]) (by kernel_rfl) (by simp) ?_
                            refine AllReadyH.cons rfl (fun KK hKK => ?_) AllReadyH.nil
                            go_simp
                            refine Calls.mono (xChange_any XD.out.st_.rp.1) ?_
                            intro e w6 hq
                            obtain ⟨s1, s2, s3, rfl, o1, o2, o3, r6, a3⟩ := hq.ex
                            obtain ⟨o, ho⟩ : ∃ o : ChV, o = (chX T aj 0, s1, s2, s3) := ⟨_, rfl⟩
                            rw [show chC s1 (chX T aj 0).had s2 (chX T aj 0).has s3 = ccOf o by rw [ho]; rfl]
                            have LC : (ccOf o).length = 5 := rfl
                            have b6 := XD.out.call r6
                            obtain ⟨v7, w7, hr7, gl7, c7, b7⟩ := b6.inv.add (o := o) (by rw [ho]; exact o1) (by rw [ho]; exact o2) (by rw [ho]; exact o3) (by have := HKS.out; omega) (C := wq.drew.heap.size) (by rw [ho]; exact a3) (fun q hq' g hg => by
                              have k := XD.out.inv.own q hq'
                              rcases hg with e | e | e
                              · exact k.1.lt e
                              · exact k.2.1.lt e
                              · exact k.2.2.lt e)
                            obtain ⟨row6, row7, bx7⟩ := XD.out.add r6 c7 HNV.out (fun g hg => b6.inv.gl.blk hg) (by decide) gl7 (SX.cm (by decide) (by decide) _ _)
                            have hst : manyX T (U - j) aj 0 = (chX T aj 0 :: (manyX T (U - (j + 1)) (chX T aj 0).at_ (chX T aj 0).err).1, (manyX T (U - (j + 1)) (chX T aj 0).at_ (chX T aj 0).err).2) := by
                              rw [show U - j = (U - (j + 1)) + 1 by omega, manyX_step]
                            obtain ⟨an, han⟩ : ∃ x, x = (chX T aj 0).at_ := ⟨_, rfl⟩
                            obtain ⟨en, hen⟩ : ∃ x, x = (chX T aj 0).err := ⟨_, rfl⟩
                            rw [← han, ← hen] at hst bx7
                            have bx8 : BX w p tv T 95 (w.heap.size + 1) w.heap.size Z (fun w => CM w v7 (L ++ [o])) (w7.setCell ⟨w.heap.size, 75, none⟩ v7) an en (msC 15 0 0 (.slice none 0 0) (.slice none 0 0) false 0 z32 z32 0 0 (.slice none 0 0) (.slice none 0 0) v7) := by
                              have h9 := bx7.set 75 v7
                              rwa [msC_setcg _ _ _ _ _ _ _ _ _ _ _ _ _ _ z32_len z32_len] at h9
                            have NV7 : ∀ g, v7.ownBlock = some g → w.heap.size ≤ g := fun g hg => by
                              rcases b7 with e | ⟨q, e, hq⟩
                              · exact HNV.out g (by rw [← e]; exact hg)
                              · rw [hg] at e
                                injection e with e
                                have := b6.st_.rp.2.size
                                omega
                            have NT7 : ∀ q, q ∈ L ++ [o] → ∀ g, cB q g → w.heap.size ≤ g := fun q hq' g hg => by
                              rcases List.mem_append.1 hq' with hq' | hq'
                              · exact HNT.out q hq' g hg
                              · have e : q = o := by simpa using hq'
                                rw [e, ho] at hg
                                exact Nat.le_trans XD.out.st_.rp.2.size (a3.ge g hg)
                            obtain ⟨ya, yc, hyf⟩ := gl7.form
                            obtain ⟨ln, hln⟩ : ∃ ln, ln = (L ++ [o]).length := ⟨_, rfl⟩
                            rw [← hln] at hyf
                            subst hyf
                            obtain ⟨w8, hw8⟩ : ∃ w8, w8 = w7.setCell ⟨w.heap.size, 75, none⟩ (.slice ya ln yc) := ⟨_, rfl⟩
                            rw [← hw8] at bx8
                            have FIN : Hid (BX w p tv T 95 (w.heap.size + 1) w.heap.size Z (fun w => CM w (.slice ya ln yc) (L ++ [o])) w8 an en (msC 15 0 0 (.slice none 0 0) (.slice none 0 0) false 0 z32 z32 0 0 (.slice none 0 0) (.slice none 0 0) (.slice ya ln yc)) ∧ (L ++ [o]).length = j + 1 ∧ manyX T U a2 e2 = ((L ++ [o]).map Prod.fst ++ (manyX T (U - (j + 1)) an en).1, (manyX T (U - (j + 1)) an en).2) ∧ (∀ g, (Value.slice ya ln yc).ownBlock = some g → w.heap.size ≤ g) ∧ (∀ q, q ∈ L ++ [o] → ∀ g, cB q g → w.heap.size ≤ g)) := by
                              refine ⟨bx8, by rw [List.length_append, HKS.out]; rfl, ?_, NV7, NT7⟩
                              rw [HMS.out, hst, ho]
                              simp
                            have HW8 : Hid _ := hw8
                            have QB : Hid (w6.cell? ⟨w.heap.size, 75, none⟩ = some (.slice va vn vc)) := by show _ = _; rw [row6.cell]; exact msC_at _ _ _ _ _ _ _ _ _ _ _ _ _ _ z32_len z32_len 4
                            have QC : Hid ((w6.alloc (.cells (ccOf o).toArray 112)).cell? ⟨w.heap.size, 75, none⟩ = some (.slice va vn vc)) := by show _ = _; rw [(row6.alloc _).cell]; exact msC_at _ _ _ _ _ _ _ _ _ _ _ _ _ _ z32_len z32_len 4
                            have Q7 : Hid (w7.cell? ⟨w.heap.size, 75, none⟩ = some (.slice va vn vc)) := by show _ = _; rw [row7.cell]; exact msC_at _ _ _ _ _ _ _ _ _ _ _ _ _ _ z32_len z32_len 4
                            have F7 : Hid (w7.frozen? ⟨w.heap.size, 75, none⟩ = false) := row7.fr 75
                            have HR7 : Hid _ := hr7
                            clear row6 hr7 row7 hw8
                            clear hq ho b6 gl7 c7 b7 bx7 bx8 NV7 NT7 hln hst han hen r6 o1 o2 o3 a3
                            refine hKK.out _ _ trivial (fun _ => ?_)
                            clear hKK KK
                            refine wpAnyH_ready (rs := [4]) (by kernel_rfl) (by simp) ?_
                            refine AllReadyH.cons rfl (fun KK hKK => ?_) AllReadyH.nil
                            refine step_buildP (sl := 93) Try.underlying93 info215 (by decide) (by decide) rfl (.tmp 96) rfl (C := ccOf o) (by kernel_rfl) LC ?_
                            refine hKK.out _ _ trivial (fun _ => ?_)
                            clear hKK KK
                            refine wpAnyH_ready (rs := [5]) (by kernel_rfl) (by simp) ?_
                            refine AllReadyH.cons rfl (fun KK hKK => ?_) AllReadyH.nil
                            refine step_appP #[93, 93] rfl (.tmp 94) (.tmp 97) rfl (v := .slice va vn vc) (u := .slice (some ⟨w6.heap.size, 0, none⟩) 1 1) (by kernel_rfl) (by kernel_rfl) HR7.out ?_
                            refine hKK.out _ _ trivial (fun _ => ?_)
                            clear hKK KK
                            refine wpAnyH_take (i := 6) (v := .pointer (some ⟨w.heap.size, 75, none⟩)) rfl (by kernel_rfl) (by kernel_rfl) (by kernel_rfl) (fun _ _ _ h => h) (Or.inl ⟨by rfl, fun w' _ => by go_simp⟩) trivial ?_
                            refine wpAnyH_ready (rs := [7]) (by kernel_rfl) (by simp) ?_
                            refine AllReadyH.cons rfl (fun KK hKK => ?_) AllReadyH.nil
                            have s7 := Q7.out
                            have f7 := F7.out
                            go_simp
                            refine hKK.out _ _ trivial (fun _ => ?_)
                            clear hKK KK s7 f7
                            refine wpAnyH_done (by kernel_rfl) ?_ _
                            rw [← HW8.out]
                            go_wp2_with fail
                            go_roundw
                            case rel => exact ⟨j + 1, _, _, _, L ++ [o], by omega, by go_num, FIN.out⟩
                            case measure => simp [intOf]; omega
                          · go_simp
                            refine Calls.mono (xChange_any XD.out.st_.rp.1) ?_
                            intro e w6 hq
                            obtain ⟨s1, s2, s3, rfl, o1, o2, o3, r6, a3⟩ := hq.ex
                            obtain ⟨o, ho⟩ : ∃ o : ChV, o = (chX T aj 0, s1, s2, s3) := ⟨_, rfl⟩
                            rw [show chC s1 (chX T aj 0).had s2 (chX T aj 0).has s3 = ccOf o by rw [ho]; rfl]
                            have LC : (ccOf o).length = 5 := rfl
                            have b6 := XD.out.call r6
                            obtain ⟨v7, w7, hr7, gl7, c7, b7⟩ := b6.inv.add (o := o) (by rw [ho]; exact o1) (by rw [ho]; exact o2) (by rw [ho]; exact o3) (by have := HKS.out; omega) (C := wq.drew.heap.size) (by rw [ho]; exact a3) (fun q hq' g hg => by
                              have k := XD.out.inv.own q hq'
                              rcases hg with e | e | e
                              · exact k.1.lt e
                              · exact k.2.1.lt e
                              · exact k.2.2.lt e)
                            obtain ⟨row6, row7, bx7⟩ := XD.out.add r6 c7 HNV.out (fun g hg => b6.inv.gl.blk hg) (by decide) gl7 (SX.cm (by decide) (by decide) _ _)
                            have hst : manyX T (U - j) aj 0 = (chX T aj 0 :: (manyX T (U - (j + 1)) (chX T aj 0).at_ (chX T aj 0).err).1, (manyX T (U - (j + 1)) (chX T aj 0).at_ (chX T aj 0).err).2) := by
                              rw [show U - j = (U - (j + 1)) + 1 by omega, manyX_step]
                            obtain ⟨an, han⟩ : ∃ x, x = (chX T aj 0).at_ := ⟨_, rfl⟩
                            obtain ⟨en, hen⟩ : ∃ x, x = (chX T aj 0).err := ⟨_, rfl⟩
                            rw [← han, ← hen] at hst bx7
                            have bx8 : BX w p tv T 95 (w.heap.size + 1) w.heap.size Z (fun w => CM w v7 (L ++ [o])) (w7.setCell ⟨w.heap.size, 75, none⟩ v7) an en (msC 15 0 0 (.slice none 0 0) (.slice none 0 0) false 0 z32 z32 0 0 (.slice none 0 0) (.slice none 0 0) v7) := by
                              have h9 := bx7.set 75 v7
                              rwa [msC_setcg _ _ _ _ _ _ _ _ _ _ _ _ _ _ z32_len z32_len] at h9
                            have NV7 : ∀ g, v7.ownBlock = some g → w.heap.size ≤ g := fun g hg => by
                              rcases b7 with e | ⟨q, e, hq⟩
                              · exact HNV.out g (by rw [← e]; exact hg)
                              · rw [hg] at e
                                injection e with e
                                have := b6.st_.rp.2.size
                                omega
                            have NT7 : ∀ q, q ∈ L ++ [o] → ∀ g, cB q g → w.heap.size ≤ g := fun q hq' g hg => by
                              rcases List.mem_append.1 hq' with hq' | hq'
                              · exact HNT.out q hq' g hg
                              · have e : q = o := by simpa using hq'
                                rw [e, ho] at hg
                                exact Nat.le_trans XD.out.st_.rp.2.size (a3.ge g hg)
                            obtain ⟨ya, yc, hyf⟩ := gl7.form
                            obtain ⟨ln, hln⟩ : ∃ ln, ln = (L ++ [o]).length := ⟨_, rfl⟩
                            rw [← hln] at hyf
                            subst hyf
                            obtain ⟨w8, hw8⟩ : ∃ w8, w8 = w7.setCell ⟨w.heap.size, 75, none⟩ (.slice ya ln yc) := ⟨_, rfl⟩
                            rw [← hw8] at bx8
                            have FIN : Hid (BX w p tv T 95 (w.heap.size + 1) w.heap.size Z (fun w => CM w (.slice ya ln yc) (L ++ [o])) w8 an en (msC 15 0 0 (.slice none 0 0) (.slice none 0 0) false 0 z32 z32 0 0 (.slice none 0 0) (.slice none 0 0) (.slice ya ln yc)) ∧ (L ++ [o]).length = j + 1 ∧ manyX T U a2 e2 = ((L ++ [o]).map Prod.fst ++ (manyX T (U - (j + 1)) an en).1, (manyX T (U - (j + 1)) an en).2) ∧ (∀ g, (Value.slice ya ln yc).ownBlock = some g → w.heap.size ≤ g) ∧ (∀ q, q ∈ L ++ [o] → ∀ g, cB q g → w.heap.size ≤ g)) := by
                              refine ⟨bx8, by rw [List.length_append, HKS.out]; rfl, ?_, NV7, NT7⟩
                              rw [HMS.out, hst, ho]
                              simp
                            have HW8 : Hid _ := hw8
                            have QB : Hid (w6.cell? ⟨w.heap.size, 75, none⟩ = some (.slice va vn vc)) := by show _ = _; rw [row6.cell]; exact msC_at _ _ _ _ _ _ _ _ _ _ _ _ _ _ z32_len z32_len 4
                            have QC : Hid ((w6.alloc (.cells (ccOf o).toArray 112)).cell? ⟨w.heap.size, 75, none⟩ = some (.slice va vn vc)) := by show _ = _; rw [(row6.alloc _).cell]; exact msC_at _ _ _ _ _ _ _ _ _ _ _ _ _ _ z32_len z32_len 4
                            have Q7 : Hid (w7.cell? ⟨w.heap.size, 75, none⟩ = some (.slice va vn vc)) := by show _ = _; rw [row7.cell]; exact msC_at _ _ _ _ _ _ _ _ _ _ _ _ _ _ z32_len z32_len 4
                            have F7 : Hid (w7.frozen? ⟨w.heap.size, 75, none⟩ = false) := row7.fr 75
                            have HR7 : Hid _ := hr7
                            clear row6 hr7 row7 hw8
                            clear hq ho b6 gl7 c7 b7 bx7 bx8 NV7 NT7 hln hst han hen r6 o1 o2 o3 a3
                            refine hKK.out _ _ trivial (fun _ => ?_)
                            clear hKK KK
                            refine wpAnyH_ready (rs := [1, 4]) (by kernel_rfl) (by simp) ?_
                            refine AllReadyH.cons rfl (fun KK hKK => ?_) (AllReadyH.cons rfl (fun KK hKK => ?_) AllReadyH.nil)
                            · have q4 := QB.out
                              go_simp
                              refine hKK.out _ _ trivial (fun _ => ?_)
                              clear hKK KK q4
                              refine wpAnyH_ready (rs := [4]) (by kernel_rfl) (by simp) ?_
                              refine AllReadyH.cons rfl (fun KK hKK => ?_) AllReadyH.nil
                              refine step_buildP (sl := 93) Try.underlying93 info215 (by decide) (by decide) rfl (.tmp 96) rfl (C := ccOf o) (by kernel_rfl) LC ?_
                              refine hKK.out _ _ trivial (fun _ => ?_)
                              clear hKK KK
                              refine wpAnyH_ready (rs := [5]) (by kernel_rfl) (by simp) ?_
                              refine AllReadyH.cons rfl (fun KK hKK => ?_) AllReadyH.nil
                              refine step_appP #[93, 93] rfl (.tmp 94) (.tmp 97) rfl (v := .slice va vn vc) (u := .slice (some ⟨w6.heap.size, 0, none⟩) 1 1) (by kernel_rfl) (by kernel_rfl) HR7.out ?_
                              refine hKK.out _ _ trivial (fun _ => ?_)
                              clear hKK KK
                              refine wpAnyH_take (i := 6) (v := .pointer (some ⟨w.heap.size, 75, none⟩)) rfl (by kernel_rfl) (by kernel_rfl) (by kernel_rfl) (fun _ _ _ h => h) (Or.inl ⟨by rfl, fun w' _ => by go_simp⟩) trivial ?_
                              refine wpAnyH_ready (rs := [7]) (by kernel_rfl) (by simp) ?_
                              refine AllReadyH.cons rfl (fun KK hKK => ?_) AllReadyH.nil
                              have s7 := Q7.out
                              have f7 := F7.out
                              go_simp
                              refine hKK.out _ _ trivial (fun _ => ?_)
                              clear hKK KK s7 f7
                              refine wpAnyH_done (by kernel_rfl) ?_ _
                              rw [← HW8.out]
                              go_wp2_with fail
                              go_roundw
                              case rel => exact ⟨j + 1, _, _, _, L ++ [o], by omega, by go_num, FIN.out⟩
                              case measure => simp [intOf]; omega
                            · refine step_buildP (sl := 93) Try.underlying93 info215 (by decide) (by decide) rfl (.tmp 96) rfl (C := ccOf o) (by kernel_rfl) LC ?_
                              refine hKK.out _ _ trivial (fun _ => ?_)
                              clear hKK KK
                              refine wpAnyH_ready (rs := [1]) (by kernel_rfl) (by simp) ?_
                              refine AllReadyH.cons rfl (fun KK hKK => ?_) AllReadyH.nil
                              have q4 := QC.out
                              go_simp
                              refine hKK.out _ _ trivial (fun _ => ?_)
                              clear hKK KK q4
                              refine wpAnyH_ready (rs := [5]) (by kernel_rfl) (by simp) ?_
                              refine AllReadyH.cons rfl (fun KK hKK => ?_) AllReadyH.nil
                              refine step_appP #[93, 93] rfl (.tmp 94) (.tmp 97) rfl (v := .slice va vn vc) (u := .slice (some ⟨w6.heap.size, 0, none⟩) 1 1) (by kernel_rfl) (by kernel_rfl) HR7.out ?_
                              refine hKK.out _ _ trivial (fun _ => ?_)
                              clear hKK KK
                              refine wpAnyH_take (i := 6) (v := .pointer (some ⟨w.heap.size, 75, none⟩)) rfl (by kernel_rfl) (by kernel_rfl) (by kernel_rfl) (fun _ _ _ h => h) (Or.inl ⟨by rfl, fun w' _ => by go_simp⟩) trivial ?_
                              refine wpAnyH_ready (rs := [7]) (by kernel_rfl) (by simp) ?_
                              refine AllReadyH.cons rfl (fun KK hKK => ?_) AllReadyH.nil
                              have s7 := Q7.out
                              have f7 := F7.out
                              go_simp
                              refine hKK.out _ _ trivial (fun _ => ?_)
                              clear hKK KK s7 f7
                              refine wpAnyH_done (by kernel_rfl) ?_ _
                              rw [← HW8.out]
                              go_wp2_with fail
                              go_roundw
                              case rel => exact ⟨j + 1, _, _, _, L ++ [o], by omega, by go_num, FIN.out⟩
                              case measure => simp [intOf]; omega
                        · obtain ⟨va, vc, hvf⟩ := XJ.out.inv.form
                          obtain ⟨vn, hvn⟩ : ∃ vn, vn = L.length := ⟨_, rfl⟩
                          rw [← hvn] at hvf
                          subst hvf
                          clear hvn
                          have HM : Hid _ := xMore_any XJ.out.st_.rp.1 j U
                          rw [decide_eq_false hnn] at HM
                          have FE : manyX T U a2 e2 = (L.map Prod.fst, aj, ej) := by
                            rw [HMS.out]
                            rcases Classical.em (ej = 0) with h0 | h0
                            · have hj9 : U - j = 0 := by
                                rcases Nat.lt_or_ge j U with h1 | h1
                                · exact absurd ⟨h0, h1⟩ hnn
                                · omega
                              rw [hj9]
                              simp [manyX]
                            · rw [manyX_err h0]
                              simp
                          have h9 := HSS.out
                          rw [FE] at h9
                          have HS9 : Hid _ := h9
                          clear h9 FE HSS
                          go_upto_region 37 with (go_at_call 124; refine Calls.mono HM.out ?_; rintro e wq ⟨rfl, hwq⟩; subst hwq)
                          clear HM
                          go_wp2_with (first
                            | (refine wpList_load_part rfl 95 (.tmp 3) rfl w.heap.size 0 (msC 15 0 0 (.slice none 0 0) (.slice none 0 0) false 0 z32 z32 0 0 (.slice none 0 0) (.slice none 0 0) (.slice va vn vc)) rfl XJ.out.row (by simp) Try.underlying95 rfl (Try.msSz _ _ _ _ _ _ _ _ _ _ _ _ _ _ z32_len z32_len) ?_)
                            | (refine wpList_store_part rfl 95 (.tmp 4) (.tmp 106) rfl (w.heap.size + 1) 0 (msC 15 0 0 (.slice none 0 0) (.slice none 0 0) false 0 z32 z32 0 0 (.slice none 0 0) (.slice none 0 0) (.slice va vn vc)) rfl rfl XJ.out.res (by rw [msC_len _ _ _ _ _ _ _ _ _ _ _ _ _ _ z32_len z32_len, LZ]; decide) (Try.msSz _ _ _ _ _ _ _ _ _ _ _ _ _ _ z32_len z32_len) (msC_one _ _ _ _ _ _ _ _ _ _ _ _ _ _ rfl rfl rfl rfl rfl) ?_; intro w8 b8 c8; rw [splice_all _ _ (by rw [msC_len _ _ _ _ _ _ _ _ _ _ _ _ _ _ z32_len z32_len, LZ])] at b8; have RR : Hid _ := b8; have FF : Hid _ := XJ.out.fin c8; clear b8 c8))
                          exact bodyPost_ret (v := .agg (msC 15 0 0 (.slice none 0 0) (.slice none 0 0) false 0 z32 z32 0 0 (.slice none 0 0) (.slice none 0 0) (.slice va vn vc)).toArray) (results_row1 rfl _ _ (w.heap.size + 1) 95 _ _ _ rfl RR.out.eq Try.underlying95 rfl (Try.msSz _ _ _ _ _ _ _ _ _ _ _ _ _ _ z32_len z32_len)) rfl (by rw [HS9.out]; exact ⟨⟨(.slice none 0 0), (.slice none 0 0), (.slice none 0 0), (.slice none 0 0), (.slice va vn vc), L, rfl, ⟨Own.nil _, Own.nil _, Own.nil _, GL.nil _ _ _, FF.out.2⟩, rfl, FF.out.1, MsAp.chgs HNV.out HNT.out⟩⟩)
                    · by_cases q19 : K = 19
                      · subst q19
                        have h9 := HSS.out
                        rw [if_neg (by decide), if_neg (by decide), if_neg (by decide), if_neg (by decide), if_neg (by decide), if_neg (by decide), if_neg (by decide), if_neg (by decide), if_neg (by decide), if_pos rfl] at h9
                        clear HSS
                        have HSS : Hid _ := h9
                        clear h9
                        clear q1 q2 q3 q4 q5 q11 q12 q13 q14 q15
                        have HC : Hid _ := xUint_any B2.out.st_.rp.1 999 (by decide)
                        obtain ⟨U, a2, e2, hU⟩ : ∃ U b c, uintS T a1 e1 999 = (U, b, c) := ⟨_, _, _, rfl⟩
                        have hS := HSS.out
                        simp only [hU] at HC hS
                        clear HSS
                        have HSS : Hid _ := hS
                        have Um : U ≤ 999 := by have h9 := uintS_most T a1 e1 999; rw [hU] at h9; exact h9
                        clear hU hS
                        go_wp2_with fail
                        refine Calls.mono HC.out ?_
                        rintro e w3 ⟨rfl, r1⟩
                        have B3 : Hid _ := B2.out.call r1
                        clear r1 HC B2 k0
                        have hc : w3.cell? ⟨w.heap.size, 72, none⟩ = some (.int .i64 0) := by rw [B3.out.row.cell]; exact msC_at _ _ _ _ _ _ _ _ _ _ _ _ _ _ z32_len z32_len 1
                        have hf : w3.frozen? ⟨w.heap.size, 72, none⟩ = false := B3.out.row.fr 72
                        have h9 := B3.out.set 72 (.int .i64 U)
                        rw [msC_setco _ _ _ _ _ _ _ _ _ _ _ _ _ _ z32_len z32_len] at h9
                        have B4 : Hid _ := h9
                        clear h9
                        clear B3
                        go_wp2_with (first
                          | (refine wpList_load_part rfl 95 (.tmp 3) rfl w.heap.size 0 (msC 19 0 0 (.slice none 0 0) (.slice none 0 0) false 0 z32 z32 0 U (.slice none 0 0) (.slice none 0 0) (.slice none 0 0)) rfl B4.out.row (by simp) Try.underlying95 rfl (Try.msSz _ _ _ _ _ _ _ _ _ _ _ _ _ _ z32_len z32_len) ?_)
                          | (refine wpList_store_part rfl 95 (.tmp 4) (.tmp 106) rfl (w.heap.size + 1) 0 (msC 19 0 0 (.slice none 0 0) (.slice none 0 0) false 0 z32 z32 0 U (.slice none 0 0) (.slice none 0 0) (.slice none 0 0)) rfl rfl B4.out.res (by rw [msC_len _ _ _ _ _ _ _ _ _ _ _ _ _ _ z32_len z32_len, LZ]; decide) (Try.msSz _ _ _ _ _ _ _ _ _ _ _ _ _ _ z32_len z32_len) (msC_one _ _ _ _ _ _ _ _ _ _ _ _ _ _ rfl rfl rfl rfl rfl) ?_; intro w8 b8 c8; rw [splice_all _ _ (by rw [msC_len _ _ _ _ _ _ _ _ _ _ _ _ _ _ z32_len z32_len, LZ])] at b8; have RR : Hid _ := b8; have FF : Hid _ := B4.out.fin c8; clear b8 c8))
                        exact bodyPost_ret (v := .agg (msC 19 0 0 (.slice none 0 0) (.slice none 0 0) false 0 z32 z32 0 U (.slice none 0 0) (.slice none 0 0) (.slice none 0 0)).toArray) (results_row1 rfl _ _ (w.heap.size + 1) 95 _ _ _ rfl RR.out.eq Try.underlying95 rfl (Try.msSz _ _ _ _ _ _ _ _ _ _ _ _ _ _ z32_len z32_len)) rfl (by rw [HSS.out]; exact ⟨⟨(.slice none 0 0), (.slice none 0 0), (.slice none 0 0), (.slice none 0 0), (.slice none 0 0), [], rfl, ⟨Own.nil _, Own.nil _, Own.nil _, GL.nil _ _ _, CM.nil _⟩, rfl, FF.out.1, MsAp.nils _⟩⟩)
                      · have h9 := HSS.out
                        rw [if_neg (by omega), if_neg (by omega), if_neg (by omega), if_neg (by omega), if_neg (by omega), if_neg (by omega), if_neg (by omega), if_neg (by omega), if_neg (by omega), if_neg (by omega)] at h9
                        clear HSS
                        have HSS : Hid _ := h9
                        clear h9
                        have HC : Hid _ := xFail_any B2.out.st_.rp.1 24
                        have i1 : ((K : Int) == 1) = false := by simp; omega
                        have i2 : ((K : Int) == 2) = false := by simp; omega
                        have i3 : ((K : Int) == 3) = false := by simp; omega
                        have i4 : ((K : Int) == 4) = false := by simp; omega
                        have i5 : ((K : Int) == 5) = false := by simp; omega
                        have i11 : ((K : Int) == 11) = false := by simp; omega
                        have i12 : ((K : Int) == 12) = false := by simp; omega
                        have i13 : ((K : Int) == 13) = false := by simp; omega
                        have i14 : ((K : Int) == 14) = false := by simp; omega
                        have i15 : ((K : Int) == 15) = false := by simp; omega
                        have i19 : ((K : Int) == 19) = false := by simp; omega
                        go_wp2_with fail
                        refine Calls.mono HC.out ?_
                        rintro e w3 ⟨rfl, r1⟩
                        have B3 : Hid _ := B2.out.call r1
                        clear r1 HC B2 k0 i1 i2 i3 i4 i5 i11 i12 i13 i14 i15 i19
                        go_wp2_with (first
                          | (refine wpList_load_part rfl 95 (.tmp 3) rfl w.heap.size 0 (msC K 0 0 (.slice none 0 0) (.slice none 0 0) false 0 z32 z32 0 0 (.slice none 0 0) (.slice none 0 0) (.slice none 0 0)) rfl B3.out.row (by simp) Try.underlying95 rfl (Try.msSz _ _ _ _ _ _ _ _ _ _ _ _ _ _ z32_len z32_len) ?_)
                          | (refine wpList_store_part rfl 95 (.tmp 4) (.tmp 106) rfl (w.heap.size + 1) 0 (msC K 0 0 (.slice none 0 0) (.slice none 0 0) false 0 z32 z32 0 0 (.slice none 0 0) (.slice none 0 0) (.slice none 0 0)) rfl rfl B3.out.res (by rw [msC_len _ _ _ _ _ _ _ _ _ _ _ _ _ _ z32_len z32_len, LZ]; decide) (Try.msSz _ _ _ _ _ _ _ _ _ _ _ _ _ _ z32_len z32_len) (msC_one _ _ _ _ _ _ _ _ _ _ _ _ _ _ rfl rfl rfl rfl rfl) ?_; intro w8 b8 c8; rw [splice_all _ _ (by rw [msC_len _ _ _ _ _ _ _ _ _ _ _ _ _ _ z32_len z32_len, LZ])] at b8; have RR : Hid _ := b8; have FF : Hid _ := B3.out.fin c8; clear b8 c8))
                        exact bodyPost_ret (v := .agg (msC K 0 0 (.slice none 0 0) (.slice none 0 0) false 0 z32 z32 0 0 (.slice none 0 0) (.slice none 0 0) (.slice none 0 0)).toArray) (results_row1 rfl _ _ (w.heap.size + 1) 95 _ _ _ rfl RR.out.eq Try.underlying95 rfl (Try.msSz _ _ _ _ _ _ _ _ _ _ _ _ _ _ z32_len z32_len)) rfl (by rw [HSS.out]; exact ⟨⟨(.slice none 0 0), (.slice none 0 0), (.slice none 0 0), (.slice none 0 0), (.slice none 0 0), [], rfl, ⟨Own.nil _, Own.nil _, Own.nil _, GL.nil _ _ _, CM.nil _⟩, rfl, FF.out.1, MsAp.nils _⟩⟩)
end Go.Proofs.Ytjmeaebehndheaa
