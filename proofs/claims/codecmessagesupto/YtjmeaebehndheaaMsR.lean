/-
  Messages are read.
-/
import Derived.Test.YtjmeaebehndheaaMsM
import Derived.Test.YtjmeaebehndheaaPrS
import Derived.Test.YtjmeaebehndheaaTwT
namespace Go.Proofs.Ytjmeaebehndheaa
open Go.RowKit

def msC (ki ver oth : Nat) (lo hi : Value) (op : Bool) (hs : Nat) (hl lb : List Int) (ct co : Nat) (bo pa cg : Value) : List Value :=
  .int .i64 ki :: .int .u64 ver :: .int .u64 oth :: lo :: hi :: .bool op :: .int .u64 hs :: (bs hl ++ (bs lb ++ [.int .u64 ct, .int .i64 co, bo, pa, cg]))
theorem Try.size95 : (Try.prog.info? 95).map (·.size) = some 76 := by kernel_rfl
section
variable (ki ver oth : Nat) (lo hi : Value) (op : Bool) (hs : Nat) (hl lb : List Int) (ct co : Nat) (bo pa cg : Value)
theorem msC_len (h1 : hl.length = 32) (h2 : lb.length = 32) : (msC ki ver oth lo hi op hs hl lb ct co bo pa cg).length = 76 := by
  simp [msC, bs_len, h1, h2]
theorem Try.msSz (h1 : hl.length = 32) (h2 : lb.length = 32) : (Try.prog.info? 95).map (·.size) = some (msC ki ver oth lo hi op hs hl lb ct co bo pa cg).length := by rw [msC_len _ _ _ _ _ _ _ _ _ _ _ _ _ _ h1 h2]; exact Try.size95
theorem msC_one (h1 : lo.oneCell' = true) (h2 : hi.oneCell' = true) (h3 : bo.oneCell' = true) (h4 : pa.oneCell' = true) (h5 : cg.oneCell' = true) : ∀ u ∈ msC ki ver oth lo hi op hs hl lb ct co bo pa cg, u.oneCell' = true := by
  intro u hu
  simp only [msC, List.mem_cons, List.mem_append, List.not_mem_nil, or_false] at hu
  rcases hu with rfl | rfl | rfl | rfl | rfl | rfl | rfl | hu | hu | rfl | rfl | rfl | rfl | rfl
  · rfl
  · rfl
  · rfl
  · exact h1
  · exact h2
  · rfl
  · rfl
  · exact bs_one _ _ hu
  · exact bs_one _ _ hu
  · rfl
  · rfl
  · exact h3
  · exact h4
  · exact h5
theorem msC_at (h1 : hl.length = 32) (h2 : lb.length = 32) (k : Nat) : (msC ki ver oth lo hi op hs hl lb ct co bo pa cg)[71 + k]? = [Value.int .u64 ct, .int .i64 co, bo, pa, cg][k]? := by
  rw [show 71 + k = (64 + k) + 7 by omega]
  simp only [msC, List.getElem?_cons_succ]
  rw [List.getElem?_append_right (by rw [bs_len]; omega), List.getElem?_append_right (by rw [bs_len, bs_len]; omega), bs_len, bs_len, h1, h2, show 64 + k - 32 - 32 = k by omega]
theorem msC_set (h1 : hl.length = 32) (h2 : lb.length = 32) (k : Nat) (v : Value) : (msC ki ver oth lo hi op hs hl lb ct co bo pa cg).set (71 + k) v = .int .i64 ki :: .int .u64 ver :: .int .u64 oth :: lo :: hi :: .bool op :: .int .u64 hs :: (bs hl ++ (bs lb ++ [Value.int .u64 ct, .int .i64 co, bo, pa, cg].set k v)) := by
  rw [show 71 + k = (64 + k) + 7 by omega]
  simp only [msC, List.set_cons_succ]
  rw [List.set_append_right _ _ (by rw [bs_len]; omega), List.set_append_right _ _ (by rw [bs_len, bs_len]; omega), bs_len, bs_len, h1, h2, show 64 + k - 32 - 32 = k by omega]
theorem msC_setct (h1 : hl.length = 32) (h2 : lb.length = 32) (x : Nat) : (msC ki ver oth lo hi op hs hl lb ct co bo pa cg).set 71 (.int .u64 x) = msC ki ver oth lo hi op hs hl lb x co bo pa cg := msC_set _ _ _ _ _ _ _ _ _ _ _ _ _ _ h1 h2 0 _
theorem msC_setco (h1 : hl.length = 32) (h2 : lb.length = 32) (x : Nat) : (msC ki ver oth lo hi op hs hl lb ct co bo pa cg).set 72 (.int .i64 x) = msC ki ver oth lo hi op hs hl lb ct x bo pa cg := msC_set _ _ _ _ _ _ _ _ _ _ _ _ _ _ h1 h2 1 _
theorem msC_setbo (h1 : hl.length = 32) (h2 : lb.length = 32) (x : Value) : (msC ki ver oth lo hi op hs hl lb ct co bo pa cg).set 73 x = msC ki ver oth lo hi op hs hl lb ct co x pa cg := msC_set _ _ _ _ _ _ _ _ _ _ _ _ _ _ h1 h2 2 _
theorem msC_setpa (h1 : hl.length = 32) (h2 : lb.length = 32) (x : Value) : (msC ki ver oth lo hi op hs hl lb ct co bo pa cg).set 74 x = msC ki ver oth lo hi op hs hl lb ct co bo x cg := msC_set _ _ _ _ _ _ _ _ _ _ _ _ _ _ h1 h2 3 _
theorem msC_setcg (h1 : hl.length = 32) (h2 : lb.length = 32) (x : Value) : (msC ki ver oth lo hi op hs hl lb ct co bo pa cg).set 75 x = msC ki ver oth lo hi op hs hl lb ct co bo pa x := msC_set _ _ _ _ _ _ _ _ _ _ _ _ _ _ h1 h2 4 _
theorem msC_puthl (x : List Int) (h : hl.length = x.length) : splice (msC ki ver oth lo hi op hs hl lb ct co bo pa cg) 7 (bs x) = msC ki ver oth lo hi op hs x lb ct co bo pa cg := by
  have h2 : (bs hl).length = (bs x).length := by rw [bs_len, bs_len, h]
  unfold splice msC
  rw [show 7 + (bs x).length = (bs hl).length + 7 by omega]
  simp
theorem msC_putlb (h1 : hl.length = 32) (x : List Int) (h : lb.length = x.length) : splice (msC ki ver oth lo hi op hs hl lb ct co bo pa cg) 39 (bs x) = msC ki ver oth lo hi op hs hl x ct co bo pa cg := by
  have h2 : (bs lb).length = (bs x).length := by rw [bs_len, bs_len, h]
  have h3 : (bs hl).length = 32 := by rw [bs_len, h1]
  unfold splice msC
  rw [show 39 + (bs x).length = ((bs hl).length + (bs lb).length) + 7 by omega, show 39 = (bs hl).length + 7 by omega]
  simp [List.drop_append]
theorem msC_putsp (lo2 hi2 : Value) (op2 : Bool) : splice (msC ki ver oth lo hi op hs hl lb ct co bo pa cg) 3 (spC lo2 hi2 op2) = msC ki ver oth lo2 hi2 op2 hs hl lb ct co bo pa cg := by
  simp [splice, msC, spC]
end
theorem GL.nil (w : World) (ty sz : Nat) : GL w (.slice none 0 0) ty sz [] := ⟨World.ownsRow_nil w 0 ty sz, fun _ h => by cases h⟩
theorem CM.nil (w : World) : CM w (.slice none 0 0) [] := ⟨GL.nil w 112 5, List.Pairwise.nil, (fun _ h => by cases h), (fun _ h => by cases h)⟩
theorem St.gl {ty sz tt : TypeId} (h : ty ≠ tt) (h2 : tt ≠ 195) (s : Value) (l : List (List Value)) : St ty (fun w => GL w s tt sz l) := fun w w' g cur t hi hg ht c => hi.kept c (fun k cur' _ e2 e => by
  rw [e, hg] at e2
  injection e2 with e2
  injection e2 with _ e2
  rcases ht with ht | ht
  · exact h2 (e2.symm.trans ht)
  · exact h (ht.symm.trans e2))
theorem St.cm {ty : TypeId} (h : ty ≠ 112) (h2 : ty ≠ 5) (s : Value) (l : List ChV) : St ty (fun w => CM w s l) := fun w w' g cur t hi hg ht c => hi.kept c (fun k cur' t2 e e2 => by
  rw [e, hg] at e2
  injection e2 with e2
  injection e2 with _ e2
  rw [← e2]
  rcases ht with ht | ht
  · rw [ht]; decide
  · rw [ht]; exact ⟨h, h2⟩)

structure MsS where
  ki : Nat
  ver : Nat
  oth : Nat
  lo : List Int
  hi : List Int
  op : Bool
  hs : Nat
  hl : List Int
  lb : List Int
  ct : Nat
  co : Nat
  bo : List Int
  pa : List (List Value)
  ch : List ChS
  at_ : Nat
  err : Int
def msgS (T : List Int) (a : Nat) (err : Int) : MsS :=
  let K := lowN (pL T a err 1)
  let b := pA T a err 1
  let e := pE T a err 1
  if K = 1 then ⟨1, 0, 0, [], [], false, 0, z32, z32, 0, 0, [], [], [], b, e⟩
  else if K = 2 then
    let U := uintS T b e maxN
    let P := spanS T U.2.1 U.2.2
    ⟨2, U.1, 0, P.lo, P.hi, P.op, 0, z32, z32, 0, 0, [], [], [], P.at_, P.err⟩
  else if K = 3 then
    let U := uintS T b e maxN
    ⟨3, U.1, 0, [], [], false, 0, z32, z32, 0, 0, [], [], [], U.2.1, U.2.2⟩
  else if K = 4 then
    let U := uintS T b e 4611686018427387905
    ⟨4, 0, U.1, [], [], false, 0, z32, z32, 0, 0, [], [], [], U.2.1, U.2.2⟩
  else if K = 5 then
    let U := uintS T b e maxN
    let V := uintS T U.2.1 U.2.2 maxN
    ⟨5, V.1, U.1, [], [], false, 0, z32, z32, 0, 0, [], [], [], V.2.1, V.2.2⟩
  else if K = 11 then
    let U := uintS T b e maxN
    let V := uintS T (pA T U.2.1 U.2.2 32) (pE T U.2.1 U.2.2 32) maxN
    let X := uintS T V.2.1 V.2.2 4611686018427387905
    ⟨11, U.1, 0, [], [], false, X.1, pad 32 (pL T X.2.1 X.2.2 32), pad 32 (pL T U.2.1 U.2.2 32), V.1, 0, [], [], [], pA T X.2.1 X.2.2 32, pE T X.2.1 X.2.2 32⟩
  else if K = 12 then
    let L := textS T b e 4194304
    ⟨12, 0, 0, [], [], false, 0, z32, z32, 0, 0, L.1, [], [], L.2.1, L.2.2⟩
  else if K = 13 ∨ K = 14 then
    let U := uintS T b e 128
    let M := manyE sumE T U.1 U.2.1 U.2.2
    ⟨K, 0, 0, [], [], false, 0, z32, z32, 0, 0, [], M.1, [], M.2.1, M.2.2⟩
  else if K = 15 then
    let U := uintS T b e 4194304
    let M := manyC T U.1 U.2.1 U.2.2
    ⟨15, 0, 0, [], [], false, 0, z32, z32, 0, 0, [], [], M.1, M.2.1, M.2.2⟩
  else if K = 19 then
    let U := uintS T b e 999
    ⟨19, 0, 0, [], [], false, 0, z32, z32, 0, U.1, [], [], [], U.2.1, U.2.2⟩
  else ⟨K, 0, 0, [], [], false, 0, z32, z32, 0, 0, [], [], [], b, failE e 24⟩
/-- Where the texts and lists of a message that was read lie. -/
structure MsAp (B : Nat) (lo hi bo pa cg : Value) (L : List ChV) : Prop where
  tx : Ap3 B lo hi bo
  pg : ∀ g, pa.ownBlock = some g ∨ cg.ownBlock = some g → B ≤ g
  ch : ∀ o, o ∈ L → ∀ g, cB o g → B ≤ g ∧ ¬ (lo.ownBlock = some g ∨ hi.ownBlock = some g ∨ bo.ownBlock = some g)
theorem Ap3.mono {B B' : Nat} {k o n : Value} (h : Ap3 B k o n) (hB : B' ≤ B) : Ap3 B' k o n := ⟨fun g hg => Nat.le_trans hB (h.ge g hg), h.k1, h.k2, h.o1⟩
theorem MsAp.mono {B B' : Nat} {lo hi bo pa cg : Value} {L : List ChV} (h : MsAp B lo hi bo pa cg L) (hB : B' ≤ B) : MsAp B' lo hi bo pa cg L := ⟨h.tx.mono hB, fun g hg => Nat.le_trans hB (h.pg g hg), fun o ho g hg => ⟨Nat.le_trans hB (h.ch o ho g hg).1, (h.ch o ho g hg).2⟩⟩
theorem nilD {g : Nat} {P : Prop} (h : (Value.slice none 0 0).ownBlock = some g) : P := by simp [Value.ownBlock] at h
theorem MsAp.nils (B : Nat) : MsAp B (.slice none 0 0) (.slice none 0 0) (.slice none 0 0) (.slice none 0 0) (.slice none 0 0) [] := ⟨Ap3.nil B, fun _ h => h.elim nilD nilD, fun _ h => by cases h⟩
theorem MsAp.span {B : Nat} {lo hi : Value} (h : Ap3 B lo hi (.slice none 0 0)) : MsAp B lo hi (.slice none 0 0) (.slice none 0 0) (.slice none 0 0) [] := ⟨h, fun _ h => h.elim nilD nilD, fun _ h => by cases h⟩
theorem MsAp.body {B : Nat} {bo : Value} (h : ∀ g, bo.ownBlock = some g → B ≤ g) : MsAp B (.slice none 0 0) (.slice none 0 0) bo (.slice none 0 0) (.slice none 0 0) [] := ⟨Ap3.of (Nat.le_refl _) (Nat.le_refl _) nilB nilB h, fun _ h => h.elim nilD nilD, fun _ h => by cases h⟩
theorem MsAp.path {B : Nat} {pa : Value} (h : ∀ g, pa.ownBlock = some g → B ≤ g) : MsAp B (.slice none 0 0) (.slice none 0 0) (.slice none 0 0) pa (.slice none 0 0) [] := ⟨Ap3.nil B, fun g hg => hg.elim (h g) nilD, fun _ h => by cases h⟩
theorem MsAp.chgs {B : Nat} {cg : Value} {L : List ChV} (h : ∀ g, cg.ownBlock = some g → B ≤ g) (h2 : ∀ o, o ∈ L → ∀ g, cB o g → B ≤ g) : MsAp B (.slice none 0 0) (.slice none 0 0) (.slice none 0 0) (.slice none 0 0) cg L := ⟨Ap3.nil B, fun g hg => hg.elim nilD (h g), fun o ho g hg => ⟨h2 o ho g hg, fun e => e.elim nilD (fun e => e.elim nilD nilD)⟩⟩
/-- What message answers. -/
structure MsQ (w w' : World) (p : Nat) (tv : Value) (T : List Int) (S : MsS) (e : Ending) : Prop where
  ex : ∃ lo hi bo pa cg L, e = .returned (.agg (msC S.ki S.ver S.oth lo hi S.op S.hs S.hl S.lb S.ct S.co bo pa cg).toArray) ∧ (Own w' lo S.lo ∧ Own w' hi S.hi ∧ Own w' bo S.bo ∧ GL w' pa 31 32 S.pa ∧ CM w' cg L) ∧ L.map Prod.fst = S.ch ∧ RP w w' p 195 tv T S.at_ S.err ∧ MsAp w.heap.size lo hi bo pa cg L
theorem z32_len : z32.length = 32 := by simp [z32]

set_option maxRecDepth 100000 in
set_option maxHeartbeats 16000000 in
theorem message_any {w : World} {p : Nat} {tv : Value} {T : List Int} {a : Nat} {err : Int} (h : RS w p 195 tv T a err) :
    Calls Try.prog 89 #[.pointer (some ⟨p, 0, none⟩)] w fun e w' => MsQ w w' p tv T (msgS T a err) e := by
  have B0 : Hid (Bld w p tv T 95 (msC 0 0 0 (.slice none 0 0) (.slice none 0 0) false 0 z32 z32 0 0 (.slice none 0 0) (.slice none 0 0) (.slice none 0 0)) (fun _ => True) ((w.alloc (.cells (msC 0 0 0 (.slice none 0 0) (.slice none 0 0) false 0 z32 z32 0 0 (.slice none 0 0) (.slice none 0 0) (.slice none 0 0)).toArray 95)).alloc (.cells (msC 0 0 0 (.slice none 0 0) (.slice none 0 0) false 0 z32 z32 0 0 (.slice none 0 0) (.slice none 0 0) (.slice none 0 0)).toArray 95)) a err (msC 0 0 0 (.slice none 0 0) (.slice none 0 0) false 0 z32 z32 0 0 (.slice none 0 0) (.slice none 0 0) (.slice none 0 0))) := Bld.start h _ 95
  have hlt := h.lt
  have hbig := h.big
  have KL := low1 h
  clear h
  obtain ⟨S, hS⟩ : ∃ S, S = msgS T a err := ⟨_, rfl⟩
  rw [← hS]
  unfold msgS at hS
  have HC : Hid _ := rByte_any B0.out.st_.rp.1
  obtain ⟨K, hK⟩ : ∃ K, K = lowN (pL T a err 1) := ⟨_, rfl⟩
  obtain ⟨a1, ha1⟩ : ∃ a1, a1 = pA T a err 1 := ⟨_, rfl⟩
  obtain ⟨e1, he1⟩ : ∃ e1, e1 = pE T a err 1 := ⟨_, rfl⟩
  simp only [← hK, ← ha1, ← he1] at HC KL hS
  have HSS : Hid _ := hS
  clear hK ha1 he1 hS
  obtain ⟨Z, hZ⟩ : ∃ Z, Z = (msC 0 0 0 (.slice none 0 0) (.slice none 0 0) false 0 z32 z32 0 0 (.slice none 0 0) (.slice none 0 0) (.slice none 0 0)) := ⟨_, rfl⟩
  have LZ : Z.length = 76 := by rw [hZ]; exact msC_len _ _ _ _ _ _ _ _ _ _ _ _ _ _ z32_len z32_len
  go_enter Try.func89, Try.ntmps89
  go_wp2_with fail
  refine Calls.mono HC.out ?_
  rintro e w1 ⟨rfl, r1⟩
  have B1 : Hid (Bld w p tv T 95 Z (fun _ => True) w1 a1 e1 (msC 0 0 0 (.slice none 0 0) (.slice none 0 0) false 0 z32 z32 0 0 (.slice none 0 0) (.slice none 0 0) (.slice none 0 0))) := by rw [hZ]; exact B0.out.call r1
  clear r1 HC B0 hZ
  have hc : w1.cell? ⟨w.heap.size + 1, 0, none⟩ = some (.int .i64 0) := B1.out.row.cell 0
  have hf : w1.frozen? ⟨w.heap.size + 1, 0, none⟩ = false := B1.out.row.fr 0
  go_upto_region 3 with fail
  obtain ⟨w2, hw2⟩ : ∃ w2, w2 = w1.setCell ⟨w.heap.size + 1, 0, none⟩ (.int .i64 K) := ⟨_, rfl⟩
  have B2 : Hid (Bld w p tv T 95 Z (fun _ => True) w2 a1 e1 (msC K 0 0 (.slice none 0 0) (.slice none 0 0) false 0 z32 z32 0 0 (.slice none 0 0) (.slice none 0 0) (.slice none 0 0))) := by rw [hw2]; exact B1.out.set 0 (.int .i64 K)
  rw [← hw2]
  clear hw2 B1 hc hf
  have k0 : w2.cell? ⟨w.heap.size + 1, 0, none⟩ = some (.int .i64 K) := B2.out.row.cell 0
  by_cases q1 : K = 1
  · subst q1
    have h9 := HSS.out
    rw [if_pos rfl] at h9
    clear HSS
    have HSS : Hid _ := h9
    clear h9
    go_wp2_with (first
      | (refine wpList_load_part rfl 95 (.tmp 3) rfl (w.heap.size + 1) 0 (msC 1 0 0 (.slice none 0 0) (.slice none 0 0) false 0 z32 z32 0 0 (.slice none 0 0) (.slice none 0 0) (.slice none 0 0)) rfl B2.out.row (by simp) Try.underlying95 rfl (Try.msSz _ _ _ _ _ _ _ _ _ _ _ _ _ _ z32_len z32_len) ?_)
      | (refine wpList_store_part rfl 95 (.tmp 2) (.tmp 106) rfl w.heap.size 0 (msC 1 0 0 (.slice none 0 0) (.slice none 0 0) false 0 z32 z32 0 0 (.slice none 0 0) (.slice none 0 0) (.slice none 0 0)) rfl rfl B2.out.res (by rw [msC_len _ _ _ _ _ _ _ _ _ _ _ _ _ _ z32_len z32_len, LZ]; decide) (Try.msSz _ _ _ _ _ _ _ _ _ _ _ _ _ _ z32_len z32_len) (msC_one _ _ _ _ _ _ _ _ _ _ _ _ _ _ rfl rfl rfl rfl rfl) ?_; intro w8 b8 c8; rw [splice_all _ _ (by rw [msC_len _ _ _ _ _ _ _ _ _ _ _ _ _ _ z32_len z32_len, LZ])] at b8; have RR : Hid _ := b8; have FF : Hid _ := B2.out.fin c8; clear b8 c8))
    exact bodyPost_ret (v := .agg (msC 1 0 0 (.slice none 0 0) (.slice none 0 0) false 0 z32 z32 0 0 (.slice none 0 0) (.slice none 0 0) (.slice none 0 0)).toArray) (results_row1 rfl _ _ w.heap.size 95 _ _ _ rfl RR.out.eq Try.underlying95 rfl (Try.msSz _ _ _ _ _ _ _ _ _ _ _ _ _ _ z32_len z32_len)) rfl (by rw [HSS.out]; exact ⟨⟨(.slice none 0 0), (.slice none 0 0), (.slice none 0 0), (.slice none 0 0), (.slice none 0 0), [], rfl, ⟨Own.nil _, Own.nil _, Own.nil _, GL.nil _ _ _, CM.nil _⟩, rfl, FF.out.1, MsAp.nils _⟩⟩)
  · by_cases q2 : K = 2
    · subst q2
      have h9 := HSS.out
      rw [if_neg (by decide), if_pos rfl] at h9
      clear HSS
      have HSS : Hid _ := h9
      clear h9
      clear q1
      have HC : Hid _ := rNumber_any B2.out.st_.rp.1
      obtain ⟨U, a2, e2, hU⟩ : ∃ U b c, uintS T a1 e1 maxN = (U, b, c) := ⟨_, _, _, rfl⟩
      have hS := HSS.out
      simp only [hU] at HC hS
      clear HSS
      have HSS : Hid _ := hS
      have Um : U ≤ maxN := by have h9 := uintS_most T a1 e1 maxN; rw [hU] at h9; exact h9
      clear hU hS
      go_wp2_with fail
      refine Calls.mono HC.out ?_
      rintro e w3 ⟨rfl, r1⟩
      have B3 : Hid _ := B2.out.call r1
      clear r1 HC B2 k0
      have hc : w3.cell? ⟨w.heap.size + 1, 1, none⟩ = some (.int .u64 0) := B3.out.row.cell 1
      have hf : w3.frozen? ⟨w.heap.size + 1, 1, none⟩ = false := B3.out.row.fr 1
      have B4 : Hid (Bld w p tv T 95 _ _ (w3.setCell ⟨w.heap.size + 1, 1, none⟩ (.int .u64 U)) a2 e2 (msC 2 U 0 (.slice none 0 0) (.slice none 0 0) false 0 z32 z32 0 0 (.slice none 0 0) (.slice none 0 0) (.slice none 0 0))) := B3.out.set 1 (.int .u64 U)
      clear B3
      have HC : Hid _ := span_any B4.out.st_.rp.1
      obtain ⟨P, hP⟩ : ∃ P, P = spanS T a2 e2 := ⟨_, rfl⟩
      have hS := HSS.out
      simp only [← hP] at HC hS
      clear HSS
      have HSS : Hid _ := hS
      clear hP hS
      go_wp2_with fail
      refine Calls.mono HC.out ?_
      intro e w7 hq
      obtain ⟨s1, s2, rfl, o1, o2, r1, a3⟩ := hq.ex
      have AP : Hid (Ap3 w.heap.size s1 s2 (.slice none 0 0)) := a3.mono B4.out.st_.rp.2.size
      clear a3
      obtain ⟨xa, xc, hsf⟩ := Own.form o1
      obtain ⟨x, hn⟩ : ∃ n, n = P.lo.length := ⟨_, rfl⟩
      rw [← hn] at hsf
      subst hsf
      obtain ⟨ya, yc, hsf⟩ := Own.form o2
      obtain ⟨y, hm⟩ : ∃ n, n = P.hi.length := ⟨_, rfl⟩
      rw [← hm] at hsf
      subst hsf
      have B7 : Hid _ := ((B4.out.call r1).more (St.own (by decide) _ _) o1).more (St.own (by decide) _ _) o2
      clear r1 HC B4 o1 o2 hn hm hq hc hf
      go_upto_region 31 with (refine wpList_store_part rfl 89 (.tmp 25) (.tmp 24) rfl (w.heap.size + 1) 3 (spC (.slice xa x xc) (.slice ya y yc) P.op) rfl rfl B7.out.row (by rw [msC_len _ _ _ _ _ _ _ _ _ _ _ _ _ _ z32_len z32_len]; simp [spC]) (Try.spSz _ _ _) (spC_one rfl rfl _) ?_; intro w9 b7 c7; rw [msC_putsp] at b7; have B8 : Hid _ := B7.out.chg b7 c7; clear b7 c7)
      clear B7
      go_wp2_with (first
        | (refine wpList_load_part rfl 95 (.tmp 3) rfl (w.heap.size + 1) 0 (msC 2 U 0 (.slice xa x xc) (.slice ya y yc) P.op 0 z32 z32 0 0 (.slice none 0 0) (.slice none 0 0) (.slice none 0 0)) rfl B8.out.row (by simp) Try.underlying95 rfl (Try.msSz _ _ _ _ _ _ _ _ _ _ _ _ _ _ z32_len z32_len) ?_)
        | (refine wpList_store_part rfl 95 (.tmp 2) (.tmp 106) rfl w.heap.size 0 (msC 2 U 0 (.slice xa x xc) (.slice ya y yc) P.op 0 z32 z32 0 0 (.slice none 0 0) (.slice none 0 0) (.slice none 0 0)) rfl rfl B8.out.res (by rw [msC_len _ _ _ _ _ _ _ _ _ _ _ _ _ _ z32_len z32_len, LZ]; decide) (Try.msSz _ _ _ _ _ _ _ _ _ _ _ _ _ _ z32_len z32_len) (msC_one _ _ _ _ _ _ _ _ _ _ _ _ _ _ rfl rfl rfl rfl rfl) ?_; intro w8 b8 c8; rw [splice_all _ _ (by rw [msC_len _ _ _ _ _ _ _ _ _ _ _ _ _ _ z32_len z32_len, LZ])] at b8; have RR : Hid _ := b8; have FF : Hid _ := B8.out.fin c8; clear b8 c8))
      exact bodyPost_ret (v := .agg (msC 2 U 0 (.slice xa x xc) (.slice ya y yc) P.op 0 z32 z32 0 0 (.slice none 0 0) (.slice none 0 0) (.slice none 0 0)).toArray) (results_row1 rfl _ _ w.heap.size 95 _ _ _ rfl RR.out.eq Try.underlying95 rfl (Try.msSz _ _ _ _ _ _ _ _ _ _ _ _ _ _ z32_len z32_len)) rfl (by rw [HSS.out]; exact ⟨⟨(.slice xa x xc), (.slice ya y yc), (.slice none 0 0), (.slice none 0 0), (.slice none 0 0), [], rfl, ⟨FF.out.2.1.2, FF.out.2.2, Own.nil _, GL.nil _ _ _, CM.nil _⟩, rfl, FF.out.1, MsAp.span AP.out⟩⟩)
    · by_cases q3 : K = 3
      · subst q3
        have h9 := HSS.out
        rw [if_neg (by decide), if_neg (by decide), if_pos rfl] at h9
        clear HSS
        have HSS : Hid _ := h9
        clear h9
        clear q1 q2
        have HC : Hid _ := rNumber_any B2.out.st_.rp.1
        obtain ⟨U, a2, e2, hU⟩ : ∃ U b c, uintS T a1 e1 maxN = (U, b, c) := ⟨_, _, _, rfl⟩
        have hS := HSS.out
        simp only [hU] at HC hS
        clear HSS
        have HSS : Hid _ := hS
        have Um : U ≤ maxN := by have h9 := uintS_most T a1 e1 maxN; rw [hU] at h9; exact h9
        clear hU hS
        go_wp2_with fail
        refine Calls.mono HC.out ?_
        rintro e w3 ⟨rfl, r1⟩
        have B3 : Hid _ := B2.out.call r1
        clear r1 HC B2 k0
        have hc : w3.cell? ⟨w.heap.size + 1, 1, none⟩ = some (.int .u64 0) := B3.out.row.cell 1
        have hf : w3.frozen? ⟨w.heap.size + 1, 1, none⟩ = false := B3.out.row.fr 1
        have B4 : Hid (Bld w p tv T 95 _ _ (w3.setCell ⟨w.heap.size + 1, 1, none⟩ (.int .u64 U)) a2 e2 (msC 3 U 0 (.slice none 0 0) (.slice none 0 0) false 0 z32 z32 0 0 (.slice none 0 0) (.slice none 0 0) (.slice none 0 0))) := B3.out.set 1 (.int .u64 U)
        clear B3
        go_wp2_with (first
          | (refine wpList_load_part rfl 95 (.tmp 3) rfl (w.heap.size + 1) 0 (msC 3 U 0 (.slice none 0 0) (.slice none 0 0) false 0 z32 z32 0 0 (.slice none 0 0) (.slice none 0 0) (.slice none 0 0)) rfl B4.out.row (by simp) Try.underlying95 rfl (Try.msSz _ _ _ _ _ _ _ _ _ _ _ _ _ _ z32_len z32_len) ?_)
          | (refine wpList_store_part rfl 95 (.tmp 2) (.tmp 106) rfl w.heap.size 0 (msC 3 U 0 (.slice none 0 0) (.slice none 0 0) false 0 z32 z32 0 0 (.slice none 0 0) (.slice none 0 0) (.slice none 0 0)) rfl rfl B4.out.res (by rw [msC_len _ _ _ _ _ _ _ _ _ _ _ _ _ _ z32_len z32_len, LZ]; decide) (Try.msSz _ _ _ _ _ _ _ _ _ _ _ _ _ _ z32_len z32_len) (msC_one _ _ _ _ _ _ _ _ _ _ _ _ _ _ rfl rfl rfl rfl rfl) ?_; intro w8 b8 c8; rw [splice_all _ _ (by rw [msC_len _ _ _ _ _ _ _ _ _ _ _ _ _ _ z32_len z32_len, LZ])] at b8; have RR : Hid _ := b8; have FF : Hid _ := B4.out.fin c8; clear b8 c8))
        exact bodyPost_ret (v := .agg (msC 3 U 0 (.slice none 0 0) (.slice none 0 0) false 0 z32 z32 0 0 (.slice none 0 0) (.slice none 0 0) (.slice none 0 0)).toArray) (results_row1 rfl _ _ w.heap.size 95 _ _ _ rfl RR.out.eq Try.underlying95 rfl (Try.msSz _ _ _ _ _ _ _ _ _ _ _ _ _ _ z32_len z32_len)) rfl (by rw [HSS.out]; exact ⟨⟨(.slice none 0 0), (.slice none 0 0), (.slice none 0 0), (.slice none 0 0), (.slice none 0 0), [], rfl, ⟨Own.nil _, Own.nil _, Own.nil _, GL.nil _ _ _, CM.nil _⟩, rfl, FF.out.1, MsAp.nils _⟩⟩)
      · by_cases q4 : K = 4
        · subst q4
          have h9 := HSS.out
          rw [if_neg (by decide), if_neg (by decide), if_neg (by decide), if_pos rfl] at h9
          clear HSS
          have HSS : Hid _ := h9
          clear h9
          clear q1 q2 q3
          have HC : Hid _ := rUint_any B2.out.st_.rp.1 4611686018427387905 (by decide)
          obtain ⟨U, a2, e2, hU⟩ : ∃ U b c, uintS T a1 e1 4611686018427387905 = (U, b, c) := ⟨_, _, _, rfl⟩
          have hS := HSS.out
          simp only [hU] at HC hS
          clear HSS
          have HSS : Hid _ := hS
          have Um : U ≤ 4611686018427387905 := by have h9 := uintS_most T a1 e1 4611686018427387905; rw [hU] at h9; exact h9
          clear hU hS
          go_wp2_with fail
          refine Calls.mono HC.out ?_
          rintro e w3 ⟨rfl, r1⟩
          have B3 : Hid _ := B2.out.call r1
          clear r1 HC B2 k0
          have hc : w3.cell? ⟨w.heap.size + 1, 2, none⟩ = some (.int .u64 0) := B3.out.row.cell 2
          have hf : w3.frozen? ⟨w.heap.size + 1, 2, none⟩ = false := B3.out.row.fr 2
          have B4 : Hid (Bld w p tv T 95 _ _ (w3.setCell ⟨w.heap.size + 1, 2, none⟩ (.int .u64 U)) a2 e2 (msC 4 0 U (.slice none 0 0) (.slice none 0 0) false 0 z32 z32 0 0 (.slice none 0 0) (.slice none 0 0) (.slice none 0 0))) := B3.out.set 2 (.int .u64 U)
          clear B3
          go_wp2_with (first
            | (refine wpList_load_part rfl 95 (.tmp 3) rfl (w.heap.size + 1) 0 (msC 4 0 U (.slice none 0 0) (.slice none 0 0) false 0 z32 z32 0 0 (.slice none 0 0) (.slice none 0 0) (.slice none 0 0)) rfl B4.out.row (by simp) Try.underlying95 rfl (Try.msSz _ _ _ _ _ _ _ _ _ _ _ _ _ _ z32_len z32_len) ?_)
            | (refine wpList_store_part rfl 95 (.tmp 2) (.tmp 106) rfl w.heap.size 0 (msC 4 0 U (.slice none 0 0) (.slice none 0 0) false 0 z32 z32 0 0 (.slice none 0 0) (.slice none 0 0) (.slice none 0 0)) rfl rfl B4.out.res (by rw [msC_len _ _ _ _ _ _ _ _ _ _ _ _ _ _ z32_len z32_len, LZ]; decide) (Try.msSz _ _ _ _ _ _ _ _ _ _ _ _ _ _ z32_len z32_len) (msC_one _ _ _ _ _ _ _ _ _ _ _ _ _ _ rfl rfl rfl rfl rfl) ?_; intro w8 b8 c8; rw [splice_all _ _ (by rw [msC_len _ _ _ _ _ _ _ _ _ _ _ _ _ _ z32_len z32_len, LZ])] at b8; have RR : Hid _ := b8; have FF : Hid _ := B4.out.fin c8; clear b8 c8))
          exact bodyPost_ret (v := .agg (msC 4 0 U (.slice none 0 0) (.slice none 0 0) false 0 z32 z32 0 0 (.slice none 0 0) (.slice none 0 0) (.slice none 0 0)).toArray) (results_row1 rfl _ _ w.heap.size 95 _ _ _ rfl RR.out.eq Try.underlying95 rfl (Try.msSz _ _ _ _ _ _ _ _ _ _ _ _ _ _ z32_len z32_len)) rfl (by rw [HSS.out]; exact ⟨⟨(.slice none 0 0), (.slice none 0 0), (.slice none 0 0), (.slice none 0 0), (.slice none 0 0), [], rfl, ⟨Own.nil _, Own.nil _, Own.nil _, GL.nil _ _ _, CM.nil _⟩, rfl, FF.out.1, MsAp.nils _⟩⟩)
        · by_cases q5 : K = 5
          · subst q5
            have h9 := HSS.out
            rw [if_neg (by decide), if_neg (by decide), if_neg (by decide), if_neg (by decide), if_pos rfl] at h9
            clear HSS
            have HSS : Hid _ := h9
            clear h9
            clear q1 q2 q3 q4
            have HC : Hid _ := rNumber_any B2.out.st_.rp.1
            obtain ⟨U, a2, e2, hU⟩ : ∃ U b c, uintS T a1 e1 maxN = (U, b, c) := ⟨_, _, _, rfl⟩
            have hS := HSS.out
            simp only [hU] at HC hS
            clear HSS
            have HSS : Hid _ := hS
            have Um : U ≤ maxN := by have h9 := uintS_most T a1 e1 maxN; rw [hU] at h9; exact h9
            clear hU hS
            go_wp2_with fail
            refine Calls.mono HC.out ?_
            rintro e w3 ⟨rfl, r1⟩
            have B3 : Hid _ := B2.out.call r1
            clear r1 HC B2 k0
            have hc : w3.cell? ⟨w.heap.size + 1, 2, none⟩ = some (.int .u64 0) := B3.out.row.cell 2
            have hf : w3.frozen? ⟨w.heap.size + 1, 2, none⟩ = false := B3.out.row.fr 2
            have B4 : Hid (Bld w p tv T 95 _ _ (w3.setCell ⟨w.heap.size + 1, 2, none⟩ (.int .u64 U)) a2 e2 (msC 5 0 U (.slice none 0 0) (.slice none 0 0) false 0 z32 z32 0 0 (.slice none 0 0) (.slice none 0 0) (.slice none 0 0))) := B3.out.set 2 (.int .u64 U)
            clear B3
            have HC : Hid _ := rNumber_any B4.out.st_.rp.1
            obtain ⟨V, a3, e3, hU⟩ : ∃ U b c, uintS T a2 e2 maxN = (U, b, c) := ⟨_, _, _, rfl⟩
            have hS := HSS.out
            simp only [hU] at HC hS
            clear HSS
            have HSS : Hid _ := hS
            have Vm : V ≤ maxN := by have h9 := uintS_most T a2 e2 maxN; rw [hU] at h9; exact h9
            clear hU hS
            go_wp2_with fail
            refine Calls.mono HC.out ?_
            rintro e w5 ⟨rfl, r1⟩
            have B5 : Hid _ := B4.out.call r1
            clear r1 HC B4 hc hf
            have hc : w5.cell? ⟨w.heap.size + 1, 1, none⟩ = some (.int .u64 0) := B5.out.row.cell 1
            have hf : w5.frozen? ⟨w.heap.size + 1, 1, none⟩ = false := B5.out.row.fr 1
            have B6 : Hid (Bld w p tv T 95 _ _ (w5.setCell ⟨w.heap.size + 1, 1, none⟩ (.int .u64 V)) a3 e3 (msC 5 V U (.slice none 0 0) (.slice none 0 0) false 0 z32 z32 0 0 (.slice none 0 0) (.slice none 0 0) (.slice none 0 0))) := B5.out.set 1 (.int .u64 V)
            clear B5
            go_wp2_with (first
              | (refine wpList_load_part rfl 95 (.tmp 3) rfl (w.heap.size + 1) 0 (msC 5 V U (.slice none 0 0) (.slice none 0 0) false 0 z32 z32 0 0 (.slice none 0 0) (.slice none 0 0) (.slice none 0 0)) rfl B6.out.row (by simp) Try.underlying95 rfl (Try.msSz _ _ _ _ _ _ _ _ _ _ _ _ _ _ z32_len z32_len) ?_)
              | (refine wpList_store_part rfl 95 (.tmp 2) (.tmp 106) rfl w.heap.size 0 (msC 5 V U (.slice none 0 0) (.slice none 0 0) false 0 z32 z32 0 0 (.slice none 0 0) (.slice none 0 0) (.slice none 0 0)) rfl rfl B6.out.res (by rw [msC_len _ _ _ _ _ _ _ _ _ _ _ _ _ _ z32_len z32_len, LZ]; decide) (Try.msSz _ _ _ _ _ _ _ _ _ _ _ _ _ _ z32_len z32_len) (msC_one _ _ _ _ _ _ _ _ _ _ _ _ _ _ rfl rfl rfl rfl rfl) ?_; intro w8 b8 c8; rw [splice_all _ _ (by rw [msC_len _ _ _ _ _ _ _ _ _ _ _ _ _ _ z32_len z32_len, LZ])] at b8; have RR : Hid _ := b8; have FF : Hid _ := B6.out.fin c8; clear b8 c8))
            exact bodyPost_ret (v := .agg (msC 5 V U (.slice none 0 0) (.slice none 0 0) false 0 z32 z32 0 0 (.slice none 0 0) (.slice none 0 0) (.slice none 0 0)).toArray) (results_row1 rfl _ _ w.heap.size 95 _ _ _ rfl RR.out.eq Try.underlying95 rfl (Try.msSz _ _ _ _ _ _ _ _ _ _ _ _ _ _ z32_len z32_len)) rfl (by rw [HSS.out]; exact ⟨⟨(.slice none 0 0), (.slice none 0 0), (.slice none 0 0), (.slice none 0 0), (.slice none 0 0), [], rfl, ⟨Own.nil _, Own.nil _, Own.nil _, GL.nil _ _ _, CM.nil _⟩, rfl, FF.out.1, MsAp.nils _⟩⟩)
          · by_cases q11 : K = 11
            · subst q11
              have h9 := HSS.out
              rw [if_neg (by decide), if_neg (by decide), if_neg (by decide), if_neg (by decide), if_neg (by decide), if_pos rfl] at h9
              clear HSS
              have HSS : Hid _ := h9
              clear h9
              clear q1 q2 q3 q4 q5
              have HC : Hid _ := rNumber_any B2.out.st_.rp.1
              obtain ⟨U, a2, e2, hU⟩ : ∃ U b c, uintS T a1 e1 maxN = (U, b, c) := ⟨_, _, _, rfl⟩
              have hS := HSS.out
              simp only [hU] at HC hS
              clear HSS
              have HSS : Hid _ := hS
              have Um : U ≤ maxN := by have h9 := uintS_most T a1 e1 maxN; rw [hU] at h9; exact h9
              clear hU hS
              go_wp2_with fail
              refine Calls.mono HC.out ?_
              rintro e w3 ⟨rfl, r1⟩
              have B3 : Hid _ := B2.out.call r1
              clear r1 HC B2 k0
              have hc : w3.cell? ⟨w.heap.size + 1, 1, none⟩ = some (.int .u64 0) := B3.out.row.cell 1
              have hf : w3.frozen? ⟨w.heap.size + 1, 1, none⟩ = false := B3.out.row.fr 1
              have B4 : Hid (Bld w p tv T 95 _ _ (w3.setCell ⟨w.heap.size + 1, 1, none⟩ (.int .u64 U)) a2 e2 (msC 11 U 0 (.slice none 0 0) (.slice none 0 0) false 0 z32 z32 0 0 (.slice none 0 0) (.slice none 0 0) (.slice none 0 0))) := B3.out.set 1 (.int .u64 U)
              clear B3
              have HC : Hid _ := rSum_any B4.out.st_.rp.1
              obtain ⟨y, hy⟩ : ∃ y, y = pad 32 (pL T a2 e2 32) := ⟨_, rfl⟩
              have Hy : y.length = 32 := by rw [hy]; exact pad_len (pL_len T a2 e2 32)
              obtain ⟨a3, ha2⟩ : ∃ b, b = pA T a2 e2 32 := ⟨_, rfl⟩
              obtain ⟨e3, he2⟩ : ∃ b, b = pE T a2 e2 32 := ⟨_, rfl⟩
              have hS := HSS.out
              simp only [← hy, ← ha2, ← he2] at HC hS
              clear HSS
              have HSS : Hid _ := hS
              clear hy ha2 he2 hS
              go_wp2_with fail
              refine Calls.mono HC.out ?_
              rintro e w5 ⟨rfl, r1⟩
              have B5 : Hid _ := B4.out.call r1
              clear r1 HC B4 hc hf
              go_upto_region 19 with (refine wpList_store_part rfl 31 (.tmp 55) (.tmp 54) rfl (w.heap.size + 1) 39 (bs y) rfl rfl B5.out.row (by rw [msC_len _ _ _ _ _ _ _ _ _ _ _ _ _ _ z32_len z32_len, bs_len, Hy]; decide) (Try.sumSz' y Hy) (bs_one y) ?_; intro w6 b7 c7; rw [msC_putlb _ _ _ _ _ _ _ _ _ _ _ _ _ _ z32_len _ (by rw [z32_len, Hy])] at b7; have B6 : Hid _ := B5.out.chg b7 c7; clear b7 c7)
              clear B5
              have HC : Hid _ := rNumber_any B6.out.st_.rp.1
              obtain ⟨V, a4, e4, hU⟩ : ∃ U b c, uintS T a3 e3 maxN = (U, b, c) := ⟨_, _, _, rfl⟩
              have hS := HSS.out
              simp only [hU] at HC hS
              clear HSS
              have HSS : Hid _ := hS
              have Vm : V ≤ maxN := by have h9 := uintS_most T a3 e3 maxN; rw [hU] at h9; exact h9
              clear hU hS
              go_wp2_with fail
              refine Calls.mono HC.out ?_
              rintro e w7 ⟨rfl, r1⟩
              have B7 : Hid _ := B6.out.call r1
              clear r1 HC B6 
              have hc : w7.cell? ⟨w.heap.size + 1, 71, none⟩ = some (.int .u64 0) := by rw [B7.out.row.cell]; exact msC_at _ _ _ _ _ _ _ _ _ _ _ _ _ _ z32_len Hy 0
              have hf : w7.frozen? ⟨w.heap.size + 1, 71, none⟩ = false := B7.out.row.fr 71
              have h9 := B7.out.set 71 (.int .u64 V)
              rw [msC_setct _ _ _ _ _ _ _ _ _ _ _ _ _ _ z32_len Hy] at h9
              have B8 : Hid _ := h9
              clear h9
              clear B7
              have HC : Hid _ := rUint_any B8.out.st_.rp.1 4611686018427387905 (by decide)
              obtain ⟨X, a5, e5, hU⟩ : ∃ U b c, uintS T a4 e4 4611686018427387905 = (U, b, c) := ⟨_, _, _, rfl⟩
              have hS := HSS.out
              simp only [hU] at HC hS
              clear HSS
              have HSS : Hid _ := hS
              have Xm : X ≤ 4611686018427387905 := by have h9 := uintS_most T a4 e4 4611686018427387905; rw [hU] at h9; exact h9
              clear hU hS
              go_wp2_with fail
              refine Calls.mono HC.out ?_
              rintro e w9 ⟨rfl, r1⟩
              have B9 : Hid _ := B8.out.call r1
              clear r1 HC B8 hc hf
              have hc : w9.cell? ⟨w.heap.size + 1, 6, none⟩ = some (.int .u64 0) := B9.out.row.cell 6
              have hf : w9.frozen? ⟨w.heap.size + 1, 6, none⟩ = false := B9.out.row.fr 6
              have B10 : Hid (Bld w p tv T 95 _ _ (w9.setCell ⟨w.heap.size + 1, 6, none⟩ (.int .u64 X)) a5 e5 (msC 11 U 0 (.slice none 0 0) (.slice none 0 0) false X z32 y V 0 (.slice none 0 0) (.slice none 0 0) (.slice none 0 0))) := B9.out.set 6 (.int .u64 X)
              clear B9
              have HC : Hid _ := rSum_any B10.out.st_.rp.1
              obtain ⟨z, hy⟩ : ∃ y, y = pad 32 (pL T a5 e5 32) := ⟨_, rfl⟩
              have Hz : z.length = 32 := by rw [hy]; exact pad_len (pL_len T a5 e5 32)
              obtain ⟨a6, ha2⟩ : ∃ b, b = pA T a5 e5 32 := ⟨_, rfl⟩
              obtain ⟨e6, he2⟩ : ∃ b, b = pE T a5 e5 32 := ⟨_, rfl⟩
              have hS := HSS.out
              simp only [← hy, ← ha2, ← he2] at HC hS
              clear HSS
              have HSS : Hid _ := hS
              clear hy ha2 he2 hS
              go_wp2_with fail
              refine Calls.mono HC.out ?_
              rintro e w11 ⟨rfl, r1⟩
              have B11 : Hid _ := B10.out.call r1
              clear r1 HC B10 hc hf
              go_upto_region 31 with (refine wpList_store_part rfl 31 (.tmp 70) (.tmp 68) rfl (w.heap.size + 1) 7 (bs z) rfl rfl B11.out.row (by rw [msC_len _ _ _ _ _ _ _ _ _ _ _ _ _ _ z32_len Hy, bs_len, Hz]; decide) (Try.sumSz' z Hz) (bs_one z) ?_; intro w12 b7 c7; rw [msC_puthl _ _ _ _ _ _ _ _ _ _ _ _ _ _ _ (by rw [z32_len, Hz])] at b7; have B12 : Hid _ := B11.out.chg b7 c7; clear b7 c7)
              clear B11
              go_wp2_with (first
                | (refine wpList_load_part rfl 95 (.tmp 3) rfl (w.heap.size + 1) 0 (msC 11 U 0 (.slice none 0 0) (.slice none 0 0) false X z y V 0 (.slice none 0 0) (.slice none 0 0) (.slice none 0 0)) rfl B12.out.row (by simp) Try.underlying95 rfl (Try.msSz _ _ _ _ _ _ _ _ _ _ _ _ _ _ Hz Hy) ?_)
                | (refine wpList_store_part rfl 95 (.tmp 2) (.tmp 106) rfl w.heap.size 0 (msC 11 U 0 (.slice none 0 0) (.slice none 0 0) false X z y V 0 (.slice none 0 0) (.slice none 0 0) (.slice none 0 0)) rfl rfl B12.out.res (by rw [msC_len _ _ _ _ _ _ _ _ _ _ _ _ _ _ Hz Hy, LZ]; decide) (Try.msSz _ _ _ _ _ _ _ _ _ _ _ _ _ _ Hz Hy) (msC_one _ _ _ _ _ _ _ _ _ _ _ _ _ _ rfl rfl rfl rfl rfl) ?_; intro w8 b8 c8; rw [splice_all _ _ (by rw [msC_len _ _ _ _ _ _ _ _ _ _ _ _ _ _ Hz Hy, LZ])] at b8; have RR : Hid _ := b8; have FF : Hid _ := B12.out.fin c8; clear b8 c8))
              exact bodyPost_ret (v := .agg (msC 11 U 0 (.slice none 0 0) (.slice none 0 0) false X z y V 0 (.slice none 0 0) (.slice none 0 0) (.slice none 0 0)).toArray) (results_row1 rfl _ _ w.heap.size 95 _ _ _ rfl RR.out.eq Try.underlying95 rfl (Try.msSz _ _ _ _ _ _ _ _ _ _ _ _ _ _ Hz Hy)) rfl (by rw [HSS.out]; exact ⟨⟨(.slice none 0 0), (.slice none 0 0), (.slice none 0 0), (.slice none 0 0), (.slice none 0 0), [], rfl, ⟨Own.nil _, Own.nil _, Own.nil _, GL.nil _ _ _, CM.nil _⟩, rfl, FF.out.1, MsAp.nils _⟩⟩)
            · by_cases q12 : K = 12
              · subst q12
                have h9 := HSS.out
                rw [if_neg (by decide), if_neg (by decide), if_neg (by decide), if_neg (by decide), if_neg (by decide), if_neg (by decide), if_pos rfl] at h9
                clear HSS
                have HSS : Hid _ := h9
                clear h9
                clear q1 q2 q3 q4 q5 q11
                have HC : Hid _ := rText_any B2.out.st_.rp.1 4194304 (by decide) (by decide)
                obtain ⟨L, a2, e2, hL⟩ : ∃ F b c, textS T a1 e1 4194304 = (F, b, c) := ⟨_, _, _, rfl⟩
                have hS := HSS.out
                simp only [hL] at HC hS
                clear HSS
                have HSS : Hid _ := hS
                clear hL hS
                go_wp2_with fail
                refine Calls.mono HC.out ?_
                rintro e w3 ⟨s, rfl, o1, r1, g1⟩
                have AP : Hid (∀ g, s.ownBlock = some g → w.heap.size ≤ g) := fun g hg => Nat.le_trans B2.out.st_.rp.2.size (g1 g hg)
                clear g1
                obtain ⟨xa, xc, hsf⟩ := Own.form o1
                obtain ⟨x, hn⟩ : ∃ n, n = L.length := ⟨_, rfl⟩
                rw [← hn] at hsf
                subst hsf
                have B3 : Hid _ := (B2.out.call r1).more (St.own (by decide) _ _) o1
                clear r1 HC B2 o1 hn k0
                have hc : w3.cell? ⟨w.heap.size + 1, 73, none⟩ = some (.slice none 0 0) := by rw [B3.out.row.cell]; exact msC_at _ _ _ _ _ _ _ _ _ _ _ _ _ _ z32_len z32_len 2
                have hf : w3.frozen? ⟨w.heap.size + 1, 73, none⟩ = false := B3.out.row.fr 73
                have h9 := B3.out.set 73 (.slice xa x xc)
                rw [msC_setbo _ _ _ _ _ _ _ _ _ _ _ _ _ _ z32_len z32_len] at h9
                have B4 : Hid _ := h9
                clear h9
                clear B3
                go_wp2_with (first
                  | (refine wpList_load_part rfl 95 (.tmp 3) rfl (w.heap.size + 1) 0 (msC 12 0 0 (.slice none 0 0) (.slice none 0 0) false 0 z32 z32 0 0 (.slice xa x xc) (.slice none 0 0) (.slice none 0 0)) rfl B4.out.row (by simp) Try.underlying95 rfl (Try.msSz _ _ _ _ _ _ _ _ _ _ _ _ _ _ z32_len z32_len) ?_)
                  | (refine wpList_store_part rfl 95 (.tmp 2) (.tmp 106) rfl w.heap.size 0 (msC 12 0 0 (.slice none 0 0) (.slice none 0 0) false 0 z32 z32 0 0 (.slice xa x xc) (.slice none 0 0) (.slice none 0 0)) rfl rfl B4.out.res (by rw [msC_len _ _ _ _ _ _ _ _ _ _ _ _ _ _ z32_len z32_len, LZ]; decide) (Try.msSz _ _ _ _ _ _ _ _ _ _ _ _ _ _ z32_len z32_len) (msC_one _ _ _ _ _ _ _ _ _ _ _ _ _ _ rfl rfl rfl rfl rfl) ?_; intro w8 b8 c8; rw [splice_all _ _ (by rw [msC_len _ _ _ _ _ _ _ _ _ _ _ _ _ _ z32_len z32_len, LZ])] at b8; have RR : Hid _ := b8; have FF : Hid _ := B4.out.fin c8; clear b8 c8))
                exact bodyPost_ret (v := .agg (msC 12 0 0 (.slice none 0 0) (.slice none 0 0) false 0 z32 z32 0 0 (.slice xa x xc) (.slice none 0 0) (.slice none 0 0)).toArray) (results_row1 rfl _ _ w.heap.size 95 _ _ _ rfl RR.out.eq Try.underlying95 rfl (Try.msSz _ _ _ _ _ _ _ _ _ _ _ _ _ _ z32_len z32_len)) rfl (by rw [HSS.out]; exact ⟨⟨(.slice none 0 0), (.slice none 0 0), (.slice xa x xc), (.slice none 0 0), (.slice none 0 0), [], rfl, ⟨Own.nil _, Own.nil _, FF.out.2.2, GL.nil _ _ _, CM.nil _⟩, rfl, FF.out.1, MsAp.body AP.out⟩⟩)
              · by_cases q13 : K = 13
                · subst q13
                  have h9 := HSS.out
                  rw [if_neg (by decide), if_neg (by decide), if_neg (by decide), if_neg (by decide), if_neg (by decide), if_neg (by decide), if_neg (by decide), if_pos (.inl rfl)] at h9
                  clear HSS
                  have HSS : Hid _ := h9
                  clear h9
                  clear q1 q2 q3 q4 q5 q11 q12
                  have HC : Hid _ := rUint_any B2.out.st_.rp.1 128 (by decide)
                  obtain ⟨U, a2, e2, hU⟩ : ∃ U b c, uintS T a1 e1 128 = (U, b, c) := ⟨_, _, _, rfl⟩
                  have hS := HSS.out
                  simp only [hU] at HC hS
                  clear HSS
                  have HSS : Hid _ := hS
                  have Um : U ≤ 128 := by have h9 := uintS_most T a1 e1 128; rw [hU] at h9; exact h9
                  clear hU hS
                  go_wp2_with fail
                  refine Calls.mono HC.out ?_
                  rintro e w3 ⟨rfl, r1⟩
                  have B3 : Hid _ := B2.out.call r1
                  clear r1 HC B2 k0
                  have HC : Hid _ := manySum_any B3.out.st_.rp.1 U Um
                  obtain ⟨M, a3, e3, hM⟩ : ∃ F b c, manyE sumE T U a2 e2 = (F, b, c) := ⟨_, _, _, rfl⟩
                  have hS := HSS.out
                  simp only [hM] at HC hS
                  clear HSS
                  have HSS : Hid _ := hS
                  clear hM hS Um
                  go_wp2_with fail
                  refine Calls.mono HC.out ?_
                  rintro e w5 ⟨v1, rfl, gl1, r1, g1⟩
                  have AP : Hid (∀ g, v1.ownBlock = some g → w.heap.size ≤ g) := fun g hg => Nat.le_trans B3.out.st_.rp.2.size (g1 g hg)
                  clear g1
                  obtain ⟨xa, xc, hsf⟩ := gl1.form
                  obtain ⟨x, hn⟩ : ∃ n, n = M.length := ⟨_, rfl⟩
                  rw [← hn] at hsf
                  subst hsf
                  have B5 : Hid _ := (B3.out.call r1).more (St.gl (by decide) (by decide) _ _) gl1
                  clear r1 HC B3 gl1 hn
                  have hc : w5.cell? ⟨w.heap.size + 1, 74, none⟩ = some (.slice none 0 0) := by rw [B5.out.row.cell]; exact msC_at _ _ _ _ _ _ _ _ _ _ _ _ _ _ z32_len z32_len 3
                  have hf : w5.frozen? ⟨w.heap.size + 1, 74, none⟩ = false := B5.out.row.fr 74
                  have h9 := B5.out.set 74 (.slice xa x xc)
                  rw [msC_setpa _ _ _ _ _ _ _ _ _ _ _ _ _ _ z32_len z32_len] at h9
                  have B6 : Hid _ := h9
                  clear h9
                  clear B5
                  go_wp2_with (first
                    | (refine wpList_load_part rfl 95 (.tmp 3) rfl (w.heap.size + 1) 0 (msC 13 0 0 (.slice none 0 0) (.slice none 0 0) false 0 z32 z32 0 0 (.slice none 0 0) (.slice xa x xc) (.slice none 0 0)) rfl B6.out.row (by simp) Try.underlying95 rfl (Try.msSz _ _ _ _ _ _ _ _ _ _ _ _ _ _ z32_len z32_len) ?_)
                    | (refine wpList_store_part rfl 95 (.tmp 2) (.tmp 106) rfl w.heap.size 0 (msC 13 0 0 (.slice none 0 0) (.slice none 0 0) false 0 z32 z32 0 0 (.slice none 0 0) (.slice xa x xc) (.slice none 0 0)) rfl rfl B6.out.res (by rw [msC_len _ _ _ _ _ _ _ _ _ _ _ _ _ _ z32_len z32_len, LZ]; decide) (Try.msSz _ _ _ _ _ _ _ _ _ _ _ _ _ _ z32_len z32_len) (msC_one _ _ _ _ _ _ _ _ _ _ _ _ _ _ rfl rfl rfl rfl rfl) ?_; intro w8 b8 c8; rw [splice_all _ _ (by rw [msC_len _ _ _ _ _ _ _ _ _ _ _ _ _ _ z32_len z32_len, LZ])] at b8; have RR : Hid _ := b8; have FF : Hid _ := B6.out.fin c8; clear b8 c8))
                  exact bodyPost_ret (v := .agg (msC 13 0 0 (.slice none 0 0) (.slice none 0 0) false 0 z32 z32 0 0 (.slice none 0 0) (.slice xa x xc) (.slice none 0 0)).toArray) (results_row1 rfl _ _ w.heap.size 95 _ _ _ rfl RR.out.eq Try.underlying95 rfl (Try.msSz _ _ _ _ _ _ _ _ _ _ _ _ _ _ z32_len z32_len)) rfl (by rw [HSS.out]; exact ⟨⟨(.slice none 0 0), (.slice none 0 0), (.slice none 0 0), (.slice xa x xc), (.slice none 0 0), [], rfl, ⟨Own.nil _, Own.nil _, Own.nil _, FF.out.2.2, CM.nil _⟩, rfl, FF.out.1, MsAp.path AP.out⟩⟩)
                · by_cases q14 : K = 14
                  · subst q14
                    have h9 := HSS.out
                    rw [if_neg (by decide), if_neg (by decide), if_neg (by decide), if_neg (by decide), if_neg (by decide), if_neg (by decide), if_neg (by decide), if_pos (.inr rfl)] at h9
                    clear HSS
                    have HSS : Hid _ := h9
                    clear h9
                    clear q1 q2 q3 q4 q5 q11 q12 q13
                    have HC : Hid _ := rUint_any B2.out.st_.rp.1 128 (by decide)
                    obtain ⟨U, a2, e2, hU⟩ : ∃ U b c, uintS T a1 e1 128 = (U, b, c) := ⟨_, _, _, rfl⟩
                    have hS := HSS.out
                    simp only [hU] at HC hS
                    clear HSS
                    have HSS : Hid _ := hS
                    have Um : U ≤ 128 := by have h9 := uintS_most T a1 e1 128; rw [hU] at h9; exact h9
                    clear hU hS
                    go_wp2_with fail
                    refine Calls.mono HC.out ?_
                    rintro e w3 ⟨rfl, r1⟩
                    have B3 : Hid _ := B2.out.call r1
                    clear r1 HC B2 k0
                    have HC : Hid _ := manySum_any B3.out.st_.rp.1 U Um
                    obtain ⟨M, a3, e3, hM⟩ : ∃ F b c, manyE sumE T U a2 e2 = (F, b, c) := ⟨_, _, _, rfl⟩
                    have hS := HSS.out
                    simp only [hM] at HC hS
                    clear HSS
                    have HSS : Hid _ := hS
                    clear hM hS Um
                    go_wp2_with fail
                    refine Calls.mono HC.out ?_
                    rintro e w5 ⟨v1, rfl, gl1, r1, g1⟩
                    have AP : Hid (∀ g, v1.ownBlock = some g → w.heap.size ≤ g) := fun g hg => Nat.le_trans B3.out.st_.rp.2.size (g1 g hg)
                    clear g1
                    obtain ⟨xa, xc, hsf⟩ := gl1.form
                    obtain ⟨x, hn⟩ : ∃ n, n = M.length := ⟨_, rfl⟩
                    rw [← hn] at hsf
                    subst hsf
                    have B5 : Hid _ := (B3.out.call r1).more (St.gl (by decide) (by decide) _ _) gl1
                    clear r1 HC B3 gl1 hn
                    have hc : w5.cell? ⟨w.heap.size + 1, 74, none⟩ = some (.slice none 0 0) := by rw [B5.out.row.cell]; exact msC_at _ _ _ _ _ _ _ _ _ _ _ _ _ _ z32_len z32_len 3
                    have hf : w5.frozen? ⟨w.heap.size + 1, 74, none⟩ = false := B5.out.row.fr 74
                    have h9 := B5.out.set 74 (.slice xa x xc)
                    rw [msC_setpa _ _ _ _ _ _ _ _ _ _ _ _ _ _ z32_len z32_len] at h9
                    have B6 : Hid _ := h9
                    clear h9
                    clear B5
                    go_wp2_with (first
                      | (refine wpList_load_part rfl 95 (.tmp 3) rfl (w.heap.size + 1) 0 (msC 14 0 0 (.slice none 0 0) (.slice none 0 0) false 0 z32 z32 0 0 (.slice none 0 0) (.slice xa x xc) (.slice none 0 0)) rfl B6.out.row (by simp) Try.underlying95 rfl (Try.msSz _ _ _ _ _ _ _ _ _ _ _ _ _ _ z32_len z32_len) ?_)
                      | (refine wpList_store_part rfl 95 (.tmp 2) (.tmp 106) rfl w.heap.size 0 (msC 14 0 0 (.slice none 0 0) (.slice none 0 0) false 0 z32 z32 0 0 (.slice none 0 0) (.slice xa x xc) (.slice none 0 0)) rfl rfl B6.out.res (by rw [msC_len _ _ _ _ _ _ _ _ _ _ _ _ _ _ z32_len z32_len, LZ]; decide) (Try.msSz _ _ _ _ _ _ _ _ _ _ _ _ _ _ z32_len z32_len) (msC_one _ _ _ _ _ _ _ _ _ _ _ _ _ _ rfl rfl rfl rfl rfl) ?_; intro w8 b8 c8; rw [splice_all _ _ (by rw [msC_len _ _ _ _ _ _ _ _ _ _ _ _ _ _ z32_len z32_len, LZ])] at b8; have RR : Hid _ := b8; have FF : Hid _ := B6.out.fin c8; clear b8 c8))
                    exact bodyPost_ret (v := .agg (msC 14 0 0 (.slice none 0 0) (.slice none 0 0) false 0 z32 z32 0 0 (.slice none 0 0) (.slice xa x xc) (.slice none 0 0)).toArray) (results_row1 rfl _ _ w.heap.size 95 _ _ _ rfl RR.out.eq Try.underlying95 rfl (Try.msSz _ _ _ _ _ _ _ _ _ _ _ _ _ _ z32_len z32_len)) rfl (by rw [HSS.out]; exact ⟨⟨(.slice none 0 0), (.slice none 0 0), (.slice none 0 0), (.slice xa x xc), (.slice none 0 0), [], rfl, ⟨Own.nil _, Own.nil _, Own.nil _, FF.out.2.2, CM.nil _⟩, rfl, FF.out.1, MsAp.path AP.out⟩⟩)
                  · by_cases q15 : K = 15
                    · subst q15
                      have h9 := HSS.out
                      rw [if_neg (by decide), if_neg (by decide), if_neg (by decide), if_neg (by decide), if_neg (by decide), if_neg (by decide), if_neg (by decide), if_neg (by decide), if_pos rfl] at h9
                      clear HSS
                      have HSS : Hid _ := h9
                      clear h9
                      clear q1 q2 q3 q4 q5 q11 q12 q13 q14
                      have HC : Hid _ := rUint_any B2.out.st_.rp.1 4194304 (by decide)
                      obtain ⟨U, a2, e2, hU⟩ : ∃ U b c, uintS T a1 e1 4194304 = (U, b, c) := ⟨_, _, _, rfl⟩
                      have hS := HSS.out
                      simp only [hU] at HC hS
                      clear HSS
                      have HSS : Hid _ := hS
                      have Um : U ≤ 4194304 := by have h9 := uintS_most T a1 e1 4194304; rw [hU] at h9; exact h9
                      clear hU hS
                      go_wp2_with fail
                      refine Calls.mono HC.out ?_
                      rintro e w3 ⟨rfl, r1⟩
                      have B3 : Hid _ := B2.out.call r1
                      clear r1 HC B2 k0
                      have HC : Hid _ := manyChange_any B3.out.st_.rp.1 U Um
                      obtain ⟨M, a3, e3, hM⟩ : ∃ F b c, manyC T U a2 e2 = (F, b, c) := ⟨_, _, _, rfl⟩
                      have hS := HSS.out
                      simp only [hM] at HC hS
                      clear HSS
                      have HSS : Hid _ := hS
                      clear hM hS Um
                      go_wp2_with fail
                      refine Calls.mono HC.out ?_
                      rintro e w5 ⟨v1, LL, rfl, hLL, gl1, r1, g1, g2⟩
                      have AP : Hid (∀ g, v1.ownBlock = some g → w.heap.size ≤ g) := fun g hg => Nat.le_trans B3.out.st_.rp.2.size (g1 g hg)
                      have AP2 : Hid (∀ o, o ∈ LL → ∀ g, cB o g → w.heap.size ≤ g) := fun o ho g hg => Nat.le_trans B3.out.st_.rp.2.size (g2 o ho g hg)
                      clear g1 g2
                      have HLL : Hid _ := hLL
                      clear hLL
                      obtain ⟨xa, xc, hsf⟩ := gl1.form
                      obtain ⟨x, hn⟩ : ∃ n, n = LL.length := ⟨_, rfl⟩
                      rw [← hn] at hsf
                      subst hsf
                      have B5 : Hid _ := (B3.out.call r1).more (St.cm (by decide) (by decide) _ _) gl1
                      clear r1 HC B3 gl1 hn
                      have hc : w5.cell? ⟨w.heap.size + 1, 75, none⟩ = some (.slice none 0 0) := by rw [B5.out.row.cell]; exact msC_at _ _ _ _ _ _ _ _ _ _ _ _ _ _ z32_len z32_len 4
                      have hf : w5.frozen? ⟨w.heap.size + 1, 75, none⟩ = false := B5.out.row.fr 75
                      have h9 := B5.out.set 75 (.slice xa x xc)
                      rw [msC_setcg _ _ _ _ _ _ _ _ _ _ _ _ _ _ z32_len z32_len] at h9
                      have B6 : Hid _ := h9
                      clear h9
                      clear B5
                      go_wp2_with (first
                        | (refine wpList_load_part rfl 95 (.tmp 3) rfl (w.heap.size + 1) 0 (msC 15 0 0 (.slice none 0 0) (.slice none 0 0) false 0 z32 z32 0 0 (.slice none 0 0) (.slice none 0 0) (.slice xa x xc)) rfl B6.out.row (by simp) Try.underlying95 rfl (Try.msSz _ _ _ _ _ _ _ _ _ _ _ _ _ _ z32_len z32_len) ?_)
                        | (refine wpList_store_part rfl 95 (.tmp 2) (.tmp 106) rfl w.heap.size 0 (msC 15 0 0 (.slice none 0 0) (.slice none 0 0) false 0 z32 z32 0 0 (.slice none 0 0) (.slice none 0 0) (.slice xa x xc)) rfl rfl B6.out.res (by rw [msC_len _ _ _ _ _ _ _ _ _ _ _ _ _ _ z32_len z32_len, LZ]; decide) (Try.msSz _ _ _ _ _ _ _ _ _ _ _ _ _ _ z32_len z32_len) (msC_one _ _ _ _ _ _ _ _ _ _ _ _ _ _ rfl rfl rfl rfl rfl) ?_; intro w8 b8 c8; rw [splice_all _ _ (by rw [msC_len _ _ _ _ _ _ _ _ _ _ _ _ _ _ z32_len z32_len, LZ])] at b8; have RR : Hid _ := b8; have FF : Hid _ := B6.out.fin c8; clear b8 c8))
                      exact bodyPost_ret (v := .agg (msC 15 0 0 (.slice none 0 0) (.slice none 0 0) false 0 z32 z32 0 0 (.slice none 0 0) (.slice none 0 0) (.slice xa x xc)).toArray) (results_row1 rfl _ _ w.heap.size 95 _ _ _ rfl RR.out.eq Try.underlying95 rfl (Try.msSz _ _ _ _ _ _ _ _ _ _ _ _ _ _ z32_len z32_len)) rfl (by rw [HSS.out]; exact ⟨⟨(.slice none 0 0), (.slice none 0 0), (.slice none 0 0), (.slice none 0 0), (.slice xa x xc), LL, rfl, ⟨Own.nil _, Own.nil _, Own.nil _, GL.nil _ _ _, FF.out.2.2⟩, HLL.out, FF.out.1, MsAp.chgs AP.out AP2.out⟩⟩)
                    · by_cases q19 : K = 19
                      · subst q19
                        have h9 := HSS.out
                        rw [if_neg (by decide), if_neg (by decide), if_neg (by decide), if_neg (by decide), if_neg (by decide), if_neg (by decide), if_neg (by decide), if_neg (by decide), if_neg (by decide), if_pos rfl] at h9
                        clear HSS
                        have HSS : Hid _ := h9
                        clear h9
                        clear q1 q2 q3 q4 q5 q11 q12 q13 q14 q15
                        have HC : Hid _ := rUint_any B2.out.st_.rp.1 999 (by decide)
                        obtain ⟨U, a2, e2, hU⟩ : ∃ U b c, uintS T a1 e1 999 = (U, b, c) := ⟨_, _, _, rfl⟩
                        have hS := HSS.out
                        simp only [hU] at HC hS
                        clear HSS
                        have HSS : Hid _ := hS
                        have Um : U ≤ 999 := by have h9 := uintS_most T a1 e1 999; rw [hU] at h9; exact h9
                        clear hU hS
                        go_wp2_with fail
                        refine Calls.mono HC.out ?_
                        rintro e w3 ⟨rfl, r1⟩
                        have B3 : Hid _ := B2.out.call r1
                        clear r1 HC B2 k0
                        have hc : w3.cell? ⟨w.heap.size + 1, 72, none⟩ = some (.int .i64 0) := by rw [B3.out.row.cell]; exact msC_at _ _ _ _ _ _ _ _ _ _ _ _ _ _ z32_len z32_len 1
                        have hf : w3.frozen? ⟨w.heap.size + 1, 72, none⟩ = false := B3.out.row.fr 72
                        have h9 := B3.out.set 72 (.int .i64 U)
                        rw [msC_setco _ _ _ _ _ _ _ _ _ _ _ _ _ _ z32_len z32_len] at h9
                        have B4 : Hid _ := h9
                        clear h9
                        clear B3
                        go_wp2_with (first
                          | (refine wpList_load_part rfl 95 (.tmp 3) rfl (w.heap.size + 1) 0 (msC 19 0 0 (.slice none 0 0) (.slice none 0 0) false 0 z32 z32 0 U (.slice none 0 0) (.slice none 0 0) (.slice none 0 0)) rfl B4.out.row (by simp) Try.underlying95 rfl (Try.msSz _ _ _ _ _ _ _ _ _ _ _ _ _ _ z32_len z32_len) ?_)
                          | (refine wpList_store_part rfl 95 (.tmp 2) (.tmp 106) rfl w.heap.size 0 (msC 19 0 0 (.slice none 0 0) (.slice none 0 0) false 0 z32 z32 0 U (.slice none 0 0) (.slice none 0 0) (.slice none 0 0)) rfl rfl B4.out.res (by rw [msC_len _ _ _ _ _ _ _ _ _ _ _ _ _ _ z32_len z32_len, LZ]; decide) (Try.msSz _ _ _ _ _ _ _ _ _ _ _ _ _ _ z32_len z32_len) (msC_one _ _ _ _ _ _ _ _ _ _ _ _ _ _ rfl rfl rfl rfl rfl) ?_; intro w8 b8 c8; rw [splice_all _ _ (by rw [msC_len _ _ _ _ _ _ _ _ _ _ _ _ _ _ z32_len z32_len, LZ])] at b8; have RR : Hid _ := b8; have FF : Hid _ := B4.out.fin c8; clear b8 c8))
                        exact bodyPost_ret (v := .agg (msC 19 0 0 (.slice none 0 0) (.slice none 0 0) false 0 z32 z32 0 U (.slice none 0 0) (.slice none 0 0) (.slice none 0 0)).toArray) (results_row1 rfl _ _ w.heap.size 95 _ _ _ rfl RR.out.eq Try.underlying95 rfl (Try.msSz _ _ _ _ _ _ _ _ _ _ _ _ _ _ z32_len z32_len)) rfl (by rw [HSS.out]; exact ⟨⟨(.slice none 0 0), (.slice none 0 0), (.slice none 0 0), (.slice none 0 0), (.slice none 0 0), [], rfl, ⟨Own.nil _, Own.nil _, Own.nil _, GL.nil _ _ _, CM.nil _⟩, rfl, FF.out.1, MsAp.nils _⟩⟩)
                      · have h9 := HSS.out
                        rw [if_neg (by omega), if_neg (by omega), if_neg (by omega), if_neg (by omega), if_neg (by omega), if_neg (by omega), if_neg (by omega), if_neg (by omega), if_neg (by omega), if_neg (by omega)] at h9
                        clear HSS
                        have HSS : Hid _ := h9
                        clear h9
                        have HC : Hid _ := rFail_any B2.out.st_.rp.1 24
                        have i1 : ((K : Int) == 1) = false := by simp; omega
                        have i2 : ((K : Int) == 2) = false := by simp; omega
                        have i3 : ((K : Int) == 3) = false := by simp; omega
                        have i4 : ((K : Int) == 4) = false := by simp; omega
                        have i5 : ((K : Int) == 5) = false := by simp; omega
                        have i11 : ((K : Int) == 11) = false := by simp; omega
                        have i12 : ((K : Int) == 12) = false := by simp; omega
                        have i13 : ((K : Int) == 13) = false := by simp; omega
                        have i14 : ((K : Int) == 14) = false := by simp; omega
                        have i15 : ((K : Int) == 15) = false := by simp; omega
                        have i19 : ((K : Int) == 19) = false := by simp; omega
                        go_wp2_with fail
                        refine Calls.mono HC.out ?_
                        rintro e w3 ⟨rfl, r1⟩
                        have B3 : Hid _ := B2.out.call r1
                        clear r1 HC B2 k0 i1 i2 i3 i4 i5 i11 i12 i13 i14 i15 i19
                        go_wp2_with (first
                          | (refine wpList_load_part rfl 95 (.tmp 3) rfl (w.heap.size + 1) 0 (msC K 0 0 (.slice none 0 0) (.slice none 0 0) false 0 z32 z32 0 0 (.slice none 0 0) (.slice none 0 0) (.slice none 0 0)) rfl B3.out.row (by simp) Try.underlying95 rfl (Try.msSz _ _ _ _ _ _ _ _ _ _ _ _ _ _ z32_len z32_len) ?_)
                          | (refine wpList_store_part rfl 95 (.tmp 2) (.tmp 106) rfl w.heap.size 0 (msC K 0 0 (.slice none 0 0) (.slice none 0 0) false 0 z32 z32 0 0 (.slice none 0 0) (.slice none 0 0) (.slice none 0 0)) rfl rfl B3.out.res (by rw [msC_len _ _ _ _ _ _ _ _ _ _ _ _ _ _ z32_len z32_len, LZ]; decide) (Try.msSz _ _ _ _ _ _ _ _ _ _ _ _ _ _ z32_len z32_len) (msC_one _ _ _ _ _ _ _ _ _ _ _ _ _ _ rfl rfl rfl rfl rfl) ?_; intro w8 b8 c8; rw [splice_all _ _ (by rw [msC_len _ _ _ _ _ _ _ _ _ _ _ _ _ _ z32_len z32_len, LZ])] at b8; have RR : Hid _ := b8; have FF : Hid _ := B3.out.fin c8; clear b8 c8))
                        exact bodyPost_ret (v := .agg (msC K 0 0 (.slice none 0 0) (.slice none 0 0) false 0 z32 z32 0 0 (.slice none 0 0) (.slice none 0 0) (.slice none 0 0)).toArray) (results_row1 rfl _ _ w.heap.size 95 _ _ _ rfl RR.out.eq Try.underlying95 rfl (Try.msSz _ _ _ _ _ _ _ _ _ _ _ _ _ _ z32_len z32_len)) rfl (by rw [HSS.out]; exact ⟨⟨(.slice none 0 0), (.slice none 0 0), (.slice none 0 0), (.slice none 0 0), (.slice none 0 0), [], rfl, ⟨Own.nil _, Own.nil _, Own.nil _, GL.nil _ _ _, CM.nil _⟩, rfl, FF.out.1, MsAp.nils _⟩⟩)
end Go.Proofs.Ytjmeaebehndheaa
