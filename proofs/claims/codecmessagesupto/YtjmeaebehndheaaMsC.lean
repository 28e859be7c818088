/-
  Changes are read.
-/
import Derived.Test.YtjmeaebehndheaaMsA
namespace Go.Proofs.Ytjmeaebehndheaa
open Go.RowKit

def chC (k : Value) (had : Bool) (o : Value) (has : Bool) (n : Value) : List Value := [k, .bool had, o, .bool has, n]
theorem Try.size215 : (Try.prog.info? 112).map (·.size) = some 5 := by kernel_rfl
theorem Try.chSz (k : Value) (had : Bool) (o : Value) (has : Bool) (n : Value) : (Try.prog.info? 112).map (·.size) = some (chC k had o has n).length := Try.size215
theorem chC_one {k o n : Value} (h1 : k.oneCell' = true) (h2 : o.oneCell' = true) (h3 : n.oneCell' = true) (had has : Bool) : ∀ u ∈ chC k had o has n, u.oneCell' = true := by
  intro u hu
  simp only [chC, List.mem_cons, List.not_mem_nil, or_false] at hu
  rcases hu with rfl | rfl | rfl | rfl | rfl
  · exact h1
  · rfl
  · exact h2
  · rfl
  · exact h3
structure ChS where
  kl : List Int
  had : Bool
  ol : List Int
  has : Bool
  nl : List Int
  at_ : Nat
  err : Int
def optS (b : Bool) (T : List Int) (a : Nat) (err : Int) : List Int × Nat × Int := if b = true then textS T a err 65536 else ([], a, err)
def chS (T : List Int) (a : Nat) (err : Int) : ChS :=
  let K := lowN (pL T a err 1)
  let e1 := if K = 0 ∨ 3 < K then failE (pE T a err 1) 22 else pE T a err 1
  let L := textS T (pA T a err 1) e1 1024
  let O := optS (bits .and .u8 (K : Int) 1 != 0) T L.2.1 L.2.2
  let M := optS (bits .and .u8 (K : Int) 2 != 0) T O.2.1 O.2.2
  ⟨L.1, bits .and .u8 (K : Int) 1 != 0, O.1, bits .and .u8 (K : Int) 2 != 0, M.1, M.2.1, M.2.2⟩
structure ChQ (w w' : World) (p : Nat) (tv : Value) (T : List Int) (S : ChS) (e : Ending) : Prop where
  ex : ∃ k o n, e = .returned (.agg (chC k S.had o S.has n).toArray) ∧ Own w' k S.kl ∧ Own w' o S.ol ∧ Own w' n S.nl ∧ RP w w' p 195 tv T S.at_ S.err ∧ Ap3 w.heap.size k o n

set_option maxRecDepth 100000 in
set_option maxHeartbeats 16000000 in
theorem change_any {w : World} {p : Nat} {tv : Value} {T : List Int} {a : Nat} {err : Int} (h : RS w p 195 tv T a err) :
    Calls Try.prog 120 #[.pointer (some ⟨p, 0, none⟩)] w fun e w' => ChQ w w' p tv T (chS T a err) e := by
  have B0 : Hid (Bld w p tv T 112 (chC (.slice none 0 0) false (.slice none 0 0) false (.slice none 0 0)) (fun _ => True) ((w.alloc (.cells (chC (.slice none 0 0) false (.slice none 0 0) false (.slice none 0 0)).toArray 112)).alloc (.cells (chC (.slice none 0 0) false (.slice none 0 0) false (.slice none 0 0)).toArray 112)) a err (chC (.slice none 0 0) false (.slice none 0 0) false (.slice none 0 0))) := Bld.start h _ 112
  have hlt := h.lt
  have KL := low1 h
  clear h
  obtain ⟨S, hS⟩ : ∃ S, S = chS T a err := ⟨_, rfl⟩
  rw [← hS]
  unfold chS at hS
  have HC : Hid _ := rByte_any B0.out.st_.rp.1
  obtain ⟨K, hK⟩ : ∃ K, K = lowN (pL T a err 1) := ⟨_, rfl⟩
  obtain ⟨a1, ha1⟩ : ∃ a1, a1 = pA T a err 1 := ⟨_, rfl⟩
  obtain ⟨e0, he0⟩ : ∃ e1, e1 = pE T a err 1 := ⟨_, rfl⟩
  simp only [← hK, ← ha1, ← he0] at HC KL hS
  clear hK ha1 he0
  obtain ⟨e1, he1⟩ : ∃ e1, e1 = if K = 0 ∨ 3 < K then failE e0 22 else e0 := ⟨_, rfl⟩
  obtain ⟨X1, hx1⟩ : ∃ X, X = bits .and .u8 (K : Int) 1 := ⟨_, rfl⟩
  obtain ⟨X2, hx2⟩ : ∃ X, X = bits .and .u8 (K : Int) 2 := ⟨_, rfl⟩
  obtain ⟨h1, hh1⟩ : ∃ X, X = (X1 != 0) := ⟨_, rfl⟩
  obtain ⟨h2, hh2⟩ : ∃ X, X = (X2 != 0) := ⟨_, rfl⟩
  simp only [← he1, ← hx1, ← hx2, ← hh1, ← hh2] at hS
  have HSS : Hid _ := hS
  have HE1 : Hid _ := he1
  have HX1 : Hid _ := hx1
  have HX2 : Hid _ := hx2
  have HH1 : Hid _ := hh1
  have HH2 : Hid _ := hh2
  clear hS he1 hx1 hx2 hh1 hh2
  go_enter Try.func120, Try.ntmps120
  go_wp2_with fail
  refine Calls.mono HC.out ?_
  rintro e w1 ⟨rfl, r1⟩
  have B1 : Hid _ := B0.out.call r1
  clear r1 HC B0
  go_upto_region 3 with fail
  obtain ⟨bd, hbd⟩ : ∃ b : Bool, b = decide (K = 0 ∨ 3 < K) := ⟨_, rfl⟩
  have HBD : Hid _ := hbd
  clear hbd
  go_cut [4, 14] from 9 (fun s4 s14 wx => s4 = .int .u8 K ∧ s14 = .bool bd ∧ Hid (w1 = wx))
  case first =>
    by_cases q0 : K = 0
    · subst q0
      have E : bd = true := by rw [HBD.out]; simp
      go_wp2_with fail
      go_meet
      case rel => exact ⟨rfl, by rw [E], rfl⟩
    · by_cases q3 : 3 < K
      · have E : bd = true := by rw [HBD.out]; simp [q3]
        have i0 : ((K : Int) == 0) = false := by simp; omega
        have i3 : decide ((3 : Int) < (K : Int)) = true := by simp; omega
        go_wp2_with fail
        go_meet
        case rel => exact ⟨rfl, by rw [E], rfl⟩
      · have E : bd = false := by rw [HBD.out]; simp; omega
        have i0 : ((K : Int) == 0) = false := by simp; omega
        have i3 : decide ((3 : Int) < (K : Int)) = false := by simp; omega
        go_wp2_with fail
        go_meet
        case rel => exact ⟨rfl, by rw [E], rfl⟩
  case rest =>
   obtain ⟨rfl, rfl, hid⟩ := hcut
   have e9 := hid.out
   subst e9
   clear hid
   by_cases q : bd = true
   · subst q
     have E : e1 = failE e0 22 := by rw [HE1.out, if_pos (of_decide_eq_true HBD.out.symm)]
     have HC : Hid _ := rFail_any B1.out.st_.rp.1 22
     go_wp2_with fail
     refine Calls.mono HC.out ?_
     rintro e w2 ⟨rfl, r1⟩
     rw [← E] at r1
     have B2 : Hid _ := B1.out.call r1
     clear B1 r1 HC E HE1 HBD
     have hc : w2.cell? ⟨w.heap.size + 1, 1, none⟩ = some (.bool false) := B2.out.row.cell 1
     have hf : w2.frozen? ⟨w.heap.size + 1, 1, none⟩ = false := B2.out.row.fr 1
     have Y1 : Hid (h1 = (bits .and .u8 (K : Int) 1 != 0)) := by rw [HH1.out, HX1.out]; rfl
     have Y2 : Hid (h2 = (bits .and .u8 (K : Int) 2 != 0)) := by rw [HH2.out, HX2.out]; rfl
     clear HX1 HX2 HH1 HH2
     have B3 : Hid (Bld w p tv T 112 _ _ (w2.setCell ⟨w.heap.size + 1, 1, none⟩ (.bool (bits .and .u8 (K : Int) 1 != 0))) a1 e1 (chC (.slice none 0 0) (bits .and .u8 (K : Int) 1 != 0) (.slice none 0 0) false (.slice none 0 0))) := B2.out.set 1 (.bool (bits .and .u8 (K : Int) 1 != 0))
     have hc3 : (w2.setCell ⟨w.heap.size + 1, 1, none⟩ (.bool (bits .and .u8 (K : Int) 1 != 0))).cell? ⟨w.heap.size + 1, 3, none⟩ = some (.bool false) := B3.out.row.cell 3
     have hf3 : (w2.setCell ⟨w.heap.size + 1, 1, none⟩ (.bool (bits .and .u8 (K : Int) 1 != 0))).frozen? ⟨w.heap.size + 1, 3, none⟩ = false := B3.out.row.fr 3
     have B4 : Hid (Bld w p tv T 112 _ _ ((w2.setCell ⟨w.heap.size + 1, 1, none⟩ (.bool (bits .and .u8 (K : Int) 1 != 0))).setCell ⟨w.heap.size + 1, 3, none⟩ (.bool (bits .and .u8 (K : Int) 2 != 0))) a1 e1 (chC (.slice none 0 0) (bits .and .u8 (K : Int) 1 != 0) (.slice none 0 0) (bits .and .u8 (K : Int) 2 != 0) (.slice none 0 0))) := B3.out.set 3 (.bool (bits .and .u8 (K : Int) 2 != 0))
     rw [← Y1.out, ← Y2.out] at B4
     clear B2 B3
     obtain ⟨w4, hw4⟩ : ∃ w4, w4 = (w2.setCell ⟨w.heap.size + 1, 1, none⟩ (.bool h1)).setCell ⟨w.heap.size + 1, 3, none⟩ (.bool h2) := ⟨_, rfl⟩
     rw [← hw4] at B4
     have HC : Hid _ := rKey_any B4.out.st_.rp.1
     obtain ⟨L, a2, e2, hL⟩ : ∃ F b c, textS T a1 e1 1024 = (F, b, c) := ⟨_, _, _, rfl⟩
     have hS := HSS.out
     simp only [hL] at HC hS
     clear HSS
     have HSS : Hid _ := hS
     have HW4 : Hid _ := hw4
     clear hL hS hw4
     go_upto_region 7 with fail
     rw [← Y1.out, ← Y2.out, ← HW4.out]
     clear Y1 Y2
     go_wp2_with fail
     refine Calls.mono HC.out ?_
     rintro e w5 ⟨s, rfl, o1, r1, g1⟩
     have G5 : Hid (w.heap.size ≤ w5.heap.size ∧ ∀ g, s.ownBlock = some g → w.heap.size ≤ g ∧ g < w5.heap.size) := ⟨Nat.le_trans B4.out.st_.rp.2.size r1.2.size, fun g hg => ⟨Nat.le_trans B4.out.st_.rp.2.size (g1 g hg), o1.lt hg⟩⟩
     clear g1
     obtain ⟨ka, kc, hsf⟩ := Own.form o1
     obtain ⟨k, hn⟩ : ∃ n, n = L.length := ⟨_, rfl⟩
     rw [← hn] at hsf
     subst hsf
     have B : Hid _ := (B4.out.call r1).more (St.own (by decide) _ _) o1
     clear r1 HC B4 o1 hn hc hf hc3 hf3 HW4
     have hc : w5.cell? ⟨w.heap.size + 1, 0, none⟩ = some (.slice none 0 0) := B.out.row.cell 0
     have hf : w5.frozen? ⟨w.heap.size + 1, 0, none⟩ = false := B.out.row.fr 0
     have B5 : Hid (Bld w p tv T 112 _ _ (w5.setCell ⟨w.heap.size + 1, 0, none⟩ (.slice ka k kc)) a2 e2 (chC (.slice ka k kc) h1 (.slice none 0 0) h2 (.slice none 0 0))) := B.out.set 0 (.slice ka k kc)
     clear B
     have hd : (w5.setCell ⟨w.heap.size + 1, 0, none⟩ (.slice ka k kc)).cell? ⟨w.heap.size + 1, 1, none⟩ = some (.bool h1) := B5.out.row.cell 1
     have hd2 : (w5.setCell ⟨w.heap.size + 1, 0, none⟩ (.slice ka k kc)).cell? ⟨w.heap.size + 1, 3, none⟩ = some (.bool h2) := B5.out.row.cell 3
     by_cases g1 : h1 = true
     · subst g1
       have HC : Hid _ := rText_any B5.out.st_.rp.1 65536 (by decide) (by decide)
       obtain ⟨Lo, a3, e3, hL⟩ : ∃ F b c, textS T a2 e2 65536 = (F, b, c) := ⟨_, _, _, rfl⟩
       have hS := HSS.out
       simp only [optS, if_pos, hL] at HC hS
       clear HSS
       have HSS : Hid _ := hS
       clear hL hS
       go_wp2_with fail
       refine Calls.mono HC.out ?_
       rintro e w6 ⟨s, rfl, o1, r1, g1⟩
       have G6 : Hid (w5.heap.size ≤ w6.heap.size ∧ ∀ g, s.ownBlock = some g → w5.heap.size ≤ g ∧ g < w6.heap.size) := ⟨Nat.le_trans (le_set _ _ _) r1.2.size, fun g hg => ⟨Nat.le_trans (le_set _ _ _) (g1 g hg), o1.lt hg⟩⟩
       clear g1
       obtain ⟨oa, oc, hsf⟩ := Own.form o1
       obtain ⟨o, hn⟩ : ∃ n, n = Lo.length := ⟨_, rfl⟩
       rw [← hn] at hsf
       subst hsf
       have B : Hid _ := (B5.out.call r1).more (St.own (by decide) _ _) o1
       clear r1 HC B5 o1 hn hc hf hd hd2
       have hc : w6.cell? ⟨w.heap.size + 1, 2, none⟩ = some (.slice none 0 0) := B.out.row.cell 2
       have hf : w6.frozen? ⟨w.heap.size + 1, 2, none⟩ = false := B.out.row.fr 2
       have B6 : Hid (Bld w p tv T 112 _ _ (w6.setCell ⟨w.heap.size + 1, 2, none⟩ (.slice oa o oc)) a3 e3 (chC (.slice ka k kc) true (.slice oa o oc) h2 (.slice none 0 0))) := B.out.set 2 (.slice oa o oc)
       clear B
       have hd : (w6.setCell ⟨w.heap.size + 1, 2, none⟩ (.slice oa o oc)).cell? ⟨w.heap.size + 1, 3, none⟩ = some (.bool h2) := B6.out.row.cell 3
       by_cases g2 : h2 = true
       · subst g2
         have HC : Hid _ := rText_any B6.out.st_.rp.1 65536 (by decide) (by decide)
         obtain ⟨Ln, a4, e4, hL⟩ : ∃ F b c, textS T a3 e3 65536 = (F, b, c) := ⟨_, _, _, rfl⟩
         have hS := HSS.out
         simp only [if_pos, hL] at HC hS
         clear HSS
         have HSS : Hid _ := hS
         clear hL hS
         go_wp2_with fail
         refine Calls.mono HC.out ?_
         rintro e w7 ⟨s, rfl, o1, r1, g1⟩
         have G7 : Hid (w6.heap.size ≤ w7.heap.size ∧ ∀ g, s.ownBlock = some g → w6.heap.size ≤ g ∧ g < w7.heap.size) := ⟨Nat.le_trans (le_set _ _ _) r1.2.size, fun g hg => ⟨Nat.le_trans (le_set _ _ _) (g1 g hg), o1.lt hg⟩⟩
         clear g1
         obtain ⟨na, nc, hsf⟩ := Own.form o1
         obtain ⟨n, hn⟩ : ∃ n, n = Ln.length := ⟨_, rfl⟩
         rw [← hn] at hsf
         subst hsf
         have B : Hid _ := (B6.out.call r1).more (St.own (by decide) _ _) o1
         clear r1 HC B6 o1 hn hc hf hd
         have hc : w7.cell? ⟨w.heap.size + 1, 4, none⟩ = some (.slice none 0 0) := B.out.row.cell 4
         have hf : w7.frozen? ⟨w.heap.size + 1, 4, none⟩ = false := B.out.row.fr 4
         have B7 : Hid (Bld w p tv T 112 _ _ (w7.setCell ⟨w.heap.size + 1, 4, none⟩ (.slice na n nc)) a4 e4 (chC (.slice ka k kc) true (.slice oa o oc) true (.slice na n nc))) := B.out.set 4 (.slice na n nc)
         clear B
         go_wp2_with (first
           | (refine wpList_load_part rfl 112 (.tmp 3) rfl (w.heap.size + 1) 0 (chC (.slice ka k kc) true (.slice oa o oc) true (.slice na n nc)) rfl B7.out.row (by simp) Try.underlying112 rfl (Try.chSz _ _ _ _ _) ?_)
           | (refine wpList_store_part rfl 112 (.tmp 2) (.tmp 44) rfl w.heap.size 0 (chC (.slice ka k kc) true (.slice oa o oc) true (.slice na n nc)) rfl rfl B7.out.res (by simp [chC]) (Try.chSz _ _ _ _ _) (chC_one rfl rfl rfl _ _) ?_; intro w8 b8 c8; rw [splice_all _ _ (by simp [chC])] at b8; have RR : Hid _ := b8; have FF : Hid _ := B7.out.fin c8; clear b8 c8))
         exact bodyPost_ret (v := .agg (chC (.slice ka k kc) true (.slice oa o oc) true (.slice na n nc)).toArray) (results_row1 rfl _ _ w.heap.size 112 _ _ _ rfl RR.out.eq Try.underlying112 rfl (Try.chSz _ _ _ _ _)) rfl (by rw [HSS.out]; exact ⟨⟨_, _, _, rfl, FF.out.2.1.1.2, FF.out.2.1.2, FF.out.2.2, FF.out.1, Ap3.of G5.out.1 G6.out.1 G5.out.2 G6.out.2 (fun g hg => (G7.out.2 g hg).1)⟩⟩)
       · have g3 : h2 = false := by cases h2 <;> simp_all
         subst g3
         clear g2
         have hS := HSS.out
         simp only [Bool.false_eq_true, if_false] at hS
         clear HSS
         have HSS : Hid _ := hS
         clear hS
         go_wp2_with (first
           | (refine wpList_load_part rfl 112 (.tmp 3) rfl (w.heap.size + 1) 0 (chC (.slice ka k kc) true (.slice oa o oc) false (.slice none 0 0)) rfl B6.out.row (by simp) Try.underlying112 rfl (Try.chSz _ _ _ _ _) ?_)
           | (refine wpList_store_part rfl 112 (.tmp 2) (.tmp 44) rfl w.heap.size 0 (chC (.slice ka k kc) true (.slice oa o oc) false (.slice none 0 0)) rfl rfl B6.out.res (by simp [chC]) (Try.chSz _ _ _ _ _) (chC_one rfl rfl rfl _ _) ?_; intro w8 b8 c8; rw [splice_all _ _ (by simp [chC])] at b8; have RR : Hid _ := b8; have FF : Hid _ := B6.out.fin c8; clear b8 c8))
         exact bodyPost_ret (v := .agg (chC (.slice ka k kc) true (.slice oa o oc) false (.slice none 0 0)).toArray) (results_row1 rfl _ _ w.heap.size 112 _ _ _ rfl RR.out.eq Try.underlying112 rfl (Try.chSz _ _ _ _ _)) rfl (by rw [HSS.out]; exact ⟨⟨_, _, _, rfl, FF.out.2.1.2, FF.out.2.2, Own.nil _, FF.out.1, Ap3.of G5.out.1 G6.out.1 G5.out.2 G6.out.2 nilB⟩⟩)
     · have g3 : h1 = false := by cases h1 <;> simp_all
       subst g3
       clear g1
       have hS := HSS.out
       simp only [optS, Bool.false_eq_true, if_false] at hS
       clear HSS
       have HSS : Hid _ := hS
       clear hS
       by_cases g2 : h2 = true
       · subst g2
         have HC : Hid _ := rText_any B5.out.st_.rp.1 65536 (by decide) (by decide)
         obtain ⟨Ln, a4, e4, hL⟩ : ∃ F b c, textS T a2 e2 65536 = (F, b, c) := ⟨_, _, _, rfl⟩
         have hS := HSS.out
         simp only [if_pos, hL] at HC hS
         clear HSS
         have HSS : Hid _ := hS
         clear hL hS
         go_wp2_with fail
         refine Calls.mono HC.out ?_
         rintro e w7 ⟨s, rfl, o1, r1, g1⟩
         have G7 : Hid (w5.heap.size ≤ w7.heap.size ∧ ∀ g, s.ownBlock = some g → w5.heap.size ≤ g ∧ g < w7.heap.size) := ⟨Nat.le_trans (le_set _ _ _) r1.2.size, fun g hg => ⟨Nat.le_trans (le_set _ _ _) (g1 g hg), o1.lt hg⟩⟩
         clear g1
         obtain ⟨na, nc, hsf⟩ := Own.form o1
         obtain ⟨n, hn⟩ : ∃ n, n = Ln.length := ⟨_, rfl⟩
         rw [← hn] at hsf
         subst hsf
         have B : Hid _ := (B5.out.call r1).more (St.own (by decide) _ _) o1
         clear r1 HC B5 o1 hn hc hf hd hd2
         have hc : w7.cell? ⟨w.heap.size + 1, 4, none⟩ = some (.slice none 0 0) := B.out.row.cell 4
         have hf : w7.frozen? ⟨w.heap.size + 1, 4, none⟩ = false := B.out.row.fr 4
         have B7 : Hid (Bld w p tv T 112 _ _ (w7.setCell ⟨w.heap.size + 1, 4, none⟩ (.slice na n nc)) a4 e4 (chC (.slice ka k kc) false (.slice none 0 0) true (.slice na n nc))) := B.out.set 4 (.slice na n nc)
         clear B
         go_wp2_with (first
           | (refine wpList_load_part rfl 112 (.tmp 3) rfl (w.heap.size + 1) 0 (chC (.slice ka k kc) false (.slice none 0 0) true (.slice na n nc)) rfl B7.out.row (by simp) Try.underlying112 rfl (Try.chSz _ _ _ _ _) ?_)
           | (refine wpList_store_part rfl 112 (.tmp 2) (.tmp 44) rfl w.heap.size 0 (chC (.slice ka k kc) false (.slice none 0 0) true (.slice na n nc)) rfl rfl B7.out.res (by simp [chC]) (Try.chSz _ _ _ _ _) (chC_one rfl rfl rfl _ _) ?_; intro w8 b8 c8; rw [splice_all _ _ (by simp [chC])] at b8; have RR : Hid _ := b8; have FF : Hid _ := B7.out.fin c8; clear b8 c8))
         exact bodyPost_ret (v := .agg (chC (.slice ka k kc) false (.slice none 0 0) true (.slice na n nc)).toArray) (results_row1 rfl _ _ w.heap.size 112 _ _ _ rfl RR.out.eq Try.underlying112 rfl (Try.chSz _ _ _ _ _)) rfl (by rw [HSS.out]; exact ⟨⟨_, _, _, rfl, FF.out.2.1.2, Own.nil _, FF.out.2.2, FF.out.1, Ap3.of G5.out.1 (Nat.le_refl _) G5.out.2 nilB (fun g hg => (G7.out.2 g hg).1)⟩⟩)
       · have g3 : h2 = false := by cases h2 <;> simp_all
         subst g3
         clear g2
         have hS := HSS.out
         simp only [Bool.false_eq_true, if_false] at hS
         clear HSS
         have HSS : Hid _ := hS
         clear hS
         go_wp2_with (first
           | (refine wpList_load_part rfl 112 (.tmp 3) rfl (w.heap.size + 1) 0 (chC (.slice ka k kc) false (.slice none 0 0) false (.slice none 0 0)) rfl B5.out.row (by simp) Try.underlying112 rfl (Try.chSz _ _ _ _ _) ?_)
           | (refine wpList_store_part rfl 112 (.tmp 2) (.tmp 44) rfl w.heap.size 0 (chC (.slice ka k kc) false (.slice none 0 0) false (.slice none 0 0)) rfl rfl B5.out.res (by simp [chC]) (Try.chSz _ _ _ _ _) (chC_one rfl rfl rfl _ _) ?_; intro w8 b8 c8; rw [splice_all _ _ (by simp [chC])] at b8; have RR : Hid _ := b8; have FF : Hid _ := B5.out.fin c8; clear b8 c8))
         exact bodyPost_ret (v := .agg (chC (.slice ka k kc) false (.slice none 0 0) false (.slice none 0 0)).toArray) (results_row1 rfl _ _ w.heap.size 112 _ _ _ rfl RR.out.eq Try.underlying112 rfl (Try.chSz _ _ _ _ _)) rfl (by rw [HSS.out]; exact ⟨⟨_, _, _, rfl, FF.out.2.2, Own.nil _, Own.nil _, FF.out.1, Ap3.of G5.out.1 (Nat.le_refl _) G5.out.2 nilB nilB⟩⟩)
   · have q2 : bd = false := by cases bd <;> simp_all
     subst q2
     have E : e1 = e0 := by rw [HE1.out, if_neg (of_decide_eq_false HBD.out.symm)]
     have B2 : Hid (Bld w p tv T 112 (chC (.slice none 0 0) false (.slice none 0 0) false (.slice none 0 0)) (fun _ => True) w1 a1 e1 (chC (.slice none 0 0) false (.slice none 0 0) false (.slice none 0 0))) := by rw [E]; exact B1.out
     clear B1 E HE1 HBD q
     have hc : w1.cell? ⟨w.heap.size + 1, 1, none⟩ = some (.bool false) := B2.out.row.cell 1
     have hf : w1.frozen? ⟨w.heap.size + 1, 1, none⟩ = false := B2.out.row.fr 1
     have Y1 : Hid (h1 = (bits .and .u8 (K : Int) 1 != 0)) := by rw [HH1.out, HX1.out]; rfl
     have Y2 : Hid (h2 = (bits .and .u8 (K : Int) 2 != 0)) := by rw [HH2.out, HX2.out]; rfl
     clear HX1 HX2 HH1 HH2
     have B3 : Hid (Bld w p tv T 112 _ _ (w1.setCell ⟨w.heap.size + 1, 1, none⟩ (.bool (bits .and .u8 (K : Int) 1 != 0))) a1 e1 (chC (.slice none 0 0) (bits .and .u8 (K : Int) 1 != 0) (.slice none 0 0) false (.slice none 0 0))) := B2.out.set 1 (.bool (bits .and .u8 (K : Int) 1 != 0))
     have hc3 : (w1.setCell ⟨w.heap.size + 1, 1, none⟩ (.bool (bits .and .u8 (K : Int) 1 != 0))).cell? ⟨w.heap.size + 1, 3, none⟩ = some (.bool false) := B3.out.row.cell 3
     have hf3 : (w1.setCell ⟨w.heap.size + 1, 1, none⟩ (.bool (bits .and .u8 (K : Int) 1 != 0))).frozen? ⟨w.heap.size + 1, 3, none⟩ = false := B3.out.row.fr 3
     have B4 : Hid (Bld w p tv T 112 _ _ ((w1.setCell ⟨w.heap.size + 1, 1, none⟩ (.bool (bits .and .u8 (K : Int) 1 != 0))).setCell ⟨w.heap.size + 1, 3, none⟩ (.bool (bits .and .u8 (K : Int) 2 != 0))) a1 e1 (chC (.slice none 0 0) (bits .and .u8 (K : Int) 1 != 0) (.slice none 0 0) (bits .and .u8 (K : Int) 2 != 0) (.slice none 0 0))) := B3.out.set 3 (.bool (bits .and .u8 (K : Int) 2 != 0))
     rw [← Y1.out, ← Y2.out] at B4
     clear B2 B3
     obtain ⟨w4, hw4⟩ : ∃ w4, w4 = (w1.setCell ⟨w.heap.size + 1, 1, none⟩ (.bool h1)).setCell ⟨w.heap.size + 1, 3, none⟩ (.bool h2) := ⟨_, rfl⟩
     rw [← hw4] at B4
     have HC : Hid _ := rKey_any B4.out.st_.rp.1
     obtain ⟨L, a2, e2, hL⟩ : ∃ F b c, textS T a1 e1 1024 = (F, b, c) := ⟨_, _, _, rfl⟩
     have hS := HSS.out
     simp only [hL] at HC hS
     clear HSS
     have HSS : Hid _ := hS
     have HW4 : Hid _ := hw4
     clear hL hS hw4
     go_upto_region 7 with fail
     rw [← Y1.out, ← Y2.out, ← HW4.out]
     clear Y1 Y2
     go_wp2_with fail
     refine Calls.mono HC.out ?_
     rintro e w5 ⟨s, rfl, o1, r1, g1⟩
     have G5 : Hid (w.heap.size ≤ w5.heap.size ∧ ∀ g, s.ownBlock = some g → w.heap.size ≤ g ∧ g < w5.heap.size) := ⟨Nat.le_trans B4.out.st_.rp.2.size r1.2.size, fun g hg => ⟨Nat.le_trans B4.out.st_.rp.2.size (g1 g hg), o1.lt hg⟩⟩
     clear g1
     obtain ⟨ka, kc, hsf⟩ := Own.form o1
     obtain ⟨k, hn⟩ : ∃ n, n = L.length := ⟨_, rfl⟩
     rw [← hn] at hsf
     subst hsf
     have B : Hid _ := (B4.out.call r1).more (St.own (by decide) _ _) o1
     clear r1 HC B4 o1 hn hc hf hc3 hf3 HW4
     have hc : w5.cell? ⟨w.heap.size + 1, 0, none⟩ = some (.slice none 0 0) := B.out.row.cell 0
     have hf : w5.frozen? ⟨w.heap.size + 1, 0, none⟩ = false := B.out.row.fr 0
     have B5 : Hid (Bld w p tv T 112 _ _ (w5.setCell ⟨w.heap.size + 1, 0, none⟩ (.slice ka k kc)) a2 e2 (chC (.slice ka k kc) h1 (.slice none 0 0) h2 (.slice none 0 0))) := B.out.set 0 (.slice ka k kc)
     clear B
     have hd : (w5.setCell ⟨w.heap.size + 1, 0, none⟩ (.slice ka k kc)).cell? ⟨w.heap.size + 1, 1, none⟩ = some (.bool h1) := B5.out.row.cell 1
     have hd2 : (w5.setCell ⟨w.heap.size + 1, 0, none⟩ (.slice ka k kc)).cell? ⟨w.heap.size + 1, 3, none⟩ = some (.bool h2) := B5.out.row.cell 3
     by_cases g1 : h1 = true
     · subst g1
       have HC : Hid _ := rText_any B5.out.st_.rp.1 65536 (by decide) (by decide)
       obtain ⟨Lo, a3, e3, hL⟩ : ∃ F b c, textS T a2 e2 65536 = (F, b, c) := ⟨_, _, _, rfl⟩
       have hS := HSS.out
       simp only [optS, if_pos, hL] at HC hS
       clear HSS
       have HSS : Hid _ := hS
       clear hL hS
       go_wp2_with fail
       refine Calls.mono HC.out ?_
       rintro e w6 ⟨s, rfl, o1, r1, g1⟩
       have G6 : Hid (w5.heap.size ≤ w6.heap.size ∧ ∀ g, s.ownBlock = some g → w5.heap.size ≤ g ∧ g < w6.heap.size) := ⟨Nat.le_trans (le_set _ _ _) r1.2.size, fun g hg => ⟨Nat.le_trans (le_set _ _ _) (g1 g hg), o1.lt hg⟩⟩
       clear g1
       obtain ⟨oa, oc, hsf⟩ := Own.form o1
       obtain ⟨o, hn⟩ : ∃ n, n = Lo.length := ⟨_, rfl⟩
       rw [← hn] at hsf
       subst hsf
       have B : Hid _ := (B5.out.call r1).more (St.own (by decide) _ _) o1
       clear r1 HC B5 o1 hn hc hf hd hd2
       have hc : w6.cell? ⟨w.heap.size + 1, 2, none⟩ = some (.slice none 0 0) := B.out.row.cell 2
       have hf : w6.frozen? ⟨w.heap.size + 1, 2, none⟩ = false := B.out.row.fr 2
       have B6 : Hid (Bld w p tv T 112 _ _ (w6.setCell ⟨w.heap.size + 1, 2, none⟩ (.slice oa o oc)) a3 e3 (chC (.slice ka k kc) true (.slice oa o oc) h2 (.slice none 0 0))) := B.out.set 2 (.slice oa o oc)
       clear B
       have hd : (w6.setCell ⟨w.heap.size + 1, 2, none⟩ (.slice oa o oc)).cell? ⟨w.heap.size + 1, 3, none⟩ = some (.bool h2) := B6.out.row.cell 3
       by_cases g2 : h2 = true
       · subst g2
         have HC : Hid _ := rText_any B6.out.st_.rp.1 65536 (by decide) (by decide)
         obtain ⟨Ln, a4, e4, hL⟩ : ∃ F b c, textS T a3 e3 65536 = (F, b, c) := ⟨_, _, _, rfl⟩
         have hS := HSS.out
         simp only [if_pos, hL] at HC hS
         clear HSS
         have HSS : Hid _ := hS
         clear hL hS
         go_wp2_with fail
         refine Calls.mono HC.out ?_
         rintro e w7 ⟨s, rfl, o1, r1, g1⟩
         have G7 : Hid (w6.heap.size ≤ w7.heap.size ∧ ∀ g, s.ownBlock = some g → w6.heap.size ≤ g ∧ g < w7.heap.size) := ⟨Nat.le_trans (le_set _ _ _) r1.2.size, fun g hg => ⟨Nat.le_trans (le_set _ _ _) (g1 g hg), o1.lt hg⟩⟩
         clear g1
         obtain ⟨na, nc, hsf⟩ := Own.form o1
         obtain ⟨n, hn⟩ : ∃ n, n = Ln.length := ⟨_, rfl⟩
         rw [← hn] at hsf
         subst hsf
         have B : Hid _ := (B6.out.call r1).more (St.own (by decide) _ _) o1
         clear r1 HC B6 o1 hn hc hf hd
         have hc : w7.cell? ⟨w.heap.size + 1, 4, none⟩ = some (.slice none 0 0) := B.out.row.cell 4
         have hf : w7.frozen? ⟨w.heap.size + 1, 4, none⟩ = false := B.out.row.fr 4
         have B7 : Hid (Bld w p tv T 112 _ _ (w7.setCell ⟨w.heap.size + 1, 4, none⟩ (.slice na n nc)) a4 e4 (chC (.slice ka k kc) true (.slice oa o oc) true (.slice na n nc))) := B.out.set 4 (.slice na n nc)
         clear B
         go_wp2_with (first
           | (refine wpList_load_part rfl 112 (.tmp 3) rfl (w.heap.size + 1) 0 (chC (.slice ka k kc) true (.slice oa o oc) true (.slice na n nc)) rfl B7.out.row (by simp) Try.underlying112 rfl (Try.chSz _ _ _ _ _) ?_)
           | (refine wpList_store_part rfl 112 (.tmp 2) (.tmp 44) rfl w.heap.size 0 (chC (.slice ka k kc) true (.slice oa o oc) true (.slice na n nc)) rfl rfl B7.out.res (by simp [chC]) (Try.chSz _ _ _ _ _) (chC_one rfl rfl rfl _ _) ?_; intro w8 b8 c8; rw [splice_all _ _ (by simp [chC])] at b8; have RR : Hid _ := b8; have FF : Hid _ := B7.out.fin c8; clear b8 c8))
         exact bodyPost_ret (v := .agg (chC (.slice ka k kc) true (.slice oa o oc) true (.slice na n nc)).toArray) (results_row1 rfl _ _ w.heap.size 112 _ _ _ rfl RR.out.eq Try.underlying112 rfl (Try.chSz _ _ _ _ _)) rfl (by rw [HSS.out]; exact ⟨⟨_, _, _, rfl, FF.out.2.1.1.2, FF.out.2.1.2, FF.out.2.2, FF.out.1, Ap3.of G5.out.1 G6.out.1 G5.out.2 G6.out.2 (fun g hg => (G7.out.2 g hg).1)⟩⟩)
       · have g3 : h2 = false := by cases h2 <;> simp_all
         subst g3
         clear g2
         have hS := HSS.out
         simp only [Bool.false_eq_true, if_false] at hS
         clear HSS
         have HSS : Hid _ := hS
         clear hS
         go_wp2_with (first
           | (refine wpList_load_part rfl 112 (.tmp 3) rfl (w.heap.size + 1) 0 (chC (.slice ka k kc) true (.slice oa o oc) false (.slice none 0 0)) rfl B6.out.row (by simp) Try.underlying112 rfl (Try.chSz _ _ _ _ _) ?_)
           | (refine wpList_store_part rfl 112 (.tmp 2) (.tmp 44) rfl w.heap.size 0 (chC (.slice ka k kc) true (.slice oa o oc) false (.slice none 0 0)) rfl rfl B6.out.res (by simp [chC]) (Try.chSz _ _ _ _ _) (chC_one rfl rfl rfl _ _) ?_; intro w8 b8 c8; rw [splice_all _ _ (by simp [chC])] at b8; have RR : Hid _ := b8; have FF : Hid _ := B6.out.fin c8; clear b8 c8))
         exact bodyPost_ret (v := .agg (chC (.slice ka k kc) true (.slice oa o oc) false (.slice none 0 0)).toArray) (results_row1 rfl _ _ w.heap.size 112 _ _ _ rfl RR.out.eq Try.underlying112 rfl (Try.chSz _ _ _ _ _)) rfl (by rw [HSS.out]; exact ⟨⟨_, _, _, rfl, FF.out.2.1.2, FF.out.2.2, Own.nil _, FF.out.1, Ap3.of G5.out.1 G6.out.1 G5.out.2 G6.out.2 nilB⟩⟩)
     · have g3 : h1 = false := by cases h1 <;> simp_all
       subst g3
       clear g1
       have hS := HSS.out
       simp only [optS, Bool.false_eq_true, if_false] at hS
       clear HSS
       have HSS : Hid _ := hS
       clear hS
       by_cases g2 : h2 = true
       · subst g2
         have HC : Hid _ := rText_any B5.out.st_.rp.1 65536 (by decide) (by decide)
         obtain ⟨Ln, a4, e4, hL⟩ : ∃ F b c, textS T a2 e2 65536 = (F, b, c) := ⟨_, _, _, rfl⟩
         have hS := HSS.out
         simp only [if_pos, hL] at HC hS
         clear HSS
         have HSS : Hid _ := hS
         clear hL hS
         go_wp2_with fail
         refine Calls.mono HC.out ?_
         rintro e w7 ⟨s, rfl, o1, r1, g1⟩
         have G7 : Hid (w5.heap.size ≤ w7.heap.size ∧ ∀ g, s.ownBlock = some g → w5.heap.size ≤ g ∧ g < w7.heap.size) := ⟨Nat.le_trans (le_set _ _ _) r1.2.size, fun g hg => ⟨Nat.le_trans (le_set _ _ _) (g1 g hg), o1.lt hg⟩⟩
         clear g1
         obtain ⟨na, nc, hsf⟩ := Own.form o1
         obtain ⟨n, hn⟩ : ∃ n, n = Ln.length := ⟨_, rfl⟩
         rw [← hn] at hsf
         subst hsf
         have B : Hid _ := (B5.out.call r1).more (St.own (by decide) _ _) o1
         clear r1 HC B5 o1 hn hc hf hd hd2
         have hc : w7.cell? ⟨w.heap.size + 1, 4, none⟩ = some (.slice none 0 0) := B.out.row.cell 4
         have hf : w7.frozen? ⟨w.heap.size + 1, 4, none⟩ = false := B.out.row.fr 4
         have B7 : Hid (Bld w p tv T 112 _ _ (w7.setCell ⟨w.heap.size + 1, 4, none⟩ (.slice na n nc)) a4 e4 (chC (.slice ka k kc) false (.slice none 0 0) true (.slice na n nc))) := B.out.set 4 (.slice na n nc)
         clear B
         go_wp2_with (first
           | (refine wpList_load_part rfl 112 (.tmp 3) rfl (w.heap.size + 1) 0 (chC (.slice ka k kc) false (.slice none 0 0) true (.slice na n nc)) rfl B7.out.row (by simp) Try.underlying112 rfl (Try.chSz _ _ _ _ _) ?_)
           | (refine wpList_store_part rfl 112 (.tmp 2) (.tmp 44) rfl w.heap.size 0 (chC (.slice ka k kc) false (.slice none 0 0) true (.slice na n nc)) rfl rfl B7.out.res (by simp [chC]) (Try.chSz _ _ _ _ _) (chC_one rfl rfl rfl _ _) ?_; intro w8 b8 c8; rw [splice_all _ _ (by simp [chC])] at b8; have RR : Hid _ := b8; have FF : Hid _ := B7.out.fin c8; clear b8 c8))
         exact bodyPost_ret (v := .agg (chC (.slice ka k kc) false (.slice none 0 0) true (.slice na n nc)).toArray) (results_row1 rfl _ _ w.heap.size 112 _ _ _ rfl RR.out.eq Try.underlying112 rfl (Try.chSz _ _ _ _ _)) rfl (by rw [HSS.out]; exact ⟨⟨_, _, _, rfl, FF.out.2.1.2, Own.nil _, FF.out.2.2, FF.out.1, Ap3.of G5.out.1 (Nat.le_refl _) G5.out.2 nilB (fun g hg => (G7.out.2 g hg).1)⟩⟩)
       · have g3 : h2 = false := by cases h2 <;> simp_all
         subst g3
         clear g2
         have hS := HSS.out
         simp only [Bool.false_eq_true, if_false] at hS
         clear HSS
         have HSS : Hid _ := hS
         clear hS
         go_wp2_with (first
           | (refine wpList_load_part rfl 112 (.tmp 3) rfl (w.heap.size + 1) 0 (chC (.slice ka k kc) false (.slice none 0 0) false (.slice none 0 0)) rfl B5.out.row (by simp) Try.underlying112 rfl (Try.chSz _ _ _ _ _) ?_)
           | (refine wpList_store_part rfl 112 (.tmp 2) (.tmp 44) rfl w.heap.size 0 (chC (.slice ka k kc) false (.slice none 0 0) false (.slice none 0 0)) rfl rfl B5.out.res (by simp [chC]) (Try.chSz _ _ _ _ _) (chC_one rfl rfl rfl _ _) ?_; intro w8 b8 c8; rw [splice_all _ _ (by simp [chC])] at b8; have RR : Hid _ := b8; have FF : Hid _ := B5.out.fin c8; clear b8 c8))
         exact bodyPost_ret (v := .agg (chC (.slice ka k kc) false (.slice none 0 0) false (.slice none 0 0)).toArray) (results_row1 rfl _ _ w.heap.size 112 _ _ _ rfl RR.out.eq Try.underlying112 rfl (Try.chSz _ _ _ _ _)) rfl (by rw [HSS.out]; exact ⟨⟨_, _, _, rfl, FF.out.2.2, Own.nil _, Own.nil _, FF.out.1, Ap3.of G5.out.1 (Nat.le_refl _) G5.out.2 nilB nilB⟩⟩)
end Go.Proofs.Ytjmeaebehndheaa
