/-
  The walk of HeapSorts.
-/
import Derived.Test.YtbfbjjfjeiihbaaHsX
namespace Go.Proofs.Ytbfbjjfjeiihbaa
open Go.RowKit

def R1 (W : World) (N p gk : Nat) (lv gv si : Value) (wr : World) : Prop :=
  ∃ (i : Nat) (v : Value) (L : List (Int × Int)) (G : List Bool), si = .int .i64 i ∧ i ≤ N ∧ N < gk + i ∧ L.length = i ∧
    Hid (HW W wr p v (pushF (odB false) L [] 0).1 i lv L gv G (.slice none 0 0) [] [] ∧ HS (pushF (odB false) L [] 0).1 L G ∧ HO (odB false) (pushF (odB false) L [] 0).1)

def R2 (W : World) (N M p gk : Nat) (lv gv si : Value) (wr : World) : Prop :=
  ∃ (i : Nat) (v : Value) (H : List E) (L : List (Int × Int)) (G : List Bool), si = .int .i64 i ∧ i ≤ M ∧ M < gk + i ∧ L.length = N + i ∧ (0 < H.length ↔ 0 < N + i) ∧
    Hid (HW W wr p v H (N + i) lv L gv G (.slice none 0 0) [] [] ∧ HS H L G ∧ HO (odB false) H ∧ (i = 0 → H = (pushF (odB false) L [] 0).1))

theorem Chg.drewh {S : Nat → Prop} {a w : World} (h : Chg S a w) (n : Nat) : Chg S a (w.drewN n) := ⟨h.os, h.tape, h.output, h.size, h.block⟩

theorem r2_next {W wr : World} {N M p i n : Nat} {v lv gv si : Value} {H : List E} {L : List (Int × Int)} {G : List Bool} {k : Int} (hLl : L.length = N + i) (hiM : (i : Int) < (M : Int))
    (F : HW W wr p v (swapF (odB false) H ⟨k, L.length, ((N + i : Nat) : Int) + 1⟩).1 (N + i + 1) lv (L ++ [(k, (L.length : Int))]) gv (G.set n true ++ [false]) (.slice none 0 0) [] [])
    (S : HS (swapF (odB false) H ⟨k, L.length, (L.length : Int) + 1⟩).1 (L ++ [(k, (L.length : Int))]) (G.set n true ++ [false]))
    (O : HO (odB false) (swapF (odB false) H ⟨k, L.length, ((N + i : Nat) : Int) + 1⟩).1) (P : 0 < (swapF (odB false) H ⟨k, L.length, ((N + i : Nat) : Int) + 1⟩).1.length) (hsi : si = .int .i64 ((i + 1 : Nat) : Int)) :
    R2 W N M p (M - i) lv gv si wr := by
  rw [hLl] at F S O P
  exact ⟨i + 1, v, _, _, _, hsi, by omega, by omega, by simp [hLl]; omega, ⟨fun _ => by omega, fun _ => P⟩, F, S, O, fun h => by omega⟩

/-- What stands while the heap is emptied. -/
def Low (O : List (Int × Int)) (H : List E) : Prop := ∀ x, O.getLast? = some x → ∀ y ∈ H, ¬ (y.k < x.1) ∧ (x.1 = y.k → ¬ (y.n < x.2))

def R4 (W : World) (p came : Nat) (lv : Value) (L : List (Int × Int)) (ga : Option Addr) (gn gc c : Nat) (D : List (Int × Int)) (gk : Nat) (ov si : Value) (wr : World) : Prop :=
  ∃ (i : Nat) (v : Value) (H : List E) (G : List Bool) (O : List (Int × Int)), si = .int .i64 i ∧ c < gk + i ∧ Hid (H.length + i = c ∧ O.length = i ∧ G.length = gn ∧
    HW W wr p v H came lv L (.slice ga gn gc) G ov O [] ∧ HS H L G ∧ HO (odB false) H ∧ O ++ (drF (odB false) H.length H).1 = D ∧ Low O H)

theorem r4_next {W wr : World} {p came gn gc c i n : Nat} {v lv ov si : Value} {L O D : List (Int × Int)} {ga : Option Addr} {H : List E} {G : List Bool} (hH : 0 < H.length) (hc : H.length + i = c) (hO : O.length = i) (hG : G.length = gn) (hs : HS H L G) (ho : HO (odB false) H)
    (hD : O ++ (drF (odB false) H.length H).1 = D) (F : HW W wr p v (popF (odB false) H).1 came lv L (.slice ga gn gc) (G.set n true) ov (O ++ [(nth H 0).th]) []) (S : HS (popF (odB false) H).1 L (G.set n true)) (hsi : si = .int .i64 ((i + 1 : Nat) : Int)) :
    R4 W p came lv L ga gn gc c D (c - i) ov si wr := by
  refine ⟨i + 1, v, _, _, _, hsi, by omega, by rw [popF_len]; omega, by simp [hO], by rw [List.length_set]; exact hG, F, S, popF_HO (tot_B false) ho hH, ?_, ?_⟩
  · rw [← hD, popF_len, List.append_assoc]
    obtain ⟨m, hm⟩ : ∃ m, H.length = m + 1 := ⟨H.length - 1, by omega⟩
    rw [hm]
    rfl
  · intro x hx y hy
    rw [List.getLast?_append] at hx
    have hx' : (nth H 0).th = x := by simpa using hx
    subst hx'
    exact hs.low ho hH y (popF_mem (odB false) hy)

set_option maxRecDepth 100000 in
set_option maxHeartbeats 8000000 in
theorem sorts_any {W : World} {a b : Option Addr} {N M ca cb : Nat} {r s : Nat → Int} (hk : Ins W a N r) (hs : Ins W b M s) :
    Calls Try.prog 4 #[.slice a N ca, .slice b M cb] W fun e w' => e = .returned (.bool true) ∧ Below W.heap.size W w' := by
  have HK : Hid _ := hk
  have HZ : Hid _ := hs
  have hN : N ≤ 1048576 := hk.len
  have hM : M ≤ 1048576 := hs.len
  have NW : Hid _ := new_any (f := .func (.func 11) #[] #[]) (.inr ⟨11, _, rfl⟩) W
  clear hk hs
  go_enter Try.func4, Try.ntmps4
  go_wp2_with fail
  refine Calls.mono NW.out ?_
  rintro e w1 ⟨rfl, hq1, ch1⟩
  have H0 : Hid _ := HW.made hq1 ch1
  obtain ⟨p, hp⟩ : ∃ p, p = W.heap.size := ⟨_, rfl⟩
  rw [← hp] at H0 ⊢
  clear hp hq1 ch1 NW
  go_wp2_with fail
  go_loopg [6, 7, 8] (N + 1) (fun gk lv gv si wr => R1 W N p gk lv gv si wr)
  case atStart => exact ⟨0, _, [], [], rfl, by omega, by omega, rfl, H0.out, HS.nil, HO.nil _⟩
  case round =>
    obtain ⟨i, v, L, G, rfl, hi, hgk, hLl, hid⟩ := hrel
    by_cases h0 : i = N
    · have h0' : N = i := h0.symm
      subst h0'
      have HD : Hid _ := hid.out
      clear hid H0
      go_wp2_with fail
      go_loopg [6, 7, 10] (M + 1) (fun gk lv gv si wr => R2 W N M p gk lv gv si wr)
      case atStart =>
        obtain ⟨h1, h2, h3⟩ := HD.out
        exact ⟨0, v, _, L, G, rfl, by omega, by omega, hLl, by rw [pushF_len, hLl]; simp, h1, h2, h3, fun _ => rfl⟩
      case round =>
        clear HD hLl hgk
        obtain ⟨i, v, H, L, G, rfl, hi, hgk, hLl, hiff, hid⟩ := hrel
        by_cases h0 : i = M
        · have h0' : M = i := h0.symm
          subst h0'
          obtain ⟨hw, hsv, hho, hfin⟩ := hid.out
          obtain ⟨la, lc, rfl⟩ := hw.li.form
          obtain ⟨ga, gc, eg⟩ := hw.gi.form
          obtain ⟨gn, hgn⟩ : ∃ gn, gn = G.length := ⟨_, rfl⟩
          rw [← hgn] at eg
          subst eg
          have hgL : gn ≤ 2097152 := by rw [hgn, hsv.gl]; omega
          have CNT : Hid _ := hsv.cnt
          have HW2 : Hid _ := hw
          have HS2 : Hid _ := hsv
          have HO2 : Hid _ := hho
          have FIN : Hid _ := hfin
          have HGN : Hid _ := hgn
          have HLL : Hid _ := hLl
          obtain ⟨w2, hw2⟩ : ∃ w2, w2 = wr := ⟨_, rfl⟩
          rw [← hw2] at HW2 ⊢
          clear hid hw hsv hho hfin hgn hiff hi hgk hw2 hLl
          go_wp2_with fail
          go_loopg [14, 114] (gn + 1) (fun gk sl sj wq => ∃ j : Nat, sj = .int .i64 j ∧ sl = .int .i64 ((G.take j).count false) ∧ j ≤ gn ∧ gn < gk + j ∧ wq = w2)
          case atStart => exact ⟨0, rfl, rfl, by omega, by omega, rfl⟩
          case round =>
            obtain ⟨j, rfl, rfl, hj, hgk, rfl⟩ := hrel
            by_cases h1 : j = gn
            · have hct : (G.take j).count false = H.length := by rw [h1, HGN.out, List.take_length]; exact CNT.out.symm
              obtain ⟨c, hc⟩ : ∃ c, c = H.length := ⟨_, rfl⟩
              rw [hct, ← hc]
              have LN0 := len_any HW2.out.hq
              rw [← hc] at LN0
              have LN : Hid _ := LN0
              have hcl : c ≤ 2097152 := by rw [hc, CNT.out]; have := List.count_le_length (a := false) (l := G); have := HGN.out; omega
              have HC : Hid _ := hc
              have h1' : gn = j := h1.symm
              subst h1'
              clear LN0 hct hc CNT hgk
              have g9 : ((c : Int) != (c : Int)) = false := by simp
              go_wp2_with (go_at_call 12; refine Calls.mono LN.out ?_; rintro e w9 ⟨rfl, h9⟩; subst h9)
              go_loopg [16, 17] (c + 1) (fun gk ov si wq => R4 W p (N + M) (.slice la L.length lc) L ga gn gc c (drF (odB false) H.length H).1 gk ov si wq)
              case atStart => exact ⟨0, v, H, G, [], rfl, by omega, by rw [HC.out]; omega, rfl, HGN.out.symm, HW2.out, HS2.out, HO2.out, rfl, fun x h => by simp at h⟩
              case round =>
                clear LN HGN
                obtain ⟨D, hD⟩ : ∃ D, D = (drF (odB false) H.length H).1 := ⟨_, rfl⟩
                have HD : Hid _ := hD
                rw [← hD] at hrel
                have hRR : ∀ gk ov si wq, R4 W p (N + M) (.slice la L.length lc) L ga gn gc c D gk ov si wq → R4 W p (N + M) (.slice la L.length lc) L ga gn gc c (drF (odB false) H.length H).1 gk ov si wq := fun _ _ _ _ h => by rw [← hD]; exact h
                have RR : Hid _ := hRR
                clear hD hRR
                obtain ⟨i, v', H', G', O, rfl, hgk, hid⟩ := hrel
                obtain ⟨a1, a2, a3, a4, a5, a6, a7, a8⟩ := hid.out
                clear hid
                by_cases h2 : i = c
                · have hH0 : H' = [] := List.eq_nil_of_length_eq_zero (by omega)
                  subst hH0
                  have LN : Hid _ := len_any a4.hq
                  have hOD : O = D := by rw [← a7]; show O = O ++ []; rw [List.append_nil]
                  have CH : Hid _ := a4.ch
                  obtain ⟨oa, oc, eo⟩ := a4.oi.form
                  subst eo
                  have A4 : Hid _ := a4
                  have OD : Hid _ := hOD
                  have h2' : c = i := h2.symm
                  subst h2'
                  clear a1 a2 a3 a4 a5 a6 a7 a8 hOD h2 hgk
                  by_cases hM0 : 0 < M
                  · have m1 : decide ((0 : Int) < (M : Int)) = true := decide_eq_true (by omega)
                    have m2 : (0 : Int) < (M : Int) := by omega
                    go_wp2_with (go_at_call 12; refine Calls.mono LN.out ?_; rintro e w9 ⟨rfl, h9⟩; subst h9)
                    go_ret
                    exact ⟨rfl, CH.out.below (Nat.le_refl _) (fun _ h => h.elim)⟩
                  · have hM1 : M = 0 := by omega
                    subst hM1
                    have hDL : D = (drF (odB false) L.length (pushF (odB false) L [] 0).1).1 := by rw [HD.out, FIN.out rfl, pushF_len]; simp
                    have hLN : L.length = N := HLL.out
                    have hOL : O.length = L.length := by rw [OD.out, hDL, drF_len]
                    obtain ⟨SO, LE, SM, SN⟩ := ends A4.out OD.out hDL (by omega)
                    obtain ⟨kk, hkk⟩ : ∃ kk, kk = L.length / 2 := ⟨_, rfl⟩
                    have HOV : ∃ ov2, Hid ((Value.slice oa O.length oc = .slice none 0 0 ∧ ov2 = .slice none 0 0 ∧ kk = 0) ∨ ∃ og m oc' : Nat, Value.slice oa O.length oc = .slice (some ⟨og, 0, none⟩) m oc' ∧ ov2 = .slice (some ⟨og, 0, none⟩) kk oc' ∧ kk ≤ oc') ∧ Hid (Ths wr ov2 (D.take kk)) := by
                      have hoi := A4.out.oi
                      rcases hoi.2 with ⟨e1, e2⟩ | ⟨og, ocp, _, e1, _, _, hle, _⟩
                      · have hO0 : kk = 0 := by omega
                        exact ⟨.slice none 0 0, .inl ⟨e1, rfl, hO0⟩, by rw [hO0]; exact .inl ⟨rfl, rfl⟩⟩
                      · injection e1 with e1 _ e3
                        subst e1 e3
                        refine ⟨.slice (some ⟨og, 0, none⟩) kk oc, .inr ⟨og, _, oc, rfl, rfl, by omega⟩, ?_⟩
                        have := own_take (kk := kk) hoi (by omega)
                        rw [OD.out] at this
                        exact this
                    obtain ⟨ov2, HOV, TK⟩ := HOV
                    have LNN : Hid _ := len_any A4.out.hq
                    have hDn : D.length = L.length := by rw [hDL, drF_len]
                    have R5 : Hid (∀ (Q : Exit → Act → World → Prop) (A : Act), A.tmps.size = 244 → A.defers = [] → A.tmps.getD 6 undef = .slice la L.length lc → A.tmps.getD 16 undef = .slice oa O.length oc → (∀ b w', b.tmps.size = 244 → b.defers = [] → b.tmps.getD 4 undef = .bool true → Chg (fun _ => False) wr w' → Q .normal b w') → (Code.region 50 ops50 true).wp Try.prog Q A wr) :=
                      fun Q A h1 h2 h3 h4 h5 => reg50 (by omega) hkk hDn SO LE SM (fun w' va => SN w' va ov2 kk TK.out) HOV.out h1 h2 h3 h4 (Chg.refl _ _) h5
                    clear HD FIN HLL A4 OD hDL hLN LN hOL hkk hDn SO LE SM SN HOV TK
                    go_wp2_with (go_at_call 12; refine Calls.mono LNN.out ?_; rintro e w9 ⟨rfl, h9⟩; subst h9)
                    refine R5.out _ _ rfl rfl rfl rfl ?_
                    rename_i KK hKK
                    intro b w' _ b2 b3 b4
                    refine hKK b w' ?_
                    refine wp_ret ?_
                    show bodyPost Try.prog Try.f4 (fun e w' => e = .returned (.bool true) ∧ Below W.heap.size W w') .ret b w'
                    refine bodyPost_ret (results_tmp rfl _ _ _) b2 ?_
                    exact ⟨by rw [b3], (CH.out.trans b4 (fun _ h => h.elim)).below (Nat.le_refl _) (fun _ h => h.elim)⟩
                · have hic : (i : Int) < (c : Int) := by omega
                  have hH' : 0 < H'.length := by omega
                  have PP := a4.pop hH' (by omega)
                  obtain ⟨n, n1, n2, n3, n4, n5⟩ := a5.popped hH'
                  have hn2 : tnth L n = ((tnth L n).1, (n : Int)) := Prod.ext rfl (a5.nn n n1)
                  rw [n2, hn2] at PP
                  unfold two at PP
                  obtain ⟨q, hq⟩ : ∃ q, (tnth L n).1 = q := ⟨_, rfl⟩
                  rw [hq] at PP hn2
                  have P4 : Hid _ := PP
                  have T2 : Hid _ := hn2
                  have N2 : Hid _ := n2
                  have N4 : Hid _ := n4
                  have N5 : Hid _ := n5
                  have HH : Hid _ := hH'
                  have GG : Hid _ := a3
                  have hgl : G'.length = L.length := a5.gl
                  have d1 : decide ((n : Int) < 0) = false := decide_eq_false (by omega)
                  have d2 : decide ((L.length : Int) ≤ (n : Int)) = false := decide_eq_false (by omega)
                  have d3 : (n : Int) < (L.length : Int) := by omega
                  have d4 : (n : Int) < (gn : Int) := by omega
                  have d5 : n < G'.length := by omega
                  have hOl : O.length ≤ 2097152 := by omega
                  have hkq : (nth H' 0).k = q := by have := congrArg Prod.fst n2; rw [hn2] at this; exact this
                  have hkn : (nth H' 0).n = n := n3
                  have lo : ∀ x, O.getLast? = some x → decide (q < x.1) = false ∧ (x.1 = q → decide ((n : Int) < x.2) = false) := fun x hx => by
                    obtain ⟨l1, l2⟩ := a8 x hx _ (nth_mem hH')
                    rw [hkq] at l1 l2
                    rw [hkn] at l2
                    exact ⟨decide_eq_false l1, fun e => decide_eq_false (l2 e)⟩
                  obtain ⟨oa, oc, eo⟩ := a4.oi.form
                  subst eo
                  have A4 : Hid _ := And.intro a1 (And.intro a2 (And.intro a3 (And.intro a5 (And.intro a6 a7))))
                  have LO : Hid _ := lo
                  have OI : Hid _ := a2
                  have EQ := eql26
                  clear a1 a2 a3 a4 a5 a6 a7 a8 PP n2 n3 n4 n5 hn2 hq hgl hkq hkn lo hH' HW2 HS2 HO2 FIN HC
                  go_upto_region 39 with fail
                  go_wp2_with fail
                  refine Calls.mono P4.out ?_
                  rintro e w4 ⟨rfl, v4, h4⟩
                  have h5 := h4.box q n
                  rw [List.nil_append] at h5
                  obtain ⟨w5, hw5⟩ : ∃ w5, w5 = w4.alloc (.cells #[.int .i64 q, .int .i64 n] 26) := ⟨_, rfl⟩
                  rw [← hw5] at h5
                  obtain ⟨vb, hvb⟩ : ∃ vb, vb = w4.heap.size := ⟨_, rfl⟩
                  rw [← hvb] at h5
                  have z0 : w5.cell? ⟨vb, 0, none⟩ = some (.int .i64 q) := (h5.bk _ (List.mem_singleton_self _)).cell 0
                  have z1 : w5.cell? ⟨vb, 1, none⟩ = some (.int .i64 n) := (h5.bk _ (List.mem_singleton_self _)).cell 1
                  obtain ⟨lb, lc', el, _, _, lcell⟩ := h5.li.at n1
                  obtain ⟨l0, l1⟩ := lcell n n1
                  rw [T2.out, Nat.zero_add] at l0 l1
                  obtain ⟨gb, gc', eg, _, gcell, gfr⟩ := h5.gi.at d5
                  have g0 := gcell n false N4.out
                  rw [Nat.zero_add] at g0
                  have gf := gfr n
                  injection el with el1 el3 el2
                  clear el3
                  subst el1 el2
                  injection eg with eg1 eg3 eg2
                  clear eg3
                  subst eg1 eg2
                  rw [← GG.out] at h5
                  have W5 : Hid _ := hw5
                  have VB : Hid _ := hvb
                  have H5 : Hid _ := h5
                  clear h4 h5 hw5 hvb P4 lcell gcell gfr d5
                  by_cases hi0 : 0 < i
                  · obtain ⟨m, hm⟩ : ∃ m, i = m + 1 := ⟨i - 1, by omega⟩
                    subst hm
                    have hmO : m < O.length := by rw [OI.out]; omega
                    have hlast : O.getLast? = some (tnth O m) := by
                      rw [List.getLast?_eq_getElem?, OI.out]
                      show O[m]? = _
                      unfold tnth
                      rw [List.getD_eq_getElem?_getD, List.getElem?_eq_getElem hmO]; rfl
                    obtain ⟨x, hoo⟩ : ∃ x, tnth O m = x := ⟨_, rfl⟩
                    rw [hoo] at hlast
                    obtain ⟨o1, o2⟩ := x
                    obtain ⟨lo1, lo2⟩ := LO.out _ hlast
                    simp only at lo1 lo2
                    have LO2 : Hid _ := lo2
                    have HOO : Hid _ := hoo
                    have hmi : (m : Int) < (O.length : Int) := by omega
                    have c1 : decide ((0 : Int) < ((m + 1 : Nat) : Int)) = true := decide_eq_true (by omega)
                    clear hlast hoo lo2 LO hi0
                    go_upto_region 40 with fail
                    rw [← VB.out, ← W5.out]
                    go_quiet (fail)
                    have h6 := (HW.keep H5.out ((Chg.refl _ _).drewh nq)).putG n true
                    go_upto_region 43 with fail
                    obtain ⟨w6, hw6⟩ : ∃ w6, w6 = (w5.drewN nq).setCell ⟨gb, n, none⟩ (.bool true) := ⟨_, rfl⟩
                    rw [← hw6] at h6 ⊢
                    have z0 : w6.cell? ⟨vb, 0, none⟩ = some (.int .i64 q) := (h6.bk _ (List.mem_singleton_self _)).cell 0
                    have z1 : w6.cell? ⟨vb, 1, none⟩ = some (.int .i64 n) := (h6.bk _ (List.mem_singleton_self _)).cell 1
                    rw [List.length_set, GG.out] at h6
                    have H6 : Hid _ := h6
                    clear hw6
                    obtain ⟨ob, oc', eo, _, _, ocell⟩ := h6.oi.at hmO
                    obtain ⟨k0, k1⟩ := ocell m hmO
                    rw [HOO.out, Nat.zero_add] at k0 k1
                    simp only at k0 k1
                    injection eo with eo1 eo3 eo2
                    clear eo3
                    subst eo1 eo2
                    clear ocell
                    by_cases he : o1 = q
                    · have he' : q = o1 := he.symm
                      subst he'
                      have c4 := LO2.out rfl
                      clear h6
                      go_quiet (fail)
                      have h7 := HW.keep H6.out ((Chg.refl _ _).drewh nq)
                      go_upto_region 45 with fail
                      obtain ⟨w7, hw7⟩ : ∃ w7, w7 = w6.drewN nq := ⟨_, rfl⟩
                      rw [← hw7] at h7 ⊢
                      have s0 : w7.cell? ⟨vb, 0, none⟩ = some (.int .i64 q) := (h7.bk _ (List.mem_singleton_self _)).cell 0
                      have s1 : w7.cell? ⟨vb, 1, none⟩ = some (.int .i64 n) := (h7.bk _ (List.mem_singleton_self _)).cell 1
                      obtain ⟨ov', w8, r8, h8⟩ := h7.addO (q, (n : Int)) (by omega)
                      have H8 : Hid _ := h8.less
                      have Q8 : Hid _ := r8
                      clear h7 hw7 r8 h8 H6 z0 z1 k0 k1
                      go_wp2_with (at_builtin; refine wpList_app2 rfl (.tmp 208) (.tmp 210) rfl rfl rfl Q8.out ?_)
                      go_roundg (c - (m + 1))
                      case measure => have := A4.out.1; omega
                      case rel =>
                        obtain ⟨a1, a2, a3, a5, a6, a7⟩ := A4.out
                        have F := H8.out
                        rw [← T2.out, ← N2.out] at F
                        exact RR.out _ _ _ _ (r4_next (HH.out) a1 a2 a3 a5 a6 a7 F N5.out rfl)
                    · have c3 : (o1 == q) = false := by simpa using he
                      clear h6
                      go_quiet (fail)
                      have h7 := HW.keep H6.out ((Chg.refl _ _).drewh nq)
                      go_upto_region 45 with fail
                      obtain ⟨w7, hw7⟩ : ∃ w7, w7 = w6.drewN nq := ⟨_, rfl⟩
                      rw [← hw7] at h7 ⊢
                      have s0 : w7.cell? ⟨vb, 0, none⟩ = some (.int .i64 q) := (h7.bk _ (List.mem_singleton_self _)).cell 0
                      have s1 : w7.cell? ⟨vb, 1, none⟩ = some (.int .i64 n) := (h7.bk _ (List.mem_singleton_self _)).cell 1
                      obtain ⟨ov', w8, r8, h8⟩ := h7.addO (q, (n : Int)) (by omega)
                      have H8 : Hid _ := h8.less
                      have Q8 : Hid _ := r8
                      clear h7 hw7 r8 h8 H6 z0 z1 k0 k1
                      go_wp2_with (at_builtin; refine wpList_app2 rfl (.tmp 208) (.tmp 210) rfl rfl rfl Q8.out ?_)
                      go_roundg (c - (m + 1))
                      case measure => have := A4.out.1; omega
                      case rel =>
                        obtain ⟨a1, a2, a3, a5, a6, a7⟩ := A4.out
                        have F := H8.out
                        rw [← T2.out, ← N2.out] at F
                        exact RR.out _ _ _ _ (r4_next (HH.out) a1 a2 a3 a5 a6 a7 F N5.out rfl)
                  · have c1 : decide ((0 : Int) < (i : Int)) = false := decide_eq_false (by omega)
                    go_upto_region 40 with fail
                    rw [← VB.out, ← W5.out]
                    go_quiet (fail)
                    have h6 := (HW.keep H5.out ((Chg.refl _ _).drewh nq)).putG n true
                    go_upto_region 43 with fail
                    obtain ⟨w6, hw6⟩ : ∃ w6, w6 = (w5.drewN nq).setCell ⟨gb, n, none⟩ (.bool true) := ⟨_, rfl⟩
                    rw [← hw6] at h6 ⊢
                    have z0 : w6.cell? ⟨vb, 0, none⟩ = some (.int .i64 q) := (h6.bk _ (List.mem_singleton_self _)).cell 0
                    have z1 : w6.cell? ⟨vb, 1, none⟩ = some (.int .i64 n) := (h6.bk _ (List.mem_singleton_self _)).cell 1
                    rw [List.length_set, GG.out] at h6
                    have H6 : Hid _ := h6
                    clear hw6
                    clear h6
                    go_quiet (fail)
                    have h7 := HW.keep H6.out ((Chg.refl _ _).drewh nq)
                    go_upto_region 45 with fail
                    obtain ⟨w7, hw7⟩ : ∃ w7, w7 = w6.drewN nq := ⟨_, rfl⟩
                    rw [← hw7] at h7 ⊢
                    have s0 : w7.cell? ⟨vb, 0, none⟩ = some (.int .i64 q) := (h7.bk _ (List.mem_singleton_self _)).cell 0
                    have s1 : w7.cell? ⟨vb, 1, none⟩ = some (.int .i64 n) := (h7.bk _ (List.mem_singleton_self _)).cell 1
                    obtain ⟨ov', w8, r8, h8⟩ := h7.addO (q, (n : Int)) (by omega)
                    have H8 : Hid _ := h8.less
                    have Q8 : Hid _ := r8
                    clear h7 hw7 r8 h8 H6 z0 z1 
                    go_wp2_with (at_builtin; refine wpList_app2 rfl (.tmp 208) (.tmp 210) rfl rfl rfl Q8.out ?_)
                    go_roundg (c - i)
                    case measure => have := A4.out.1; omega
                    case rel =>
                      obtain ⟨a1, a2, a3, a5, a6, a7⟩ := A4.out
                      have F := H8.out
                      rw [← T2.out, ← N2.out] at F
                      exact RR.out _ _ _ _ (r4_next (HH.out) a1 a2 a3 a5 a6 a7 F N5.out rfl)
            · have hjg : (j : Int) < (gn : Int) := by omega
              have hjG : j < G.length := by rw [← HGN.out]; omega
              obtain ⟨gb, gc', eg, _, gcell, _⟩ := HW2.out.gi.at hjG
              injection eg with eg1 eg3 eg2
              clear eg3
              subst eg1 eg2
              have g0 := gcell j _ (List.getElem?_eq_getElem hjG)
              rw [Nat.zero_add] at g0
              have hcl : (G.take j).count false ≤ 2097152 := by have := List.count_le_length (a := false) (l := G.take j); rw [List.length_take] at this; omega
              have hct : (G.take (j + 1)).count false = (G.take j).count false + (if G[j] = false then 1 else 0) := by
                rw [List.take_succ_eq_append_getElem hjG, List.count_append]
                cases G[j] <;> simp
              obtain ⟨x, hx⟩ : ∃ x, G[j] = x := ⟨_, rfl⟩
              rw [hx] at g0 hct
              obtain ⟨cc, hcc⟩ : ∃ cc, (G.take j).count false = cc := ⟨_, rfl⟩
              rw [hcc] at hcl hct ⊢
              have CT : Hid _ := hct
              clear hct hcc hx gcell CNT HS2 HO2 FIN HLL
              cases x with
              | false =>
                go_wp2_with fail
                go_roundg (gn - j)
                case measure => omega
                case rel => exact ⟨j + 1, by simp, by rw [CT.out]; simp, by omega, by omega, rfl⟩
              | true =>
                go_wp2_with fail
                go_roundg (gn - j)
                case measure => omega
                case rel => exact ⟨j + 1, by simp, by rw [CT.out]; simp, by omega, by omega, rfl⟩
        · have hiM : (i : Int) < (M : Int) := by omega
          obtain ⟨g, o, rfl, e0⟩ := HZ.out.row i (by omega)
          have lg : g < W.heap.size := World.block_lt_of_cell? _ _ e0
          have hb : wr.heap[g]? = W.heap[g]? := hid.out.1.ch.block g lg (fun h => h)
          have d0 : wr.cell? ⟨g, o + i, none⟩ = some (.int .i64 (s i)) := (World.cell?_of_block (a := ⟨g, o + i, none⟩) hb).trans e0
          obtain ⟨k, hkk⟩ : ∃ k, s i = k := ⟨_, rfl⟩
          rw [hkk] at d0
          obtain ⟨hw, hsv, hho, _⟩ := hid.out
          have h3 := hw.box k L.length
          obtain ⟨w3, hw3⟩ : ∃ w3, w3 = wr.alloc (.cells #[.int .i64 k, .int .i64 L.length] 26) := ⟨_, rfl⟩
          rw [← hw3] at h3
          rw [List.nil_append] at h3
          obtain ⟨xb, hxb⟩ : ∃ xb, xb = wr.heap.size := ⟨_, rfl⟩
          rw [← hxb] at h3
          have x0 : w3.cell? ⟨xb, 0, none⟩ = some (.int .i64 k) := (h3.bk _ (List.mem_singleton_self _)).cell 0
          have x1 : w3.cell? ⟨xb, 1, none⟩ = some (.int .i64 L.length) := (h3.bk _ (List.mem_singleton_self _)).cell 1
          obtain ⟨la, lc, rfl⟩ := hw.li.form
          obtain ⟨ga, gc, rfl⟩ := hw.gi.form
          have W3 : Hid _ := hw3
          have XB : Hid _ := hxb
          have H3 : Hid _ := h3
          have SV : Hid _ := hsv
          have HHO : Hid _ := hho
          have hLL : L.length ≤ 2097151 := by omega
          have HLL : Hid _ := hLl
          have hcm : N + i + 1 ≤ 2097152 := by omega
          clear hLl
          clear hb e0 hkk hid hw hsv hho h3 hw3 hxb
          by_cases hH : 0 < H.length
          · have hNi : 0 < N + i := hiff.1 hH
            have hHl : H.length ≤ 2097152 := by have h9 := SV.out.cnt; have h8 := SV.out.gl; have := List.count_le_length (a := false) (l := G); have := HLL.out; omega
            have SWP := H3.out.swap1 (k, (L.length : Int)) hH hHl (by omega)
            obtain ⟨n, n1, n2, n3, n4, n5⟩ := SV.out.swapped hH k
            rw [n2] at SWP
            have hn2 : tnth L n = ((tnth L n).1, (n : Int)) := by rw [← n3, ← n2]; rfl
            rw [hn2] at SWP
            unfold two at SWP
            have SW : Hid _ := SWP
            have N5 : Hid (HS _ _ _) := n5
            have N4 : Hid _ := n4
            have EL : Hid (∀ m, m < L.length → tnth L m = ((tnth L m).1, (m : Int))) := fun m hm => Prod.ext rfl (SV.out.nn m hm)
            have NO : Hid (HO _ _) := swapF_HO (tot_B false) HHO.out hH ⟨k, L.length, ((N + i : Nat) : Int) + 1⟩
            have hgl : G.length = L.length := SV.out.gl
            obtain ⟨q, hq⟩ : ∃ q, (tnth L n).1 = q := ⟨_, rfl⟩
            rw [hq] at SW hn2
            have T2 : Hid _ := hn2
            have d1 : decide ((n : Int) < 0) = false := decide_eq_false (by omega)
            have d2 : decide ((L.length : Int) ≤ (n : Int)) = false := decide_eq_false (by omega)
            have d3 : (n : Int) < (L.length : Int) := by omega
            have d4 : (n : Int) < (G.length : Int) := by omega
            have hgL : G.length ≤ 2097151 := by omega
            have GL : Hid _ := hgl
            have HSL : Hid _ := swapF_len (odB false) H ⟨k, L.length, ((N + i : Nat) : Int) + 1⟩
            have HH : Hid _ := hH
            have IFF : Hid _ := hiff
            clear SWP HHO SV hiff n2 n3 n4 n5 hn2 hq hgl hH
            go_upto_region 17 with fail
            rw [← XB.out, ← W3.out]
            go_wp2_with fail
            refine Calls.mono SW.out ?_
            rintro e w4 ⟨rfl, v4, h4⟩
            have h5 := h4.box q n
            obtain ⟨w5, hw5⟩ : ∃ w5, w5 = w4.alloc (.cells #[.int .i64 q, .int .i64 n] 26) := ⟨_, rfl⟩
            rw [← hw5] at h5
            obtain ⟨vb, hvb⟩ : ∃ vb, vb = w4.heap.size := ⟨_, rfl⟩
            rw [← hvb] at h5
            have y0 : w5.cell? ⟨xb, 0, none⟩ = some (.int .i64 k) := (h5.bk _ (List.mem_append_left _ (List.mem_singleton_self _))).cell 0
            have y1 : w5.cell? ⟨xb, 1, none⟩ = some (.int .i64 L.length) := (h5.bk _ (List.mem_append_left _ (List.mem_singleton_self _))).cell 1
            have z0 : w5.cell? ⟨vb, 0, none⟩ = some (.int .i64 q) := (h5.bk _ (List.mem_append_right _ (List.mem_singleton_self _))).cell 0
            have z1 : w5.cell? ⟨vb, 1, none⟩ = some (.int .i64 n) := (h5.bk _ (List.mem_append_right _ (List.mem_singleton_self _))).cell 1
            obtain ⟨lb, lc', el, _, _, lcell⟩ := h5.li.at n1
            obtain ⟨l0, l1⟩ := lcell n n1
            rw [T2.out, Nat.zero_add] at l0 l1
            obtain ⟨gb, gc', eg, _, gcell, gfr⟩ := h5.gi.at (i := n) (by omega)
            have g0 := gcell n false N4.out
            rw [Nat.zero_add] at g0
            have gf := gfr n
            injection el with el1 _ el2
            subst el1 el2
            injection eg with eg1 _ eg2
            subst eg1 eg2
            have W5 : Hid _ := hw5
            have VB : Hid _ := hvb
            have H5 : Hid _ := h5
            have EQ := eql26
            have HH2 : Hid (0 < (swapF (odB false) H ⟨k, L.length, ((N + i : Nat) : Int) + 1⟩).1.length) := by rw [HSL.out]; exact HH.out
            clear h4 h5 hw5 hvb SW x0 x1 d0 W3 XB H3 lcell gcell gfr HH HSL
            by_cases hi0 : 0 < i
            · have c1 : decide ((0 : Int) < (i : Int)) = true := decide_eq_true (by omega)
              go_upto_region 18 with fail
              go_wp2_with fail
              rw [← VB.out, ← W5.out]
              go_quiet (fail)
              have h6 := (HW.keep H5.out ((Chg.refl _ _).drewh nq)).putG n true
              go_upto_region 24 with fail
              obtain ⟨w6, hw6⟩ : ∃ w6, w6 = (w5.drewN nq).setCell ⟨gb, n, none⟩ (.bool true) := ⟨_, rfl⟩
              rw [← hw6] at h6 ⊢
              have t0 : w6.cell? ⟨xb, 0, none⟩ = some (.int .i64 k) := (h6.bk _ (List.mem_append_left _ (List.mem_singleton_self _))).cell 0
              have t1 : w6.cell? ⟨xb, 1, none⟩ = some (.int .i64 L.length) := (h6.bk _ (List.mem_append_left _ (List.mem_singleton_self _))).cell 1
              obtain ⟨lv', w7, gv', w8, r7, r8, h8⟩ := h6.adds (k, (L.length : Int)) (by omega) (by rw [List.length_set]; omega)
              rw [List.length_set] at r8
              have H8 : Hid _ := h8.less
              have Q7 : Hid _ := r7
              have Q8 : Hid _ := r8
              clear h6 hw6 r7 r8 h8 y0 y1 z0 z1 l0 l1 g0 gf W5 VB H5 EQ c1
              go_wp2_with (at_builtin; first | (refine wpList_app2 rfl (.tmp 105) (.tmp 107) rfl rfl rfl Q7.out ?_) | (refine wpList_appG rfl (.tmp 109) (.tmp 110) rfl rfl rfl Q8.out ?_))
              go_roundg (M - i)
              case measure => omega
              case rel => exact r2_next (HLL.out) hiM H8.out N5.out NO.out HH2.out rfl
            · have c1 : decide ((0 : Int) < (i : Int)) = false := decide_eq_false (by omega)
              have c2 : decide ((0 : Int) < (N : Int)) = true := decide_eq_true (by omega)
              have c3 : 0 < N := by omega
              have c4 : (0 : Int) < (N : Int) := by omega
              go_upto_region 18 with fail
              go_wp2_with fail
              rw [← VB.out, ← W5.out]
              go_quiet (fail)
              have h6 := (HW.keep H5.out ((Chg.refl _ _).drewh nq)).putG n true
              go_upto_region 24 with fail
              obtain ⟨w6, hw6⟩ : ∃ w6, w6 = (w5.drewN nq).setCell ⟨gb, n, none⟩ (.bool true) := ⟨_, rfl⟩
              rw [← hw6] at h6 ⊢
              have t0 : w6.cell? ⟨xb, 0, none⟩ = some (.int .i64 k) := (h6.bk _ (List.mem_append_left _ (List.mem_singleton_self _))).cell 0
              have t1 : w6.cell? ⟨xb, 1, none⟩ = some (.int .i64 L.length) := (h6.bk _ (List.mem_append_left _ (List.mem_singleton_self _))).cell 1
              obtain ⟨lv', w7, gv', w8, r7, r8, h8⟩ := h6.adds (k, (L.length : Int)) (by omega) (by rw [List.length_set]; omega)
              rw [List.length_set] at r8
              have H8 : Hid _ := h8.less
              have Q7 : Hid _ := r7
              have Q8 : Hid _ := r8
              clear h6 hw6 r7 r8 h8 y0 y1 z0 z1 l0 l1 g0 gf W5 VB H5 EQ c1
              go_wp2_with (at_builtin; first | (refine wpList_app2 rfl (.tmp 105) (.tmp 107) rfl rfl rfl Q7.out ?_) | (refine wpList_appG rfl (.tmp 109) (.tmp 110) rfl rfl rfl Q8.out ?_))
              go_roundg (M - i)
              case measure => omega
              case rel => exact r2_next (HLL.out) hiM H8.out N5.out NO.out HH2.out rfl
          · have hNi : ¬ (0 < N + i) := fun h => hH (hiff.2 h)
            have hH0 : H = [] := List.eq_nil_of_length_eq_zero (by omega)
            subst hH0
            have SWP := H3.out.swap0 (k, (L.length : Int)) (by omega)
            unfold two at SWP
            have SW : Hid _ := SWP
            have PS : Hid _ := SV.out.pushed k
            have PO : Hid (HO _ _) := push1_HO (tot_B false) HHO.out L.length (k, (L.length : Int))
            have c1 : decide ((0 : Int) < (i : Int)) = false := decide_eq_false (by omega)
            have c2 : decide ((0 : Int) < (N : Int)) = false := decide_eq_false (by omega)
            clear SWP HHO SV hiff
            go_upto_region 17 with fail
            rw [← XB.out, ← W3.out]
            go_wp2_with fail
            refine Calls.mono SW.out ?_
            rintro e w4 ⟨rfl, v4, h4⟩
            have h5 := h4.box 0 0
            obtain ⟨w5, hw5⟩ : ∃ w5, w5 = w4.alloc (.cells #[.int .i64 0, .int .i64 0] 26) := ⟨_, rfl⟩
            rw [← hw5] at h5
            have y0 : w5.cell? ⟨xb, 0, none⟩ = some (.int .i64 k) := (h5.bk _ (List.mem_append_left _ (List.mem_singleton_self _))).cell 0
            have y1 : w5.cell? ⟨xb, 1, none⟩ = some (.int .i64 L.length) := (h5.bk _ (List.mem_append_left _ (List.mem_singleton_self _))).cell 1
            obtain ⟨lv', w6, gv', w7, r6, r7, h7⟩ := h5.adds (k, (L.length : Int)) (by omega) (by have := PS.out.gl; simp at this; omega)
            have H7 : Hid _ := h7.less
            have Q6 : Hid _ := r6
            have Q7 : Hid _ := r7
            have W5 : Hid _ := hw5
            clear h4 h5 hw5 r6 r7 h7 SW x0 x1 d0 W3 XB H3
            go_upto_region 24 with fail
            rw [← W5.out]
            go_wp2_with (at_builtin; first | (refine wpList_app2 rfl (.tmp 105) (.tmp 107) rfl rfl rfl Q6.out ?_) | (refine wpList_appG rfl (.tmp 109) (.tmp 110) rfl rfl rfl Q7.out ?_))
            go_roundg (M - i)
            case measure => omega
            case rel =>
              have F := H7.out
              have G1 := PS.out
              have G2 := PO.out
              have hLl := HLL.out
              have i1 : Value.int .i64 1 = .int .i64 ((i + 1 : Nat) : Int) := by
                have h9 : i = 0 := by omega
                subst h9; rfl
              rw [hLl] at F G1 G2
              exact ⟨i + 1, v4, _, L ++ [(k, ((N + i : Nat) : Int))], G ++ [false], i1, by omega, by omega, by simp [hLl]; omega, ⟨fun _ => by omega, fun _ => by rw [pushF_len]; simp⟩, F, G1, G2, fun h => by omega⟩
    · have hiN : (i : Int) < (N : Int) := by omega
      obtain ⟨g, o, rfl, e0⟩ := HK.out.row i (by omega)
      have lg : g < W.heap.size := World.block_lt_of_cell? _ _ e0
      have hb : wr.heap[g]? = W.heap[g]? := hid.out.1.ch.block g lg (fun h => h)
      have d0 : wr.cell? ⟨g, o + i, none⟩ = some (.int .i64 (r i)) := (World.cell?_of_block (a := ⟨g, o + i, none⟩) hb).trans e0
      obtain ⟨k, hkk⟩ : ∃ k, r i = k := ⟨_, rfl⟩
      rw [hkk] at d0
      obtain ⟨hw, hsv, hho⟩ := hid.out
      have h3 := hw.box k i
      obtain ⟨w3, hw3⟩ : ∃ w3, w3 = wr.alloc (.cells #[.int .i64 k, .int .i64 i] 26) := ⟨_, rfl⟩
      rw [← hw3] at h3
      obtain ⟨lv', w5, gv', w7, r5, r7, h7⟩ := h3.adds (k, (i : Int)) (by omega) (by rw [hsv.gl]; omega)
      have PU := h7.push (k, (i : Int)) (by rw [pushF_len]; simp; omega) (by omega)
      have x0 : w3.cell? ⟨wr.heap.size, 0, none⟩ = some (.int .i64 k) := (h3.bk _ (List.mem_append_right _ (List.mem_singleton_self _))).cell 0
      have x1 : w3.cell? ⟨wr.heap.size, 1, none⟩ = some (.int .i64 i) := (h3.bk _ (List.mem_append_right _ (List.mem_singleton_self _))).cell 1
      have y0 : w7.cell? ⟨wr.heap.size, 0, none⟩ = some (.int .i64 k) := (h7.bk _ (List.mem_append_right _ (List.mem_singleton_self _))).cell 0
      have y1 : w7.cell? ⟨wr.heap.size, 1, none⟩ = some (.int .i64 i) := (h7.bk _ (List.mem_append_right _ (List.mem_singleton_self _))).cell 1
      obtain ⟨la, lc, rfl⟩ := hw.li.form
      obtain ⟨ga, gc, rfl⟩ := hw.gi.form
      have PS : Hid (HS _ _ _) := hsv.pushed k
      have PO : Hid (HO _ _) := push1_HO (tot_B false) hho i (k, (i : Int))
      have PW : Hid _ := PU
      have W3 : Hid _ := hw3
      have Q5 : Hid _ := r5
      have Q7 : Hid _ := r7
      clear hb e0 hkk hid hw hsv hho h3 hw3 r5 r7 h7 PU H0
      go_upto_region 10 with fail
      rw [← W3.out]
      go_upto_region 12 with (at_builtin; first | (refine wpList_app2 rfl (.tmp 35) (.tmp 37) rfl rfl rfl Q5.out ?_) | (refine wpList_appG rfl (.tmp 39) (.tmp 40) rfl rfl rfl Q7.out ?_))
      go_wp2_with fail
      refine Calls.mono PW.out ?_
      rintro e w9 ⟨rfl, v9, h9⟩
      have F9 : Hid _ := h9.less
      clear h9 PW x0 x1 y0 y1 d0 Q5 Q7 W3
      go_wp2_with fail
      go_roundg (N - i)
      case measure => omega
      case rel =>
        have F := F9.out
        have G1 := PS.out
        have G2 := PO.out
        have e1 : (pushF (odB false) (L ++ [(k, (i : Int))]) [] 0).1 = (push1 (odB false) (pushF (odB false) L [] 0).1 i (k, (i : Int))).1 := by rw [pushF_snoc, Nat.zero_add, hLl]
        refine ⟨i + 1, v9, L ++ [(k, (i : Int))], G ++ [false], by simp, by omega, by omega, by simp [hLl], ?_⟩
        rw [e1]
        rw [hLl] at G1
        exact ⟨F, G1, G2⟩

end Go.Proofs.Ytbfbjjfjeiihbaa
