/-
  The walk of DiskWhence.
-/
import Derived.Test.YtffkodonomfflaaOther
import Derived.Deep.RegionWith
namespace Go.Proofs.Ytffkodonomfflaa
open Go.RowKit Go.RwLone

/-- The first bytes of sector t. -/
def f8 (t : Nat) : Int := (200 + (t : Int)) % 256
def A1 (z i : Nat) : Nat → List (Nat × List Int) := fun t => if t < i then [(t, wrB (f8 t) z)] else []
theorem A1_next (z i : Nat) : updT (A1 z i) i (A1 z i i ++ [(i, wrB (f8 i) z)]) = A1 z (i + 1) := by
  funext t
  unfold A1 updT
  by_cases e : t = i
  · subst e
    simp
  · rw [if_neg e]
    show (if t < i then _ else _) = _
    by_cases h : t < i
    · rw [if_pos h, if_pos (by omega)]
    · rw [if_neg h, if_neg (by omega)]
def F1 (z S : Nat) : Nat → Option (List Int) := fun t => if t < S then some (wrB (f8 t) z) else none
theorem F1_flush (z S : Nat) : (fun t => lastA (A1 z S t) none) = F1 z S := by
  funext t
  unfold A1 F1
  by_cases h : t < S
  · rw [if_pos h, if_pos h]; rfl
  · rw [if_neg h, if_neg h]; rfl

/-- The sector of an act. -/
def nuOf (S : Nat) (nm : Int) : Nat := (nm % (S : Int)).toNat
theorem nu_cases {S : Nat} (hS : 0 < S) (nm : Int) : (nm.tmod S < 0 ∧ nm.tmod S + S = nuOf S nm) ∨ (¬ nm.tmod S < 0 ∧ nm.tmod S = nuOf S nm) := by
  have h1 := Int.emod_nonneg nm (show (S : Int) ≠ 0 by omega)
  unfold nuOf
  by_cases h : 0 ≤ nm
  · rw [Int.tmod_eq_emod_of_nonneg h]
    right
    omega
  · have h2 : (S : Int) ∣ nm - nm % S := Int.dvd_self_sub_emod
    have h3 := Int.tmod_eq_emod (a := nm) (b := S)
    have h4 := Int.lt_tmod_of_pos nm (show (0 : Int) < S by omega)
    rw [h3]
    by_cases h5 : (S : Int) ∣ nm
    · rw [if_pos (.inr h5)]
      right
      have := Int.emod_eq_zero_of_dvd h5
      omega
    · rw [if_neg (by omega)]
      left
      have h6 := Int.emod_lt_of_pos nm (show (0 : Int) < S by omega)
      have : ((S : Int).natAbs : Int) = S := by omega
      omega
theorem nu_lt {S : Nat} (hS : 0 < S) (nm : Int) : nuOf S nm < S := by
  have h1 := Int.emod_nonneg nm (show (S : Int) ≠ 0 by omega)
  have h2 := Int.emod_lt_of_pos nm (show (0 : Int) < S by omega)
  unfold nuOf
  omega

/-- The cache behind i writes. -/
def AH (z : Nat) (nu : Nat → Nat) (fi : Nat → Int) : Nat → Nat → List (Nat × List Int)
  | 0 => fun _ => []
  | i + 1 => updT (AH z nu fi i) (nu i) (AH z nu fi i (nu i) ++ [(i, wrB (fi i) z)])
/-- What the law wants of sector s. -/
def WH (z s : Nat) (nu : Nat → Nat) (fi : Nat → Int) (kN : Nat → Nat) (l : List Int) : Nat → List Int
  | 0 => l
  | i + 1 => if nu i = s then over (wrB (fi i) z) (WH z s nu fi kN l i) (kN i) else WH z s nu fi kN l i
theorem AH_WH (z s : Nat) (nu : Nat → Nat) (fi : Nat → Int) (kN : Nat → Nat) (l : List Int) : ∀ i, foldA z kN (AH z nu fi i s) (some l) = some (WH z s nu fi kN l i)
  | 0 => rfl
  | i + 1 => by
    have ih := AH_WH z s nu fi kN l i
    unfold AH WH
    by_cases e : nu i = s
    · rw [if_pos e, ← e, updT_same, foldA_snoc, e, ih]
      simp only [Option.getD_some]
      by_cases h0 : kN i = 0
      · rw [if_pos h0, h0, over_zero]
      · rw [if_neg h0]
    · rw [if_neg e, updT_other _ _ (fun e2 => e e2.symm), ih]
theorem WH_len {z s : Nat} {nu : Nat → Nat} {fi : Nat → Int} {kN : Nat → Nat} {l : List Int} (hl : l.length = z) (hk : ∀ i, kN i ≤ z) : ∀ i, (WH z s nu fi kN l i).length = z
  | 0 => hl
  | i + 1 => by
    unfold WH
    split
    · exact over_len (wrB_len _ _) (WH_len hl hk i) _ (hk i)
    · exact WH_len hl hk i

theorem wrB_get (fill : Int) (z q : Nat) (h : q < z) : (bs (wrB fill z)).toArray[q]? = some (.int .u8 (byteW fill q)) := by simp [bs, wrB, h]
theorem over_put (fill : Int) {z q : Nat} {m : List Int} (hm : m.length = z) (hq : q < z) : ((bs (over (wrB fill z) m q)).toArray).setIfInBounds q (.int .u8 (byteW fill q)) = (bs (over (wrB fill z) m (q + 1))).toArray := by
  have e1 : m.drop q = m[q]'(by omega) :: m.drop (q + 1) := List.drop_eq_getElem_cons (by omega)
  have hl : ((wrB fill z).take q).length = q := by rw [List.length_take, wrB_len]; omega
  have e2 : (wrB fill z).take (q + 1) = (wrB fill z).take q ++ [byteW fill q] := by
    rw [List.take_add_one]
    congr 1
    simp [wrB, hq]
  unfold over
  rw [e1, e2, List.setIfInBounds_toArray, bs_app, List.set_append_right _ _ (by rw [bs_len, hl]; omega), bs_len, hl, Nat.sub_self, bs_app, bs_app, List.append_assoc]
  rfl

set_option maxRecDepth 100000 in
set_option maxHeartbeats 8000000 in
theorem whence_any {W : World} (s z : Int) {a : Option Addr} {N cap : Nat} {ac : Nat → Ac} (hac : Acs W a N ac) (hN : N * 88 ≤ 140737488351232) (cr : Ac) {kl : List Bool} (hk : KB W cr.ka cr.kn kl) :
    Calls Try.prog 4 #[.int .i64 s, .int .i64 z, .slice a N cap, .agg cr.cells.toArray] W fun e w' => e = .returned (.bool true) ∧ Below W.heap.size W w' := by
  have HA : Hid _ := hac
  have HK : Hid _ := hk
  obtain ⟨w0, hw0⟩ : ∃ w0, w0 = W.alloc (.cells cr.cells.toArray 45) := ⟨_, rfl⟩
  have X0 : Hid (Rw w0 W.heap.size cr.cells.toArray 45) := by rw [hw0]; exact ⟨heap_alloc_new _ _⟩
  have C0 : Hid (Chg (fun _ => False) W w0) := by rw [hw0]; exact (Chg.refl _ _).alloc _
  have HW0 : Hid _ := hw0
  clear hac hk hw0
  go_enter Try.func4, Try.ntmps4
  go_upto_region 1 with fail
  rw [← HW0.out]
  have BA : Hid _ := base_any (w := w0) s z
  go_wp2_with fail
  refine Calls.mono BA.out ?_
  rintro e w9 ⟨⟨S', z', rfl, hS1, hS2, hz⟩, h9⟩
  subst h9
  obtain ⟨S, rfl⟩ : ∃ S : Nat, S' = S := ⟨S'.toNat, by omega⟩
  obtain ⟨Z, rfl⟩ : ∃ Z : Nat, z' = Z := ⟨z'.toNat, by omega⟩
  have hok : okDisk S Z := by
    refine ⟨by unfold fits; omega, by omega, by omega, ?_⟩
    rcases hz with h | h | h <;> rw [h] <;> omega
  have NY : Hid _ := new_yes (w := w0) S Z hok
  clear BA hok
  go_wp2_with fail
  refine Calls.mono NY.out ?_
  rintro e w1 ⟨rfl, dk1, bl1⟩
  have hs0 : W.heap.size < w0.heap.size := X0.out.lt
  obtain ⟨B, hB⟩ : ∃ B, B = w0.heap.size := ⟨_, rfl⟩
  have ap1 : AP w1 B (w0.heap.size + 2) S Z 0 0 (fun _ => []) (fun _ => none) := AP.made dk1 (by omega) (by omega) (by omega) (by omega)
  obtain ⟨p, hp⟩ : ∃ p, p = w0.heap.size + 2 := ⟨_, rfl⟩
  rw [← hp] at ap1 ⊢
  rw [← hB] at bl1 hs0
  have B1 : Hid (Below B w0 w1) := bl1
  have AP1 : Hid _ := ap1
  have hBW : Hid (B ≤ w0.heap.size) := by show B ≤ _; omega
  have hpB : p ≠ B := by omega
  clear NY dk1 ap1 bl1 hp hB HW0
  go_wp2_with fail
  go_loopg [13] (S + 1) (fun gk si wr => ∃ i : Nat, si = .int .i64 i ∧ i ≤ S ∧ S < gk + i ∧ Hid (Below B w0 wr ∧ AP wr B p S Z i i (A1 Z i) (fun _ => none)))
  case atStart => exact ⟨0, rfl, by omega, by omega, B1.out, AP1.out⟩
  case round =>
    obtain ⟨i, rfl, hi, hgk, hid⟩ := hrel
    clear B1 AP1
    obtain ⟨bel, ap⟩ := hid.out
    clear hid
    have hBr : B ≤ wr.heap.size := Nat.le_trans hBW.out bel.size
    by_cases hiS : i = S
    · subst hiS
      have FL0 := ap.flush hBr (by omega) (by omega)
      rw [F1_flush] at FL0
      have FL : Hid _ := FL0
      have BE : Hid _ := bel
      clear bel ap FL0
      go_wp2_with fail
      refine Calls.mono FL.out ?_
      rintro e w4 ⟨rfl, bl4, _, ap4⟩
      have BE4 : Hid (Below B w0 w4) := BE.out.trans bl4
      have AP4 : Hid _ := ap4
      clear bl4 ap4 FL BE
      go_wp2_with fail
      obtain ⟨nu, hnu⟩ : ∃ nu : Nat → Nat, nu = fun j => nuOf i (ac j).nm := ⟨_, rfl⟩
      obtain ⟨fi, hfi⟩ : ∃ fi : Nat → Int, fi = fun j => (ac j).fill := ⟨_, rfl⟩
      obtain ⟨dn, hdn⟩ : ∃ dn : Nat → Ac, dn = fun j => { ac j with less := 0, nm := nuOf i (ac j).nm } := ⟨_, rfl⟩
      have HNU : Hid _ := hnu
      have HFI : Hid _ := hfi
      have HDN : Hid _ := hdn
      clear hnu hfi hdn
      go_loopg [14, 15] (N + 1) (fun gk sd sj wr => ∃ (j : Nat) (dv : Value), dv = sd ∧ sj = .int .i64 j ∧ j ≤ N ∧ N < gk + j ∧ Hid (Below B w0 wr ∧ AP wr B p i Z (i + j) j (AH Z nu fi j) (F1 Z i) ∧ wr.ownsRow 0 45 9 dv j (dcells dn j) ∧ ∀ g, dv.ownBlock = some g → B ≤ g ∧ wr.heap.size > g))
      case atStart => exact ⟨0, _, rfl, rfl, by omega, by omega, BE4.out, AP4.out, World.ownsRow_nil _ 0 45 9, fun g hg => by simp [Value.ownBlock] at hg⟩
      case round =>
        obtain ⟨j, dv, hdv, rfl, hj, hgk2, hid⟩ := hrel
        subst hdv
        clear BE4 AP4
        obtain ⟨bel, ap, hdo, hdb⟩ := hid.out
        clear hid
        have hBr2 : B ≤ wr.heap.size := Nat.le_trans hBW.out bel.size
        by_cases hjN : j = N
        · subst hjN
          have hka : ∀ g o, 0 < cr.kn → cr.ka = some ⟨g, o, none⟩ → g < W.heap.size := fun g o h0 e => by
            obtain ⟨g', o', e', hc⟩ := HK.out.row 0 h0
            rw [e] at e'
            injection e' with e'
            injection e' with e1 _
            rw [e1]
            exact World.block_lt_of_cell? _ _ hc
          have kbr : KB wr cr.ka cr.kn kl := (HK.out.chg C0.out (fun _ _ _ _ h => h)).chg (S := fun g => B ≤ g) ⟨bel.os, bel.tape, bel.output, bel.size, fun k _ hn => bel.block k (by omega)⟩ (fun g o h0 e h => by have := hka g o h0 e; omega)
          have x1 : Rw wr W.heap.size cr.cells.toArray 45 := ⟨(bel.block _ hs0).trans X0.out.eq⟩
          have x5 : wr.cell? ⟨W.heap.size, 5, none⟩ = some (.int .i64 cr.at_) := Rw.cell x1 5
          have x7 : wr.cell? ⟨W.heap.size, 7, none⟩ = some (.slice cr.ka cr.kn cr.kc) := Rw.cell x1 7
          have x8 : wr.cell? ⟨W.heap.size, 8, none⟩ = some (.int .i64 cr.torn) := Rw.cell x1 8
          have CR : Hid _ := ap.crash hBr2 (by omega) (by omega) (by omega) (cN := cr.kc) kbr (fun g o h0 e => by have := hka g o h0 e; omega) cr.torn cr.at_
          obtain ⟨da, dc, hdv⟩ : ∃ da dc, dv = .slice da j dc := by
            rcases hdo.2 with ⟨e, h0⟩ | ⟨g, cap, cur, e, _⟩
            · exact ⟨none, 0, by rw [e, h0]⟩
            · exact ⟨_, cap, e⟩
          subst hdv
          have BE : Hid _ := bel
          have DO : Hid _ := hdo
          have HKA : Hid _ := hka
          clear bel ap hdo hdb kbr x1 hka
          go_wp2_with fail
          refine Calls.mono CR.out ?_
          rintro e w5 ⟨rfl, bl5, ot5, ap5⟩
          obtain ⟨kN, hkN⟩ : ∃ kN, kN = keptN kl cr.torn cr.at_ Z := ⟨_, rfl⟩
          rw [← hkN] at ap5
          have hkz : ∀ k, kN k ≤ Z := fun k => by rw [hkN]; exact keptN_le _ _ _ _ _
          have HKZ : Hid _ := hkz
          have HKN : Hid _ := hkN
          have BE5 : Hid (Below B w0 w5) := BE.out.trans bl5
          have DO5 : Hid _ := row45_oth DO.out ot5
          have AP5 : Hid _ := ap5
          clear CR bl5 ot5 ap5 BE DO x5 x7 x8 hkz hkN
          go_wp2_with fail
          obtain ⟨F5, hF5⟩ : ∃ F5, F5 = fun t => foldA Z kN (AH Z nu fi j t) (F1 Z i t) := ⟨_, rfl⟩
          rw [← hF5] at AP5
          have HF5 : Hid _ := hF5
          clear hF5
          go_loopg [17] (i + 1) (fun gk st wr => ∃ t : Nat, st = .int .i64 t ∧ t ≤ i ∧ i < gk + t ∧ Hid (Below B w0 wr ∧ AP wr B p i Z (i + j) 0 (fun _ => []) F5 ∧ wr.ownsRow 0 45 9 (.slice da j dc) j (dcells dn j)))
          case atStart => exact ⟨0, rfl, by omega, by omega, BE5.out, AP5.out, DO5.out⟩
          case round =>
            obtain ⟨t, rfl, ht, hgk3, hid⟩ := hrel
            clear BE5 AP5 DO5
            obtain ⟨bel, ap, hdo⟩ := hid.out
            clear hid
            have hBr3 : B ≤ wr.heap.size := Nat.le_trans hBW.out bel.size
            by_cases hti : t = i
            · subst hti
              have PE : Hid _ := ap.pending hBr3
              have BE : Hid _ := bel
              clear ap hdo bel
              go_wp2_with fail
              refine Calls.mono PE.out ?_
              rintro e w7 ⟨pa, rfl, bl7, _, _⟩
              have bw7 : Below W.heap.size W w7 := (C0.out.below (Nat.le_refl _) (fun _ h => h.elim)).trans ((BE.out.trans bl7).mono (by omega))
              have BW7 : Hid _ := bw7
              clear PE bl7 bw7
              go_wp2_with fail
              go_ret
              exact ⟨rfl, BW7.out⟩
            · have htl : (t : Int) < (i : Int) := by omega
              have RD0 := ap.read hBr3 t (by omega) (by omega) (by omega) (by omega)
              have hl9 : (lastA ([] : List (Nat × List Int)) (F5 t)).getD (zs Z) = WH Z t nu fi kN (wrB (f8 t) Z) j := by
                rw [lastA_nil, HF5.out]
                simp only
                have e1 : F1 Z i t = some (wrB (f8 t) Z) := by unfold F1; rw [if_pos (by omega)]
                rw [e1, AH_WH]
                rfl
              rw [hl9] at RD0
              have RD : Hid _ := RD0
              have BE : Hid _ := bel
              have DO : Hid _ := hdo
              clear ap RD0 hl9 bel hdo
              go_wp2_with fail
              refine Calls.mono RD.out ?_
              rintro e w6 ⟨g, rfl, rg6, hg6, bl6, ot6, ap6⟩
              have hfl : IntKind.u8.wrap (200 + (t : Int)) = f8 t := by simp [IntKind.wrap, IntKind.bits, IntKind.signed, f8]
              have WR : Hid _ := written_fit (w := w6) (Z : Int) 0 0 0 (f8 t) 0 0 0 (.slice none 0 0) 0 Z (by omega) (by omega) (by omega) (by omega) (by unfold f8; omega)
              have bw6 : Below B w0 w6 := BE.out.trans bl6
              have RG6 : Hid _ := rg6
              have BE6 : Hid _ := bw6
              have AP6 : Hid _ := ap6
              have DO6 : Hid _ := row45_oth DO.out ot6
              have hBr6 : B ≤ w6.heap.size := Nat.le_trans hBW.out bw6.size
              have hg6' := rg6.lt
              clear RD rg6 bl6 ot6 ap6 bw6 BE DO hg6
              go_wp2_with fail
              refine Calls.mono WR.out ?_
              rintro e w7 ⟨gw, rfl, rw7, hgw, bel7⟩
              have RW7 : Hid _ := rw7
              have C7 : Hid _ := Chg.of_below bel7 (fun _ => False)
              clear WR rw7 bel7 hfl
              go_wp2_with fail
              go_loopg [21] (j + 1) (fun gk sk wr => ∃ k : Nat, sk = .int .i64 k ∧ k ≤ j ∧ j < gk + k ∧ Hid (Chg (fun _ => False) w6 wr ∧ Rw wr gw (bs (WH Z t nu fi kN (wrB (f8 t) Z) k)).toArray 5))
              case atStart => exact ⟨0, rfl, by omega, by omega, C7.out, RW7.out⟩
              case round =>
                obtain ⟨k, rfl, hk, hgk4, hid⟩ := hrel
                clear C7 RW7
                obtain ⟨c8, r8⟩ := hid.out
                clear hid
                by_cases hkj : k = j
                · subst hkj
                  have l9 := WH_len (s := t) (nu := nu) (fi := fi) (wrB_len (f8 t) Z) HKZ.out k
                  have SM : Hid _ := same_src (src_row ⟨c8.heap_some RG6.out.eq (fun h => h)⟩ l9) (src_row r8 l9) (by omega)
                  have C8 : Hid _ := c8
                  clear r8 c8 l9
                  go_wp2_with fail
                  refine Calls.mono SM.out ?_
                  rintro e w9 ⟨rfl, m9, h9⟩
                  have K9 : Hid (Below B w0 w9 ∧ AP w9 B p i Z (i + k) 0 (fun _ => []) F5 ∧ w9.ownsRow 0 45 9 (.slice da k dc) k (dcells dn k)) := by
                    have c9 : Chg (fun _ => False) w6 w9 := by rw [h9]; exact ⟨C8.out.os, C8.out.tape, C8.out.output, C8.out.size, C8.out.block⟩
                    exact ⟨BE6.out.trans (c9.below hBr6 (fun _ h => h.elim)), AP6.out.more c9, row45_oth DO6.out (Oth.more c9)⟩
                  clear SM h9 C8
                  go_wp2_with fail
                  go_roundg (i - t)
                  case measure => omega
                  case rel => exact ⟨t + 1, by go_num, by omega, by omega, K9.out⟩
                · have hkl : (k : Int) < (j : Int) := by omega
                  obtain ⟨gd, rfl⟩ : ∃ gd, da = some ⟨gd, 0, none⟩ := by
                    rcases DO6.out.2 with ⟨e, h0⟩ | ⟨g, cap, cur, e, _⟩
                    · omega
                    · injection e with e
                      exact ⟨g, e⟩
                  have dl := World.ownsRow.cells DO6.out (g := gd) rfl
                  have cd : ∀ q v, (dn k).cells[q]? = some v → wr.cell? ⟨gd, k * 9 + q, none⟩ = some v := fun q v hv => by
                    have h1 := dl (k * 9 + q) v (dcells_get dn j k q v (by omega) hv)
                    rw [addr_add, Nat.zero_add] at h1
                    exact c8.cell_some h1 (fun h => h)
                  have hdnk : (dn k).cells = actC (ac k).on (ac k).kd (nu k) (fi k) 0 (ac k).at_ (ac k).mask (.slice (ac k).ka (ac k).kn (ac k).kc) (ac k).torn := by rw [HDN.out, HNU.out, HFI.out]; rfl
                  rw [hdnk] at cd
                  have hflk : 0 ≤ fi k ∧ fi k ≤ 255 := by rw [HFI.out]; exact HA.out.fl k (by omega)
                  obtain ⟨on, hon⟩ : ∃ on, on = (ac k).on := ⟨_, rfl⟩
                  obtain ⟨kd, hkd⟩ : ∃ kd, kd = (ac k).kd := ⟨_, rfl⟩
                  obtain ⟨at2, hat⟩ : ∃ at2, at2 = (ac k).at_ := ⟨_, rfl⟩
                  obtain ⟨mask, hmask⟩ : ∃ mask, mask = (ac k).mask := ⟨_, rfl⟩
                  obtain ⟨ka, hka⟩ : ∃ ka, ka = (ac k).ka := ⟨_, rfl⟩
                  obtain ⟨kn, hkn⟩ : ∃ kn, kn = (ac k).kn := ⟨_, rfl⟩
                  obtain ⟨kc, hkc⟩ : ∃ kc, kc = (ac k).kc := ⟨_, rfl⟩
                  obtain ⟨torn, htorn⟩ : ∃ torn, torn = (ac k).torn := ⟨_, rfl⟩
                  rw [← hon, ← hkd, ← hat, ← hmask, ← hka, ← hkn, ← hkc, ← htorn] at cd
                  have d0 : wr.cell? ⟨gd, k * 9, none⟩ = some (.int .i64 on) := cd 0 _ rfl
                  have d1 : wr.cell? ⟨gd, k * 9 + 1, none⟩ = some (.int .i64 kd) := cd 1 _ rfl
                  have d2 : wr.cell? ⟨gd, k * 9 + 2, none⟩ = some (.int .i64 (nu k)) := cd 2 _ rfl
                  have d3 : wr.cell? ⟨gd, k * 9 + 3, none⟩ = some (.int .u8 (fi k)) := cd 3 _ rfl
                  have d4 : wr.cell? ⟨gd, k * 9 + 4, none⟩ = some (.int .i64 0) := cd 4 _ rfl
                  have d5 : wr.cell? ⟨gd, k * 9 + 5, none⟩ = some (.int .i64 at2) := cd 5 _ rfl
                  have d6 : wr.cell? ⟨gd, k * 9 + 6, none⟩ = some (.int .u8 mask) := cd 6 _ rfl
                  have d7 : wr.cell? ⟨gd, k * 9 + 7, none⟩ = some (.slice ka kn kc) := cd 7 _ rfl
                  have d8 : wr.cell? ⟨gd, k * 9 + 8, none⟩ = some (.int .i64 torn) := cd 8 _ rfl
                  clear cd dl hdnk hon hkd hat hmask hka hkn hkc htorn
                  have R8 : Hid _ := r8
                  have C8 : Hid _ := c8
                  clear r8 c8
                  by_cases hnt : nu k = t
                  · have x1 : Rw wr W.heap.size cr.cells.toArray 45 := ⟨C8.out.heap_some ((BE6.out.block _ hs0).trans X0.out.eq) (fun h => h)⟩
                    have x5 : wr.cell? ⟨W.heap.size, 5, none⟩ = some (.int .i64 cr.at_) := Rw.cell x1 5
                    have x7 : wr.cell? ⟨W.heap.size, 7, none⟩ = some (.slice cr.ka cr.kn cr.kc) := Rw.cell x1 7
                    have x8 : wr.cell? ⟨W.heap.size, 8, none⟩ = some (.int .i64 cr.torn) := Rw.cell x1 8
                    have hn1 : ((nu k : Int) != (t : Int)) = false := by simp; omega
                    have WF : Hid _ := fun wq => written_fit (w := wq) (Z : Int) on kd (nu k) (fi k) 0 at2 mask (.slice ka kn kc) torn Z (by omega) (by omega) (by omega) (by omega) hflk
                    have W9 : Hid (WH Z t nu fi kN (wrB (f8 t) Z) (k + 1) = over (wrB (fi k) Z) (WH Z t nu fi kN (wrB (f8 t) Z) k) (kN k)) := by
                      show (if nu k = t then _ else _) = _
                      rw [if_pos hnt]
                    have L9 : Hid _ := WH_len (s := t) (nu := nu) (fi := fi) (wrB_len (f8 t) Z) HKZ.out k
                    obtain ⟨lk, hlk⟩ : ∃ lk, lk = WH Z t nu fi kN (wrB (f8 t) Z) k := ⟨_, rfl⟩
                    rw [← hlk] at R8 W9 L9
                    have hgwr : gw < wr.heap.size := R8.out.lt
                    have hkv : kN k = keptN kl cr.torn cr.at_ Z k := by rw [HKN.out]
                    have hkz := HKZ.out k
                    clear x1 hlk
                    by_cases htk : (k : Int) = cr.torn
                    · have ht1 : ((k : Int) == cr.torn) = true := by simp [htk]
                      have hu : (kN k : Int) = min (max cr.at_ 0) (Z : Int) := by rw [hkv]; unfold keptN; rw [if_pos htk]; omega
                      clear htk hkv hnt 
                      go_wp2_with fail
                      refine Calls.mono (WF.out _) ?_
                      rintro e w9 ⟨gb, rfl, rb9, hgb, bel9⟩
                      have c9 : Chg (fun _ => False) w6 w9 := C8.out.trans (Chg.of_below bel9 (fun _ => False)) (fun _ h => h.elim)
                      have r9 : Rw w9 gw (bs lk).toArray 5 := Rw.keep R8.out bel9
                      have hne : gb ≠ gw := by omega
                      have RB9 : Hid _ := rb9
                      have R9 : Hid _ := r9
                      have C9 : Hid _ := c9
                      clear WF R8 C8 rb9 r9 c9 bel9 d0 d1 d2 d3 d4 d5 d6 d7 d8 x5 x7 x8 hgb hn1 ht1
                      go_wp2_with fail
                      go_loopg [24] (Z + 1) (fun gk sq wr => ∃ q : Nat, sq = .int .i64 q ∧ q ≤ kN k ∧ Z < gk + q ∧ Hid (Chg (fun _ => False) w6 wr ∧ Rw wr gw (bs (over (wrB (fi k) Z) lk q)).toArray 5 ∧ Rw wr gb (bs (wrB (fi k) Z)).toArray 5))
                      case atStart => exact ⟨0, rfl, by omega, by omega, C9.out, by rw [over_zero]; exact R9.out, RB9.out⟩
                      case round =>
                        obtain ⟨q, rfl, hq, hgk5, hid⟩ := hrel
                        clear C9 R9 RB9
                        obtain ⟨c10, r10, rb10⟩ := hid.out
                        clear hid
                        by_cases hqk : q = kN k
                        · have R10 : Hid (Rw wr gw (bs (over (wrB (fi k) Z) lk (kN k))).toArray 5) := by rw [← hqk]; exact r10
                          have C10 : Hid _ := c10
                          clear c10 r10 rb10
                          by_cases hqz : (q : Int) < (Z : Int)
                          · have hqu : ¬ (q : Int) < cr.at_ := by omega
                            clear hqk hu
                            go_wp2_with fail
                            go_roundg (j - k)
                            case measure => omega
                            case rel => exact ⟨k + 1, by go_num, by omega, by omega, C10.out, by rw [W9.out]; exact R10.out⟩
                          · have hqd : decide ((q : Int) < (Z : Int)) = false := by simp; omega
                            clear hqk hu
                            go_wp2_with fail
                            go_roundg (j - k)
                            case measure => omega
                            case rel => exact ⟨k + 1, by go_num, by omega, by omega, C10.out, by rw [W9.out]; exact R10.out⟩
                        · have hqz : (q : Int) < (Z : Int) := by omega
                          have hqu : (q : Int) < cr.at_ := by omega
                          have hq1 : q + 1 ≤ kN k := by omega
                          have db : wr.cell? ⟨gb, q, none⟩ = some (.int .u8 (byteW (fi k) q)) := (Rw.cell rb10 q).trans (wrB_get _ _ _ (by omega))
                          obtain ⟨ov, hov⟩ : ∃ ov, wr.cell? ⟨gw, q, none⟩ = some ov := by
                            rw [Rw.cell r10 q, List.getElem?_toArray]
                            exact ⟨_, List.getElem?_eq_getElem (by rw [bs_len, over_len (wrB_len _ _) L9.out q (by omega)]; omega)⟩
                          have fw := Rw.fr r10 q
                          have r11 := Rw.set r10 q (.int .u8 (byteW (fi k) q))
                          rw [over_put _ L9.out (by omega)] at r11
                          have c11 : Chg (fun i => i = gw) wr (wr.setCell ⟨gw, q, none⟩ (.int .u8 (byteW (fi k) q))) := (Chg.refl (fun i => i = gw) wr).setCell (.inl rfl) _
                          have K11 : Hid (Chg (fun _ => False) w6 (wr.setCell ⟨gw, q, none⟩ (.int .u8 (byteW (fi k) q))) ∧ Rw (wr.setCell ⟨gw, q, none⟩ (.int .u8 (byteW (fi k) q))) gw (bs (over (wrB (fi k) Z) lk (q + 1))).toArray 5 ∧ Rw (wr.setCell ⟨gw, q, none⟩ (.int .u8 (byteW (fi k) q))) gb (bs (wrB (fi k) Z)).toArray 5) := ⟨c10.trans c11 (fun i e => .inr (by omega)), r11, Rw.chg1 rb10 c11 hne⟩
                          obtain ⟨bq, hbq⟩ : ∃ bq, bq = byteW (fi k) q := ⟨_, rfl⟩
                          rw [← hbq] at K11 db
                          clear c10 r10 rb10 r11 c11 hbq hqk hu
                          go_wp2_with fail
                          go_roundg (Z - q)
                          case measure => omega
                          case rel => exact ⟨q + 1, by go_num, hq1, by omega, K11.out⟩
                    · have ht1 : ((k : Int) == cr.torn) = false := by simp [htk]
                      by_cases hkn2 : k < cr.kn
                      · have hkn3 : (k : Int) < (cr.kn : Int) := by omega
                        obtain ⟨gk2, ok2, hke, hkc2⟩ := HK.out.row k hkn2
                        have hgkW := HKA.out gk2 ok2 (by omega) hke
                        have dk : wr.cell? ⟨gk2, ok2 + k, none⟩ = some (.bool (kl.getD k false)) := C8.out.cell_some ((World.cell?_of_block (a := ⟨gk2, ok2 + k, none⟩) (BE6.out.block gk2 (by omega))).trans (C0.out.cell_some (a := ⟨gk2, ok2 + k, none⟩) hkc2 (fun h => h))) (fun h => h)
                        rw [hke] at x7
                        obtain ⟨bt, hbt⟩ : ∃ bt, kl.getD k false = bt := ⟨_, rfl⟩
                        rw [hbt] at dk
                        have hsm := HK.out.small
                        clear hkc2 hke
                        cases bt with
                        | true =>
                          have hu : (kN k : Int) = min (max (Z : Int) 0) (Z : Int) := by rw [hkv]; unfold keptN; rw [if_neg htk, if_pos hbt]; omega
                          clear htk hkv hnt hbt
                          go_wp2_with fail
                          refine Calls.mono (WF.out _) ?_
                          rintro e w9 ⟨gb, rfl, rb9, hgb, bel9⟩
                          have c9 : Chg (fun _ => False) w6 w9 := C8.out.trans (Chg.of_below bel9 (fun _ => False)) (fun _ h => h.elim)
                          have r9 : Rw w9 gw (bs lk).toArray 5 := Rw.keep R8.out bel9
                          have hne : gb ≠ gw := by omega
                          have RB9 : Hid _ := rb9
                          have R9 : Hid _ := r9
                          have C9 : Hid _ := c9
                          clear WF R8 C8 rb9 r9 c9 bel9 d0 d1 d2 d3 d4 d5 d6 d7 d8 x5 x7 x8 hgb hn1 ht1 dk hkn3
                          go_wp2_with fail
                          go_loopg [24] (Z + 1) (fun gk sq wr => ∃ q : Nat, sq = .int .i64 q ∧ q ≤ kN k ∧ Z < gk + q ∧ Hid (Chg (fun _ => False) w6 wr ∧ Rw wr gw (bs (over (wrB (fi k) Z) lk q)).toArray 5 ∧ Rw wr gb (bs (wrB (fi k) Z)).toArray 5))
                          case atStart => exact ⟨0, rfl, by omega, by omega, C9.out, by rw [over_zero]; exact R9.out, RB9.out⟩
                          case round =>
                            obtain ⟨q, rfl, hq, hgk5, hid⟩ := hrel
                            clear C9 R9 RB9
                            obtain ⟨c10, r10, rb10⟩ := hid.out
                            clear hid
                            by_cases hqk : q = kN k
                            · have R10 : Hid (Rw wr gw (bs (over (wrB (fi k) Z) lk (kN k))).toArray 5) := by rw [← hqk]; exact r10
                              have C10 : Hid _ := c10
                              clear c10 r10 rb10
                              by_cases hqz : (q : Int) < (Z : Int)
                              · exfalso; omega
                              · have hqd : decide ((q : Int) < (Z : Int)) = false := by simp; omega
                                clear hqk hu
                                go_wp2_with fail
                                go_roundg (j - k)
                                case measure => omega
                                case rel => exact ⟨k + 1, by go_num, by omega, by omega, C10.out, by rw [W9.out]; exact R10.out⟩
                            · have hqz : (q : Int) < (Z : Int) := by omega
                              have hqu : (q : Int) < (Z : Int) := by omega
                              have hq1 : q + 1 ≤ kN k := by omega
                              have db : wr.cell? ⟨gb, q, none⟩ = some (.int .u8 (byteW (fi k) q)) := (Rw.cell rb10 q).trans (wrB_get _ _ _ (by omega))
                              obtain ⟨ov, hov⟩ : ∃ ov, wr.cell? ⟨gw, q, none⟩ = some ov := by
                                rw [Rw.cell r10 q, List.getElem?_toArray]
                                exact ⟨_, List.getElem?_eq_getElem (by rw [bs_len, over_len (wrB_len _ _) L9.out q (by omega)]; omega)⟩
                              have fw := Rw.fr r10 q
                              have r11 := Rw.set r10 q (.int .u8 (byteW (fi k) q))
                              rw [over_put _ L9.out (by omega)] at r11
                              have c11 : Chg (fun i => i = gw) wr (wr.setCell ⟨gw, q, none⟩ (.int .u8 (byteW (fi k) q))) := (Chg.refl (fun i => i = gw) wr).setCell (.inl rfl) _
                              have K11 : Hid (Chg (fun _ => False) w6 (wr.setCell ⟨gw, q, none⟩ (.int .u8 (byteW (fi k) q))) ∧ Rw (wr.setCell ⟨gw, q, none⟩ (.int .u8 (byteW (fi k) q))) gw (bs (over (wrB (fi k) Z) lk (q + 1))).toArray 5 ∧ Rw (wr.setCell ⟨gw, q, none⟩ (.int .u8 (byteW (fi k) q))) gb (bs (wrB (fi k) Z)).toArray 5) := ⟨c10.trans c11 (fun i e => .inr (by omega)), r11, Rw.chg1 rb10 c11 hne⟩
                              obtain ⟨bq, hbq⟩ : ∃ bq, bq = byteW (fi k) q := ⟨_, rfl⟩
                              rw [← hbq] at K11 db
                              clear c10 r10 rb10 r11 c11 hbq hqk hu
                              go_wp2_with fail
                              go_roundg (Z - q)
                              case measure => omega
                              case rel => exact ⟨q + 1, by go_num, hq1, by omega, K11.out⟩
                        | false =>
                          have hu : (kN k : Int) = min (max (0 : Int) 0) (Z : Int) := by rw [hkv]; unfold keptN; rw [if_neg htk, if_neg (by rw [hbt]; decide)]; omega
                          clear htk hkv hnt hbt
                          go_wp2_with fail
                          refine Calls.mono (WF.out _) ?_
                          rintro e w9 ⟨gb, rfl, rb9, hgb, bel9⟩
                          have c9 : Chg (fun _ => False) w6 w9 := C8.out.trans (Chg.of_below bel9 (fun _ => False)) (fun _ h => h.elim)
                          have r9 : Rw w9 gw (bs lk).toArray 5 := Rw.keep R8.out bel9
                          have hne : gb ≠ gw := by omega
                          have RB9 : Hid _ := rb9
                          have R9 : Hid _ := r9
                          have C9 : Hid _ := c9
                          clear WF R8 C8 rb9 r9 c9 bel9 d0 d1 d2 d3 d4 d5 d6 d7 d8 x5 x7 x8 hgb hn1 ht1 dk hkn3
                          go_wp2_with fail
                          go_loopg [24] (Z + 1) (fun gk sq wr => ∃ q : Nat, sq = .int .i64 q ∧ q ≤ kN k ∧ Z < gk + q ∧ Hid (Chg (fun _ => False) w6 wr ∧ Rw wr gw (bs (over (wrB (fi k) Z) lk q)).toArray 5 ∧ Rw wr gb (bs (wrB (fi k) Z)).toArray 5))
                          case atStart => exact ⟨0, rfl, by omega, by omega, C9.out, by rw [over_zero]; exact R9.out, RB9.out⟩
                          case round =>
                            obtain ⟨q, rfl, hq, hgk5, hid⟩ := hrel
                            clear C9 R9 RB9
                            obtain ⟨c10, r10, rb10⟩ := hid.out
                            clear hid
                            by_cases hqk : q = kN k
                            · have R10 : Hid (Rw wr gw (bs (over (wrB (fi k) Z) lk (kN k))).toArray 5) := by rw [← hqk]; exact r10
                              have C10 : Hid _ := c10
                              clear c10 r10 rb10
                              by_cases hqz : (q : Int) < (Z : Int)
                              · have hqu : ¬ (q : Int) < (0 : Int) := by omega
                                clear hqk hu
                                go_wp2_with fail
                                go_roundg (j - k)
                                case measure => omega
                                case rel => exact ⟨k + 1, by go_num, by omega, by omega, C10.out, by rw [W9.out]; exact R10.out⟩
                              · have hqd : decide ((q : Int) < (Z : Int)) = false := by simp; omega
                                clear hqk hu
                                go_wp2_with fail
                                go_roundg (j - k)
                                case measure => omega
                                case rel => exact ⟨k + 1, by go_num, by omega, by omega, C10.out, by rw [W9.out]; exact R10.out⟩
                            · exfalso; omega
                      · have hkn3 : ¬ (k : Int) < (cr.kn : Int) := by omega
                        have hknd : decide ((k : Int) < (cr.kn : Int)) = false := by simp; omega
                        have hsm := HK.out.small
                        have hu : (kN k : Int) = min (max (0 : Int) 0) (Z : Int) := by
                          rw [hkv]
                          unfold keptN
                          rw [if_neg htk, List.getD_eq_getElem?_getD, List.getElem?_eq_none (by have := HK.out.len; omega), if_neg (by simp)]
                          omega
                        clear htk hkv hnt 
                        go_wp2_with fail
                        refine Calls.mono (WF.out _) ?_
                        rintro e w9 ⟨gb, rfl, rb9, hgb, bel9⟩
                        have c9 : Chg (fun _ => False) w6 w9 := C8.out.trans (Chg.of_below bel9 (fun _ => False)) (fun _ h => h.elim)
                        have r9 : Rw w9 gw (bs lk).toArray 5 := Rw.keep R8.out bel9
                        have hne : gb ≠ gw := by omega
                        have RB9 : Hid _ := rb9
                        have R9 : Hid _ := r9
                        have C9 : Hid _ := c9
                        clear WF R8 C8 rb9 r9 c9 bel9 d0 d1 d2 d3 d4 d5 d6 d7 d8 x5 x7 x8 hgb hn1 ht1 hkn3 hknd
                        go_wp2_with fail
                        go_loopg [24] (Z + 1) (fun gk sq wr => ∃ q : Nat, sq = .int .i64 q ∧ q ≤ kN k ∧ Z < gk + q ∧ Hid (Chg (fun _ => False) w6 wr ∧ Rw wr gw (bs (over (wrB (fi k) Z) lk q)).toArray 5 ∧ Rw wr gb (bs (wrB (fi k) Z)).toArray 5))
                        case atStart => exact ⟨0, rfl, by omega, by omega, C9.out, by rw [over_zero]; exact R9.out, RB9.out⟩
                        case round =>
                          obtain ⟨q, rfl, hq, hgk5, hid⟩ := hrel
                          clear C9 R9 RB9
                          obtain ⟨c10, r10, rb10⟩ := hid.out
                          clear hid
                          by_cases hqk : q = kN k
                          · have R10 : Hid (Rw wr gw (bs (over (wrB (fi k) Z) lk (kN k))).toArray 5) := by rw [← hqk]; exact r10
                            have C10 : Hid _ := c10
                            clear c10 r10 rb10
                            by_cases hqz : (q : Int) < (Z : Int)
                            · have hqu : ¬ (q : Int) < (0 : Int) := by omega
                              clear hqk hu
                              go_wp2_with fail
                              go_roundg (j - k)
                              case measure => omega
                              case rel => exact ⟨k + 1, by go_num, by omega, by omega, C10.out, by rw [W9.out]; exact R10.out⟩
                            · have hqd : decide ((q : Int) < (Z : Int)) = false := by simp; omega
                              clear hqk hu
                              go_wp2_with fail
                              go_roundg (j - k)
                              case measure => omega
                              case rel => exact ⟨k + 1, by go_num, by omega, by omega, C10.out, by rw [W9.out]; exact R10.out⟩
                          · exfalso; omega
                  · have hn1 : ((nu k : Int) != (t : Int)) = true := by simp; omega
                    have W9 : Hid (WH Z t nu fi kN (wrB (f8 t) Z) (k + 1) = WH Z t nu fi kN (wrB (f8 t) Z) k) := by
                      show (if nu k = t then _ else _) = _
                      rw [if_neg hnt]
                    clear d0 d1 d3 d4 d5 d6 d7 d8
                    go_wp2_with fail
                    go_roundg (j - k)
                    case measure => omega
                    case rel => exact ⟨k + 1, by go_num, by omega, by omega, C8.out, by rw [W9.out]; exact R8.out⟩
        · have hjl : (j : Int) < (N : Int) := by omega
          obtain ⟨ga, oa, rfl, hcells⟩ := HA.out.row j (by omega)
          obtain ⟨T, hT⟩ : ∃ T, ac j = T := ⟨_, rfl⟩
          have hnm := HA.out.nm j (by omega)
          have hfl := HA.out.fl j (by omega)
          rw [hT] at hcells hnm hfl
          obtain ⟨on, kd, nm, fill, less, at_, mask, ka, kn, kc, torn⟩ := T
          simp only at hnm hfl
          have hgaW : ga < W.heap.size := World.block_lt_of_cell? _ _ (hcells 0 _ rfl)
          have cw : ∀ q v, (Ac.cells ⟨on, kd, nm, fill, less, at_, mask, ka, kn, kc, torn⟩)[q]? = some v → wr.cell? ⟨ga, oa + j * 9 + q, none⟩ = some v := fun q v hv => (World.cell?_of_block (a := ⟨ga, oa + j * 9 + q, none⟩) (bel.block ga (by omega))).trans (C0.out.cell_some (a := ⟨ga, oa + j * 9 + q, none⟩) (hcells q v hv) (fun h => h))
          have d0 : wr.cell? ⟨ga, oa + j * 9, none⟩ = some (.int .i64 on) := cw 0 _ rfl
          have d1 : wr.cell? ⟨ga, oa + j * 9 + 1, none⟩ = some (.int .i64 kd) := cw 1 _ rfl
          have d2 : wr.cell? ⟨ga, oa + j * 9 + 2, none⟩ = some (.int .i64 nm) := cw 2 _ rfl
          have d3 : wr.cell? ⟨ga, oa + j * 9 + 3, none⟩ = some (.int .u8 fill) := cw 3 _ rfl
          have d4 : wr.cell? ⟨ga, oa + j * 9 + 4, none⟩ = some (.int .i64 less) := cw 4 _ rfl
          have d5 : wr.cell? ⟨ga, oa + j * 9 + 5, none⟩ = some (.int .i64 at_) := cw 5 _ rfl
          have d6 : wr.cell? ⟨ga, oa + j * 9 + 6, none⟩ = some (.int .u8 mask) := cw 6 _ rfl
          have d7 : wr.cell? ⟨ga, oa + j * 9 + 7, none⟩ = some (.slice ka kn kc) := cw 7 _ rfl
          have d8 : wr.cell? ⟨ga, oa + j * 9 + 8, none⟩ = some (.int .i64 torn) := cw 8 _ rfl
          have BE : Hid _ := bel
          have APh : Hid _ := ap
          have DO : Hid _ := hdo
          have DB : Hid _ := hdb
          clear bel ap hdo hdb hcells cw
          obtain ⟨nv, hnv⟩ : ∃ nv : Nat, nv = nuOf i nm := ⟨_, rfl⟩
          have hnvl : nv < i := by rw [hnv]; exact nu_lt (by omega) nm
          have hS0 : ((i : Int) == 0) = false := by simp; omega
          obtain ⟨r, hr⟩ : ∃ r, nm.tmod (i : Int) = r := ⟨_, rfl⟩
          have hcs := nu_cases (S := i) (by omega) nm
          rw [hr, ← hnv] at hcs
          have HNV : Hid (nv = nuOf i nm) := hnv
          have HT : Hid (ac j = _) := hT
          clear hnv hT
          rcases hcs with ⟨hr1, hr2⟩ | ⟨hr1, hr2⟩
          · go_upto_region 21 with fail
            try rw [hr2]
            obtain ⟨W1, hW1⟩ : ∃ W1, W1 = wr.alloc (.cells #[.int .i64 on, .int .i64 kd, .int .i64 nv, .int .u8 fill, .int .i64 0, .int .i64 at_, .int .u8 mask, .slice ka kn kc, .int .i64 torn] 45) := ⟨_, rfl⟩
            rw [← hW1]
            obtain ⟨Q, hQ⟩ : ∃ Q, Q = wr.heap.size := ⟨_, rfl⟩
            rw [← hQ]
            have hcd : (dn j).cells = Ac.cells ⟨on, kd, nv, fill, 0, at_, mask, ka, kn, kc, torn⟩ := by rw [HDN.out]; simp only; rw [HT.out, HNV.out]
            have q1 : Rw W1 Q (Ac.cells ⟨on, kd, nv, fill, 0, at_, mask, ka, kn, kc, torn⟩).toArray 45 := by rw [hW1, hQ]; exact ⟨heap_alloc_new _ _⟩
            have c1 : Chg (fun _ => False) wr W1 := by rw [hW1]; exact (Chg.refl _ _).alloc _
            have Q1 : Hid _ := q1
            have C1 : Hid _ := c1
            have HCD : Hid _ := hcd
            have WR : Hid _ := fun wq => written_fit (w := wq) (Z : Int) on kd nv fill 0 at_ mask (.slice ka kn kc) torn Z (by omega) (by omega) (by omega) (by omega) hfl
            have WX : Hid (∀ w3 gw, Rw w3 gw (bs (wrB fill Z)).toArray 5 → W1.drew.heap.size ≤ gw → Below W1.drew.heap.size W1.drew w3 → Calls Try.prog 19 #[.pointer (some ⟨p, 0, none⟩), .int .i64 nv, .slice (some ⟨gw, 0, none⟩) Z Z] w3 fun e w' => e = .returned (.int .i64 0) ∧ Below B w0 w' ∧ Oth wr w' ∧ Rw w' Q (Ac.cells ⟨on, kd, nv, fill, 0, at_, mask, ka, kn, kc, torn⟩).toArray 45 ∧ wr.heap.size ≤ w'.heap.size ∧ AP w' B p i Z (i + (j + 1)) (j + 1) (AH Z nu fi (j + 1)) (F1 Z i)) := fun w3 gw r3 hg3 b3 => by
              have hc3 : Chg (fun _ => False) wr w3 := (C1.out.drew).trans (Chg.of_below b3 (fun _ => False)) (fun _ h => h.elim)
              have hq3 : Rw w3 Q (Ac.cells ⟨on, kd, nv, fill, 0, at_, mask, ka, kn, kc, torn⟩).toArray 45 := ⟨(Chg.of_below b3 (fun _ => False)).heap_some Q1.out.eq (fun h => h)⟩
              have h := (APh.out.more hc3).write (Nat.le_trans hBr2 hc3.size) (l := wrB fill Z) (ab := some ⟨gw, 0, none⟩) (cb := Z) (src_row r3 (wrB_len _ _)) (wrB_len _ _) (by omega) (by omega) nv hnvl (by omega) (by omega) (by simp [Value.ownBlock]; have := APh.out.lt; have h9 : W1.drew.heap.size = W1.heap.size := rfl; have := C1.out.size; omega)
              refine h.mono (fun e w' ⟨h1, h2, h3, h4⟩ => ⟨h1, (BE.out.trans (hc3.below hBr2 (fun _ h => h.elim))).trans h2, (Oth.more hc3).trans h3, h3 _ _ 45 (by decide) (by decide) (by decide) hq3, Nat.le_trans hc3.size h2.size, ?_⟩)
              have e9 : AH Z nu fi (j + 1) = updT (AH Z nu fi j) nv (AH Z nu fi j nv ++ [(j, wrB fill Z)]) := by
                show updT _ (nu j) (_ ++ [(j, wrB (fi j) Z)]) = _
                rw [HNU.out, HFI.out]
                simp only
                rw [HT.out, ← HNV.out]
              rw [e9]
              exact h4
            clear hcd q1 c1 hW1 hQ hr1 hr2 hnm
            refine wp_region_held_drew (S := fun w' => Rw w' Q (Ac.cells ⟨on, kd, nv, fill, 0, at_, mask, ka, kn, kc, torn⟩).toArray 45) (by kernel_rfl) ⟨Q1.out.eq⟩ (fun hH => ?_)
            refine wpAnyH_take (i := 0) (v := .pointer (some ⟨p, 0, none⟩)) rfl (by kernel_rfl) (by kernel_rfl) (by kernel_rfl) (fun _ _ _ h => h) (Or.inl ⟨by rfl, fun _ _ => by go_simp⟩) hH ?_
            refine wpAnyH_take (i := 1) (v := .pointer (some ⟨Q, 2, none⟩)) rfl (by kernel_rfl) (by kernel_rfl) (by kernel_rfl) (fun _ _ _ h => h) (Or.inl ⟨by rfl, fun _ _ => by go_simp⟩) hH ?_
            refine wpAnyH_take (i := 2) (v := .int .i64 nv) rfl (by kernel_rfl) (by kernel_rfl) (by kernel_rfl) (fun _ _ _ h => h) (Or.inl ⟨by rfl, fun w' hw' => by have q2 : w'.cell? ⟨Q, 2, none⟩ = some (.int .i64 nv) := Rw.cell hw' 2; go_simp⟩) hH ?_
            refine wpAnyH_take (i := 3) (v := .int .i64 Z) rfl (by kernel_rfl) (by kernel_rfl) (by kernel_rfl) (fun _ _ _ h => h) (Or.inl ⟨by rfl, fun _ _ => by go_simp⟩) hH ?_
            refine wpAnyH_take (i := 4) (v := .agg (actC on kd nv fill 0 at_ mask (.slice ka kn kc) torn).toArray) rfl (by kernel_rfl) (by kernel_rfl) (by kernel_rfl) (fun _ _ _ h => h) (Or.inl ⟨by rfl, fun w' hw' => by
              have q0 : w'.cell? ⟨Q, 0, none⟩ = some (.int .i64 on) := Rw.cell hw' 0
              have q1 : w'.cell? ⟨Q, 1, none⟩ = some (.int .i64 kd) := Rw.cell hw' 1
              have q2 : w'.cell? ⟨Q, 2, none⟩ = some (.int .i64 nv) := Rw.cell hw' 2
              have q3 : w'.cell? ⟨Q, 3, none⟩ = some (.int .u8 fill) := Rw.cell hw' 3
              have q4 : w'.cell? ⟨Q, 4, none⟩ = some (.int .i64 0) := Rw.cell hw' 4
              have q5 : w'.cell? ⟨Q, 5, none⟩ = some (.int .i64 at_) := Rw.cell hw' 5
              have q6 : w'.cell? ⟨Q, 6, none⟩ = some (.int .u8 mask) := Rw.cell hw' 6
              have q7 : w'.cell? ⟨Q, 7, none⟩ = some (.slice ka kn kc) := Rw.cell hw' 7
              have q8 : w'.cell? ⟨Q, 8, none⟩ = some (.int .i64 torn) := Rw.cell hw' 8
              go_simp
              rfl⟩) hH ?_
            refine wpAnyH_ready (rs := [5]) (by kernel_rfl) (by simp) ?_
            refine AllReadyH.cons rfl (fun K hK => ?_) AllReadyH.nil
            go_simp
            refine Calls.mono (WR.out _) ?_
            rintro e w3 ⟨gw, rfl, rw3, hg3, bel3⟩
            refine hK.out _ _ ⟨(Chg.of_below bel3 (fun _ => False)).heap_some Q1.out.eq (fun h => h)⟩ (fun h1 => ?_)
            clear hK K hH
            refine wpAnyH_ready (rs := [6]) (by kernel_rfl) (by simp) ?_
            refine AllReadyH.cons rfl (fun K hK => ?_) AllReadyH.nil
            go_simp
            refine Calls.mono (WX.out _ _ rw3 hg3 bel3) ?_
            rintro e w4 ⟨rfl, bl4, ot4, rq4, sz4, ap4⟩
            have BE4 : Hid _ := bl4
            have OT4 : Hid _ := ot4
            have RQ4 : Hid _ := rq4
            have SZ4 : Hid _ := sz4
            have AP4 : Hid _ := ap4
            refine hK.out _ _ rq4 (fun h2 => ?_)
            clear hK K h1 rw3 hg3 bel3 bl4 ot4 rq4 sz4 ap4
            refine wpAnyH_take (i := 7) (v := .bool false) rfl (by kernel_rfl) (by kernel_rfl) (by kernel_rfl) (fun _ _ _ h => h) (Or.inl ⟨by rfl, fun _ _ => by go_simp⟩) h2 ?_
            refine wpAnyH_done (by kernel_rfl) ?_ _
            have q0 : w4.cell? ⟨Q, 0, none⟩ = some (.int .i64 on) := Rw.cell RQ4.out 0
            have q1 : w4.cell? ⟨Q, 1, none⟩ = some (.int .i64 kd) := Rw.cell RQ4.out 1
            have q2 : w4.cell? ⟨Q, 2, none⟩ = some (.int .i64 nv) := Rw.cell RQ4.out 2
            have q3 : w4.cell? ⟨Q, 3, none⟩ = some (.int .u8 fill) := Rw.cell RQ4.out 3
            have q4 : w4.cell? ⟨Q, 4, none⟩ = some (.int .i64 0) := Rw.cell RQ4.out 4
            have q5 : w4.cell? ⟨Q, 5, none⟩ = some (.int .i64 at_) := Rw.cell RQ4.out 5
            have q6 : w4.cell? ⟨Q, 6, none⟩ = some (.int .u8 mask) := Rw.cell RQ4.out 6
            have q7 : w4.cell? ⟨Q, 7, none⟩ = some (.slice ka kn kc) := Rw.cell RQ4.out 7
            have q8 : w4.cell? ⟨Q, 8, none⟩ = some (.int .i64 torn) := Rw.cell RQ4.out 8
            clear h2 WR WX Q1 C1 RQ4 d0 d1 d2 d3 d4 d5 d6 d7 d8 APh BE
            go_upto_region 23 with fail
            obtain ⟨dj, hdj⟩ : ∃ dj : Ac, dj = ⟨on, kd, nv, fill, 0, at_, mask, ka, kn, kc, torn⟩ := ⟨_, rfl⟩
            have DO5 : Hid ((w4.alloc (.cells #[.int .i64 on, .int .i64 kd, .int .i64 nv, .int .u8 fill, .int .i64 0, .int .i64 at_, .int .u8 mask, .slice ka kn kc, .int .i64 torn] 45)).ownsRow 0 45 9 dv j (dcells dn j)) := row45_oth (row45_oth DO.out OT4.out) (Oth.more ((Chg.refl _ _).alloc _))
            have HC5 : Hid (∀ q u, dj.cells[q]? = some u → (w4.alloc (.cells #[.int .i64 on, .int .i64 kd, .int .i64 nv, .int .u8 fill, .int .i64 0, .int .i64 at_, .int .u8 mask, .slice ka kn kc, .int .i64 torn] 45)).cell? ((⟨w4.heap.size, 0, none⟩ : Addr).add q) = some u) := fun q u hu => by
              rw [addr_add, Nat.zero_add, Rw.cell (cs := dj.cells.toArray) ⟨by rw [hdj]; exact heap_alloc_new _ _⟩ q, List.getElem?_toArray]
              exact hu
            have HCJ : Hid ((dn j).cells = dj.cells) := by rw [hdj]; exact HCD.out
            clear hdj
            go_wp2_with (refine wpList_appD (v := dv) (d := dj) rfl (.tmp 93) (.tmp 95) rfl rfl rfl DO5.out HC5.out (by omega) ?_; intro v' w6 ho6 hg6 hb6; have DO6 : Hid _ := ho6; have G6 : Hid _ := hg6; have HB6 : Hid _ := hb6; clear ho6 hg6 hb6)
            have a5 : Chg (fun _ => False) w4 (w4.alloc (.cells #[.int .i64 on, .int .i64 kd, .int .i64 nv, .int .u8 fill, .int .i64 0, .int .i64 at_, .int .u8 mask, .slice ka kn kc, .int .i64 torn] 45)) := (Chg.refl _ _).alloc _
            have b6 : Below B w0 w6 := (BE4.out.trans (a5.below (Nat.le_trans hBW.out BE4.out.size) (fun _ h => h.elim))).trans ((Chg.of_grown G6.out).below (Nat.le_trans (Nat.le_trans hBW.out BE4.out.size) a5.size) (fun g e => (DB.out g e.symm).1))
            have ap6 := (AP4.out.more a5).other G6.out (fun g e => by
              obtain ⟨cur, hcur⟩ := row45 DO5.out e
              exact ⟨cur, 45, hcur, by decide, by decide, by decide⟩)
            have do6 : w6.ownsRow 0 45 9 v' (j + 1) (dcells dn (j + 1)) := by rw [dcells_next, HCJ.out]; exact DO6.out
            have db6 : ∀ g, v'.ownBlock = some g → B ≤ g ∧ w6.heap.size > g := fun g hg => by
              have h1 : g < w6.heap.size := by
                obtain ⟨cur, hcur⟩ := row45 DO6.out hg
                exact hcur.lt
              rcases HB6.out with e | e
              · exact ⟨(DB.out g (by rw [← e]; exact hg)).1, h1⟩
              · rw [hg] at e
                injection e with e
                have h2 := Nat.le_trans (Nat.le_trans hBW.out BE4.out.size) a5.size
                exact ⟨by omega, h1⟩
            have K6 : Hid (Below B w0 w6 ∧ AP w6 B p i Z (i + (j + 1)) (j + 1) (AH Z nu fi (j + 1)) (F1 Z i) ∧ w6.ownsRow 0 45 9 v' (j + 1) (dcells dn (j + 1)) ∧ ∀ g, v'.ownBlock = some g → B ≤ g ∧ w6.heap.size > g) := ⟨b6, ap6, do6, db6⟩
            clear a5 b6 ap6 do6 db6 q0 q1 q2 q3 q4 q5 q6 q7 q8 DO5 HC5 HCJ HCD DO6 G6 HB6 AP4 BE4 OT4 SZ4 DO DB
            go_roundg (N - j)
            case measure => omega
            case rel => exact ⟨j + 1, _, rfl, by go_num, by omega, by omega, K6.out⟩
          · go_upto_region 21 with fail
            try rw [hr2]
            obtain ⟨W1, hW1⟩ : ∃ W1, W1 = wr.alloc (.cells #[.int .i64 on, .int .i64 kd, .int .i64 nv, .int .u8 fill, .int .i64 0, .int .i64 at_, .int .u8 mask, .slice ka kn kc, .int .i64 torn] 45) := ⟨_, rfl⟩
            rw [← hW1]
            obtain ⟨Q, hQ⟩ : ∃ Q, Q = wr.heap.size := ⟨_, rfl⟩
            rw [← hQ]
            have hcd : (dn j).cells = Ac.cells ⟨on, kd, nv, fill, 0, at_, mask, ka, kn, kc, torn⟩ := by rw [HDN.out]; simp only; rw [HT.out, HNV.out]
            have q1 : Rw W1 Q (Ac.cells ⟨on, kd, nv, fill, 0, at_, mask, ka, kn, kc, torn⟩).toArray 45 := by rw [hW1, hQ]; exact ⟨heap_alloc_new _ _⟩
            have c1 : Chg (fun _ => False) wr W1 := by rw [hW1]; exact (Chg.refl _ _).alloc _
            have Q1 : Hid _ := q1
            have C1 : Hid _ := c1
            have HCD : Hid _ := hcd
            have WR : Hid _ := fun wq => written_fit (w := wq) (Z : Int) on kd nv fill 0 at_ mask (.slice ka kn kc) torn Z (by omega) (by omega) (by omega) (by omega) hfl
            have WX : Hid (∀ w3 gw, Rw w3 gw (bs (wrB fill Z)).toArray 5 → W1.drew.heap.size ≤ gw → Below W1.drew.heap.size W1.drew w3 → Calls Try.prog 19 #[.pointer (some ⟨p, 0, none⟩), .int .i64 nv, .slice (some ⟨gw, 0, none⟩) Z Z] w3 fun e w' => e = .returned (.int .i64 0) ∧ Below B w0 w' ∧ Oth wr w' ∧ Rw w' Q (Ac.cells ⟨on, kd, nv, fill, 0, at_, mask, ka, kn, kc, torn⟩).toArray 45 ∧ wr.heap.size ≤ w'.heap.size ∧ AP w' B p i Z (i + (j + 1)) (j + 1) (AH Z nu fi (j + 1)) (F1 Z i)) := fun w3 gw r3 hg3 b3 => by
              have hc3 : Chg (fun _ => False) wr w3 := (C1.out.drew).trans (Chg.of_below b3 (fun _ => False)) (fun _ h => h.elim)
              have hq3 : Rw w3 Q (Ac.cells ⟨on, kd, nv, fill, 0, at_, mask, ka, kn, kc, torn⟩).toArray 45 := ⟨(Chg.of_below b3 (fun _ => False)).heap_some Q1.out.eq (fun h => h)⟩
              have h := (APh.out.more hc3).write (Nat.le_trans hBr2 hc3.size) (l := wrB fill Z) (ab := some ⟨gw, 0, none⟩) (cb := Z) (src_row r3 (wrB_len _ _)) (wrB_len _ _) (by omega) (by omega) nv hnvl (by omega) (by omega) (by simp [Value.ownBlock]; have := APh.out.lt; have h9 : W1.drew.heap.size = W1.heap.size := rfl; have := C1.out.size; omega)
              refine h.mono (fun e w' ⟨h1, h2, h3, h4⟩ => ⟨h1, (BE.out.trans (hc3.below hBr2 (fun _ h => h.elim))).trans h2, (Oth.more hc3).trans h3, h3 _ _ 45 (by decide) (by decide) (by decide) hq3, Nat.le_trans hc3.size h2.size, ?_⟩)
              have e9 : AH Z nu fi (j + 1) = updT (AH Z nu fi j) nv (AH Z nu fi j nv ++ [(j, wrB fill Z)]) := by
                show updT _ (nu j) (_ ++ [(j, wrB (fi j) Z)]) = _
                rw [HNU.out, HFI.out]
                simp only
                rw [HT.out, ← HNV.out]
              rw [e9]
              exact h4
            clear hcd q1 c1 hW1 hQ hr1 hr2 hnm
            refine wp_region_held_drew (S := fun w' => Rw w' Q (Ac.cells ⟨on, kd, nv, fill, 0, at_, mask, ka, kn, kc, torn⟩).toArray 45) (by kernel_rfl) ⟨Q1.out.eq⟩ (fun hH => ?_)
            refine wpAnyH_take (i := 0) (v := .pointer (some ⟨p, 0, none⟩)) rfl (by kernel_rfl) (by kernel_rfl) (by kernel_rfl) (fun _ _ _ h => h) (Or.inl ⟨by rfl, fun _ _ => by go_simp⟩) hH ?_
            refine wpAnyH_take (i := 1) (v := .pointer (some ⟨Q, 2, none⟩)) rfl (by kernel_rfl) (by kernel_rfl) (by kernel_rfl) (fun _ _ _ h => h) (Or.inl ⟨by rfl, fun _ _ => by go_simp⟩) hH ?_
            refine wpAnyH_take (i := 2) (v := .int .i64 nv) rfl (by kernel_rfl) (by kernel_rfl) (by kernel_rfl) (fun _ _ _ h => h) (Or.inl ⟨by rfl, fun w' hw' => by have q2 : w'.cell? ⟨Q, 2, none⟩ = some (.int .i64 nv) := Rw.cell hw' 2; go_simp⟩) hH ?_
            refine wpAnyH_take (i := 3) (v := .int .i64 Z) rfl (by kernel_rfl) (by kernel_rfl) (by kernel_rfl) (fun _ _ _ h => h) (Or.inl ⟨by rfl, fun _ _ => by go_simp⟩) hH ?_
            refine wpAnyH_take (i := 4) (v := .agg (actC on kd nv fill 0 at_ mask (.slice ka kn kc) torn).toArray) rfl (by kernel_rfl) (by kernel_rfl) (by kernel_rfl) (fun _ _ _ h => h) (Or.inl ⟨by rfl, fun w' hw' => by
              have q0 : w'.cell? ⟨Q, 0, none⟩ = some (.int .i64 on) := Rw.cell hw' 0
              have q1 : w'.cell? ⟨Q, 1, none⟩ = some (.int .i64 kd) := Rw.cell hw' 1
              have q2 : w'.cell? ⟨Q, 2, none⟩ = some (.int .i64 nv) := Rw.cell hw' 2
              have q3 : w'.cell? ⟨Q, 3, none⟩ = some (.int .u8 fill) := Rw.cell hw' 3
              have q4 : w'.cell? ⟨Q, 4, none⟩ = some (.int .i64 0) := Rw.cell hw' 4
              have q5 : w'.cell? ⟨Q, 5, none⟩ = some (.int .i64 at_) := Rw.cell hw' 5
              have q6 : w'.cell? ⟨Q, 6, none⟩ = some (.int .u8 mask) := Rw.cell hw' 6
              have q7 : w'.cell? ⟨Q, 7, none⟩ = some (.slice ka kn kc) := Rw.cell hw' 7
              have q8 : w'.cell? ⟨Q, 8, none⟩ = some (.int .i64 torn) := Rw.cell hw' 8
              go_simp
              rfl⟩) hH ?_
            refine wpAnyH_ready (rs := [5]) (by kernel_rfl) (by simp) ?_
            refine AllReadyH.cons rfl (fun K hK => ?_) AllReadyH.nil
            go_simp
            refine Calls.mono (WR.out _) ?_
            rintro e w3 ⟨gw, rfl, rw3, hg3, bel3⟩
            refine hK.out _ _ ⟨(Chg.of_below bel3 (fun _ => False)).heap_some Q1.out.eq (fun h => h)⟩ (fun h1 => ?_)
            clear hK K hH
            refine wpAnyH_ready (rs := [6]) (by kernel_rfl) (by simp) ?_
            refine AllReadyH.cons rfl (fun K hK => ?_) AllReadyH.nil
            go_simp
            refine Calls.mono (WX.out _ _ rw3 hg3 bel3) ?_
            rintro e w4 ⟨rfl, bl4, ot4, rq4, sz4, ap4⟩
            have BE4 : Hid _ := bl4
            have OT4 : Hid _ := ot4
            have RQ4 : Hid _ := rq4
            have SZ4 : Hid _ := sz4
            have AP4 : Hid _ := ap4
            refine hK.out _ _ rq4 (fun h2 => ?_)
            clear hK K h1 rw3 hg3 bel3 bl4 ot4 rq4 sz4 ap4
            refine wpAnyH_take (i := 7) (v := .bool false) rfl (by kernel_rfl) (by kernel_rfl) (by kernel_rfl) (fun _ _ _ h => h) (Or.inl ⟨by rfl, fun _ _ => by go_simp⟩) h2 ?_
            refine wpAnyH_done (by kernel_rfl) ?_ _
            have q0 : w4.cell? ⟨Q, 0, none⟩ = some (.int .i64 on) := Rw.cell RQ4.out 0
            have q1 : w4.cell? ⟨Q, 1, none⟩ = some (.int .i64 kd) := Rw.cell RQ4.out 1
            have q2 : w4.cell? ⟨Q, 2, none⟩ = some (.int .i64 nv) := Rw.cell RQ4.out 2
            have q3 : w4.cell? ⟨Q, 3, none⟩ = some (.int .u8 fill) := Rw.cell RQ4.out 3
            have q4 : w4.cell? ⟨Q, 4, none⟩ = some (.int .i64 0) := Rw.cell RQ4.out 4
            have q5 : w4.cell? ⟨Q, 5, none⟩ = some (.int .i64 at_) := Rw.cell RQ4.out 5
            have q6 : w4.cell? ⟨Q, 6, none⟩ = some (.int .u8 mask) := Rw.cell RQ4.out 6
            have q7 : w4.cell? ⟨Q, 7, none⟩ = some (.slice ka kn kc) := Rw.cell RQ4.out 7
            have q8 : w4.cell? ⟨Q, 8, none⟩ = some (.int .i64 torn) := Rw.cell RQ4.out 8
            clear h2 WR WX Q1 C1 RQ4 d0 d1 d2 d3 d4 d5 d6 d7 d8 APh BE
            go_upto_region 23 with fail
            obtain ⟨dj, hdj⟩ : ∃ dj : Ac, dj = ⟨on, kd, nv, fill, 0, at_, mask, ka, kn, kc, torn⟩ := ⟨_, rfl⟩
            have DO5 : Hid ((w4.alloc (.cells #[.int .i64 on, .int .i64 kd, .int .i64 nv, .int .u8 fill, .int .i64 0, .int .i64 at_, .int .u8 mask, .slice ka kn kc, .int .i64 torn] 45)).ownsRow 0 45 9 dv j (dcells dn j)) := row45_oth (row45_oth DO.out OT4.out) (Oth.more ((Chg.refl _ _).alloc _))
            have HC5 : Hid (∀ q u, dj.cells[q]? = some u → (w4.alloc (.cells #[.int .i64 on, .int .i64 kd, .int .i64 nv, .int .u8 fill, .int .i64 0, .int .i64 at_, .int .u8 mask, .slice ka kn kc, .int .i64 torn] 45)).cell? ((⟨w4.heap.size, 0, none⟩ : Addr).add q) = some u) := fun q u hu => by
              rw [addr_add, Nat.zero_add, Rw.cell (cs := dj.cells.toArray) ⟨by rw [hdj]; exact heap_alloc_new _ _⟩ q, List.getElem?_toArray]
              exact hu
            have HCJ : Hid ((dn j).cells = dj.cells) := by rw [hdj]; exact HCD.out
            clear hdj
            go_wp2_with (refine wpList_appD (v := dv) (d := dj) rfl (.tmp 93) (.tmp 95) rfl rfl rfl DO5.out HC5.out (by omega) ?_; intro v' w6 ho6 hg6 hb6; have DO6 : Hid _ := ho6; have G6 : Hid _ := hg6; have HB6 : Hid _ := hb6; clear ho6 hg6 hb6)
            have a5 : Chg (fun _ => False) w4 (w4.alloc (.cells #[.int .i64 on, .int .i64 kd, .int .i64 nv, .int .u8 fill, .int .i64 0, .int .i64 at_, .int .u8 mask, .slice ka kn kc, .int .i64 torn] 45)) := (Chg.refl _ _).alloc _
            have b6 : Below B w0 w6 := (BE4.out.trans (a5.below (Nat.le_trans hBW.out BE4.out.size) (fun _ h => h.elim))).trans ((Chg.of_grown G6.out).below (Nat.le_trans (Nat.le_trans hBW.out BE4.out.size) a5.size) (fun g e => (DB.out g e.symm).1))
            have ap6 := (AP4.out.more a5).other G6.out (fun g e => by
              obtain ⟨cur, hcur⟩ := row45 DO5.out e
              exact ⟨cur, 45, hcur, by decide, by decide, by decide⟩)
            have do6 : w6.ownsRow 0 45 9 v' (j + 1) (dcells dn (j + 1)) := by rw [dcells_next, HCJ.out]; exact DO6.out
            have db6 : ∀ g, v'.ownBlock = some g → B ≤ g ∧ w6.heap.size > g := fun g hg => by
              have h1 : g < w6.heap.size := by
                obtain ⟨cur, hcur⟩ := row45 DO6.out hg
                exact hcur.lt
              rcases HB6.out with e | e
              · exact ⟨(DB.out g (by rw [← e]; exact hg)).1, h1⟩
              · rw [hg] at e
                injection e with e
                have h2 := Nat.le_trans (Nat.le_trans hBW.out BE4.out.size) a5.size
                exact ⟨by omega, h1⟩
            have K6 : Hid (Below B w0 w6 ∧ AP w6 B p i Z (i + (j + 1)) (j + 1) (AH Z nu fi (j + 1)) (F1 Z i) ∧ w6.ownsRow 0 45 9 v' (j + 1) (dcells dn (j + 1)) ∧ ∀ g, v'.ownBlock = some g → B ≤ g ∧ w6.heap.size > g) := ⟨b6, ap6, do6, db6⟩
            clear a5 b6 ap6 do6 db6 q0 q1 q2 q3 q4 q5 q6 q7 q8 DO5 HC5 HCJ HCD DO6 G6 HB6 AP4 BE4 OT4 SZ4 DO DB
            go_roundg (N - j)
            case measure => omega
            case rel => exact ⟨j + 1, _, rfl, by go_num, by omega, by omega, K6.out⟩
    · have hil : (i : Int) < (S : Int) := by omega
      have hfl : IntKind.u8.wrap (200 + (i : Int)) = f8 i := by simp [IntKind.wrap, IntKind.bits, IntKind.signed, f8]
      have WR : Hid _ := written_fit (w := wr) (Z : Int) 0 0 0 (f8 i) 0 0 0 (.slice none 0 0) 0 Z (by omega) (by omega) (by omega) (by omega) (by unfold f8; omega)
      have BE : Hid _ := bel
      have APh : Hid _ := ap
      clear bel ap
      go_wp2_with fail
      refine Calls.mono WR.out ?_
      rintro e w3 ⟨gw, rfl, rw3, hg3, bel3⟩
      have hc3 : Chg (fun _ => False) wr w3 := Chg.of_below bel3 (fun _ => False)
      have WX : Hid _ := (APh.out.more hc3).write (Nat.le_trans hBr hc3.size) (l := wrB (f8 i) Z) (ab := some ⟨gw, 0, none⟩) (cb := Z) (src_row rw3 (wrB_len _ _)) (wrB_len _ _) (by omega) (by omega) i (by omega) (by omega) (by omega) (by simp [Value.ownBlock]; have := APh.out.lt; omega)
      have BE3 : Hid (Below B w0 w3) := BE.out.trans (hc3.below hBr (fun _ h => h.elim))
      clear WR hc3 rw3 bel3 hg3 APh BE
      go_wp2_with fail
      refine Calls.mono WX.out ?_
      rintro e w4 ⟨rfl, bl4, _, ap4⟩
      rw [A1_next] at ap4
      have BE4 : Hid (Below B w0 w4) := BE3.out.trans bl4
      have AP4 : Hid _ := ap4
      clear bl4 ap4 WX BE3
      go_wp2_with fail
      go_roundg (S - i)
      case measure => omega
      case rel => exact ⟨i + 1, by go_num, by omega, by omega, BE4.out, AP4.out⟩
end Go.Proofs.Ytffkodonomfflaa
