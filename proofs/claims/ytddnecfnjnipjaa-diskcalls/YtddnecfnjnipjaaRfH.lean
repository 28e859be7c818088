/-
  The reference's over and sure: what the deeds make of a sector.
-/
import Derived.Test.YtddnecfnjnipjaaRfG
namespace Go.Proofs.Ytddnecfnjnipjaa
open Go.RowKit

def ov1 (C : Nat → List Int) (t : Nat) (b : List Int) (d : Dd) : List Int := if d.s = t then (if d.turn then rotL d.at_ d.mask b else over (C d.g) b d.n) else b
def ovD (C : Nat → List Int) (t : Nat) (dl : List Dd) (b : List Int) : List Int := dl.foldl (ov1 C t) b
theorem over_succ {l m : List Int} {k : Nat} (hk : k < l.length) (hm : k < m.length) : (over l m k).set k l[k] = over l m (k + 1) := by
  unfold over
  have e : l.take (k + 1) = l.take k ++ [l[k]] := by rw [List.take_add_one, List.getElem?_eq_getElem hk]; rfl
  rw [List.set_append, if_neg (by rw [List.length_take]; omega), List.length_take, Nat.min_eq_left (by omega), Nat.sub_self, List.drop_eq_getElem_cons hm, List.set_cons_zero, e, List.append_assoc]
  rfl
theorem rotL_len (a : Nat) (m : Int) (l : List Int) : (rotL a m l).length = l.length := by unfold rotL; rw [List.length_set]
theorem ov1_len {C : Nat → List Int} {t z : Nat} {b : List Int} {d : Dd} (hb : b.length = z) (hd : d.turn = false → (C d.g).length = z ∧ d.n ≤ z) : (ov1 C t b d).length = z := by
  unfold ov1
  split
  · split
    · rw [rotL_len]; exact hb
    · rename_i h
      have hd := hd (by simpa using h)
      exact over_len hd.1 hb d.n hd.2
  · exact hb
theorem ovD_len {C : Nat → List Int} {t z : Nat} : ∀ (dl : List Dd) (b : List Int), b.length = z → (∀ d ∈ dl, d.turn = false → (C d.g).length = z ∧ d.n ≤ z) → (ovD C t dl b).length = z
  | [], _, hb, _ => hb
  | d :: dl, b, hb, h => ovD_len dl _ (ov1_len hb (h d (by simp))) (fun d hd => h d (by simp [hd]))
theorem ovD_snoc (C : Nat → List Int) (t : Nat) (dl : List Dd) (d : Dd) (b : List Int) : ovD C t (dl ++ [d]) b = ov1 C t (ovD C t dl b) d := by
  unfold ovD
  rw [List.foldl_append]
  rfl
theorem ovD_take (C : Nat → List Int) (t : Nat) (dl : List Dd) (b : List Int) {k : Nat} {d : Dd} (h : dl[k]? = some d) : ovD C t (dl.take (k + 1)) b = ov1 C t (ovD C t (dl.take k) b) d := by
  rw [List.take_add_one, h]
  exact ovD_snoc C t _ d b

/-- While over goes through the deeds. -/
def OI (w wr : World) (B z : Nat) (l : List Int) : Prop := Chg (fun i => i = B) w wr ∧ Rw wr B (bs l).toArray 5 ∧ l.length = z

section
variable {w w' : World} {q S z b : Nat} {y : RN} {dl cl : List Dd} {dv cv : Value} {C : Nat → List Int}

set_option maxRecDepth 100000 in
set_option maxHeartbeats 8000000 in
theorem RD.over_any (h : RD w q S z b y dl cl dv cv C) (hb : b < 2199023255552) (hz : z ≤ 4096) {B : Nat} {lb : List Int} (hB : Rw w B (bs lb).toArray 5) (hlb : lb.length = z) (hno : ∀ d ∈ dl, d.turn = false → d.g ≠ B) (t : Nat) :
    Calls Try.prog 83 #[.pointer (some ⟨q, 0, none⟩), .slice (some ⟨B, 0, none⟩) z z, .int .i64 t, dv] w fun e w' => e = .returned (.tuple #[]) ∧ OI w w' B z (ovD C t dl lb) := by
  have hlen := h.len
  obtain ⟨n, hn⟩ : ∃ n, n = dl.length := ⟨_, rfl⟩
  obtain ⟨da, dc, hdv⟩ := RD.vform h.dn
  rw [← hn] at hdv
  have H : Hid _ := h
  have HN : Hid _ := hn
  have HV : Hid _ := hdv
  have HNO : Hid _ := hno
  have HB : Hid _ := hB
  have HLB : Hid _ := hlb
  have hnb : n < 2199023255552 := by omega
  have hBd : Hid (dv.ownBlock ≠ some B) := fun e => by
    obtain ⟨cur, e1⟩ := h.dn.block e
    exact cells_ne e1 hB.eq (by decide) rfl
  rw [hdv]
  clear h hn hdv hno hB hlb
  go_enter Try.func83, Try.ntmps83
  go_wp2_with fail
  go_loopw [8] (fun i wr => ∃ k : Nat, k ≤ n ∧ i = .int .i64 k ∧ Hid (OI w wr B z (ovD C t (dl.take k) lb))) (fun i _ => n - (intOf i).toNat)
  case atStart => exact ⟨0, Nat.zero_le _, rfl, Chg.refl _ _, HB.out, HLB.out⟩
  case round =>
    obtain ⟨k, hk, rfl, hid⟩ := hrel
    by_cases hlt : k < n
    · obtain ⟨d, hd⟩ : ∃ d, dl[k]? = some d := ⟨dl[k]'(by have := HN.out; omega), List.getElem?_eq_getElem _⟩
      obtain ⟨g, c, e, hcl⟩ := H.out.dn.cell hd
      rw [HV.out] at e
      injection e with e1 e2 e3
      subst e1
      clear e2 e3
      have hdm := List.mem_of_getElem? hd
      obtain ⟨ch, rB, lB⟩ := hid.out
      have hkc : ∀ j u, (d.cells z)[j]? = some u → wr.cell? ⟨g, k * 6 + j, none⟩ = some u := fun j u hu => ch.cell_some (hcl j u hu) (fun e => hBd.out (by rw [HV.out]; exact congrArg some e))
      obtain ⟨m, hm⟩ : ∃ m, m = ovD C t (dl.take k) lb := ⟨_, rfl⟩
      have hE : Hid (ovD C t (dl.take (k + 1)) lb = ov1 C t m d) := by rw [hm]; exact ovD_take C t dl lb hd
      rw [← hm] at rB lB
      have hdb := H.out.db d hdm
      have hdt := H.out.dt d hdm
      have hdB := HNO.out d hdm
      obtain ⟨ds, dg, dcp, dn, tn, dat, dm⟩ := d
      simp only [Dd.cells, Dd.bv] at hkc
      have OI0 : Hid (∀ o, OI w (wr.alloc o) B z m) := fun o => ⟨ch.alloc o, rB.alloc o, lB⟩
      have k0 : wr.cell? ⟨g, k * 6, none⟩ = some (.int .i64 ds) := hkc 0 _ rfl
      have k2 : wr.cell? ⟨g, k * 6 + 2, none⟩ = some (.int .i64 dn) := hkc 2 _ rfl
      have k3 : wr.cell? ⟨g, k * 6 + 3, none⟩ = some (.bool tn) := hkc 3 _ rfl
      have k4 : wr.cell? ⟨g, k * 6 + 4, none⟩ = some (.int .i64 dat) := hkc 4 _ rfl
      have k5 : wr.cell? ⟨g, k * 6 + 5, none⟩ = some (.int .u8 dm) := hkc 5 _ rfl
      have k1 := hkc 1 _ rfl
      clear hkc hcl hid hd hdm
      by_cases hds : ds = t
      · cases tn with
        | true =>
          have k1' : wr.cell? ⟨g, k * 6 + 1, none⟩ = some (.slice none 0 0) := k1
          have hat : dat < z := hdt rfl
          clear k1 hdb hdB
          subst hds
          obtain ⟨X, hX⟩ : ∃ X, X = wr.heap.size := ⟨_, rfl⟩
          obtain ⟨w3, hw3⟩ : ∃ w3, w3 = wr.alloc (.cells #[.int .i64 ds, .slice none 0 0, .int .i64 dn, .bool true, .int .i64 dat, .int .u8 dm] 110) := ⟨_, rfl⟩
          have X3 : w3.heap[X]? = some (.cells #[.int .i64 ds, .slice none 0 0, .int .i64 dn, .bool true, .int .i64 dat, .int .u8 dm] 110 (0, 0)) := by rw [hw3, hX]; exact heap_alloc_new _ _
          have hXB : B < X := by rw [hX]; exact rB.lt
          obtain ⟨ch3, rB3, _⟩ := OI0.out (.cells #[.int .i64 ds, .slice none 0 0, .int .i64 dn, .bool true, .int .i64 dat, .int .u8 dm] 110)
          rw [← hw3] at ch3 rB3
          obtain ⟨bv, hbv⟩ : ∃ bv, bv = m[dat]'(by omega) := ⟨_, rfl⟩
          have dY : w3.cell? ⟨B, dat, none⟩ = some (.int .u8 bv) := by rw [hbv, Rw.cell rB3 dat, List.getElem?_toArray, bs_get _ _ (by omega)]
          have fY := rB3.fr dat
          have S1 : ∀ v', (w3.setCell ⟨B, dat, none⟩ (.int .u8 v')).heap[X]? = some (.cells #[.int .i64 ds, .slice none 0 0, .int .i64 dn, .bool true, .int .i64 dat, .int .u8 dm] 110 (0, 0)) := fun v' => ((Chg.refl (fun i => i = B) w3).setCell (.inl rfl) _).heap_some X3 (fun e => by omega)
          have K5 : Hid (∀ v', v' = bits BinOp.xor IntKind.u8 bv dm → OI w (w3.setCell ⟨B, dat, none⟩ (.int .u8 v')).drew B z (ovD C ds (dl.take (k + 1)) lb)) := fun v' hv' => by
            have e : ovD C ds (dl.take (k + 1)) lb = m.set dat v' := by
              rw [hE.out]
              unfold ov1
              rw [if_pos rfl]
              show rotL dat dm m = _
              unfold rotL
              rw [hv', hbv, List.getD_eq_getElem?_getD, List.getElem?_eq_getElem (by omega)]
              rfl
            rw [e]
            refine ⟨(ch3.trans ((Chg.refl (fun i => i = B) w3).setCell (.inl rfl) _) (fun _ e => .inl e)).drew, ⟨?_⟩, by rw [List.length_set]; exact lB⟩
            have := Rw.set rB3 dat (.int .u8 v')
            rw [set_bs] at this
            exact this.eq
          clear OI0 ch rB ch3 rB3 hbv hdt hE
          go_upto_region 6 with fail
          rw [← hw3, ← hX]
          clear hw3 hX
          refine wp_region_noPanic ?_
          refine wp_region_held_drew (S := fun w' => w'.heap[X]? = some (.cells #[.int .i64 ds, .slice none 0 0, .int .i64 dn, .bool true, .int .i64 dat, .int .u8 dm] 110 (0, 0))) (by kernel_rfl) X3 (fun hH => ?_)
          refine wpAnyH_take (i := 0) (v := .slice (some ⟨B, 0, none⟩) z z) rfl (by kernel_rfl) (by kernel_rfl) (by kernel_rfl) (fun _ _ _ h => h) (Or.inl ⟨by rfl, fun w' hw' => by go_simp⟩) hH ?_
          refine wpAnyH_take (i := 1) (v := .pointer (some ⟨X, 4, none⟩)) rfl (by kernel_rfl) (by kernel_rfl) (by kernel_rfl) (fun _ _ _ h => h) (Or.inl ⟨by rfl, fun w' hw' => by go_simp⟩) hH ?_
          refine wpAnyH_take (i := 2) (v := .int .i64 dat) rfl (by kernel_rfl) (by kernel_rfl) (by kernel_rfl) (fun _ _ _ h => h) (Or.inl ⟨by rfl, fun w' hw' => by have q1 := (cell_of_row _ X 4 _ _ _ hw' : w'.cell? ⟨X, 4, none⟩ = some (.int .i64 dat)); go_simp⟩) hH ?_
          refine wpAnyH_take (i := 3) (v := .slice (some ⟨B, 0, none⟩) z z) rfl (by kernel_rfl) (by kernel_rfl) (by kernel_rfl) (fun _ _ _ h => h) (Or.inl ⟨by rfl, fun w' hw' => by go_simp⟩) hH ?_
          refine wpAnyH_take (i := 4) (v := .pointer (some ⟨X, 4, none⟩)) rfl (by kernel_rfl) (by kernel_rfl) (by kernel_rfl) (fun _ _ _ h => h) (Or.inl ⟨by rfl, fun w' hw' => by go_simp⟩) hH ?_
          refine wpAnyH_take (i := 5) (v := .int .i64 dat) rfl (by kernel_rfl) (by kernel_rfl) (by kernel_rfl) (fun _ _ _ h => h) (Or.inl ⟨by rfl, fun w' hw' => by have q1 := (cell_of_row _ X 4 _ _ _ hw' : w'.cell? ⟨X, 4, none⟩ = some (.int .i64 dat)); go_simp⟩) hH ?_
          refine wpAnyH_take (i := 6) (v := .pointer (some ⟨B, dat, none⟩)) rfl (by kernel_rfl) (by kernel_rfl) (by kernel_rfl) (fun _ _ _ h => h) (Or.inl ⟨by rfl, fun w' hw' => by go_simp⟩) hH ?_
          refine wpAnyH_take (i := 8) (v := .pointer (some ⟨X, 5, none⟩)) rfl (by kernel_rfl) (by kernel_rfl) (by kernel_rfl) (fun _ _ _ h => h) (Or.inl ⟨by rfl, fun w' hw' => by go_simp⟩) hH ?_
          refine wpAnyH_take (i := 9) (v := .int .u8 dm) rfl (by kernel_rfl) (by kernel_rfl) (by kernel_rfl) (fun _ _ _ h => h) (Or.inl ⟨by rfl, fun w' hw' => by have q1 := (cell_of_row _ X 5 _ _ _ hw' : w'.cell? ⟨X, 5, none⟩ = some (.int .u8 dm)); go_simp⟩) hH ?_
          refine wpAnyH_ready (rs := [7]) (by kernel_rfl) (by simp) ?_
          refine AllReadyH.cons rfl (fun KK hKK => ?_) AllReadyH.nil
          go_simp
          refine hKK.out _ _ hH (fun h1 => ?_)
          clear hKK KK
          refine wpAnyH_take (i := 10) (v := .int .u8 (bits BinOp.xor IntKind.u8 bv dm)) rfl (by kernel_rfl) (by kernel_rfl) (by kernel_rfl) (fun _ _ _ h => h) (Or.inl ⟨by rfl, fun w' hw' => by go_simp⟩) hH ?_
          refine wpAnyH_take (i := 11) (v := .pointer (some ⟨B, dat, none⟩)) rfl (by kernel_rfl) (by kernel_rfl) (by kernel_rfl) (fun _ _ _ h => h) (Or.inl ⟨by rfl, fun w' hw' => by go_simp⟩) hH ?_
          refine wpAnyH_ready (rs := [12]) (by kernel_rfl) (by simp) ?_
          refine AllReadyH.cons rfl (fun KK hKK => ?_) AllReadyH.nil
          go_simp
          refine hKK.out _ _ (S1 _) (fun _ => ?_)
          clear hKK KK
          refine wpAnyH_done (by kernel_rfl) (NoPanic.normal ?_) _
          clear h1 hH dY fY k0 k1' k2 k3 k4 k5 S1 X3
          go_wp2_with fail
          go_roundw
          case rel => exact ⟨k + 1, by omega, by go_num, K5.out _ rfl⟩
          case measure => simp [intOf]; omega
        | false =>
          have k1' : wr.cell? ⟨g, k * 6 + 1, none⟩ = some (.slice (some ⟨dg, 0, none⟩) z dcp) := k1
          obtain ⟨od, ld, hnz⟩ := hdb rfl
          have hgB := hdB rfl
          clear k1 hdt hdb hdB
          subst hds
          obtain ⟨X, hX⟩ : ∃ X, X = wr.heap.size := ⟨_, rfl⟩
          obtain ⟨w3, hw3⟩ : ∃ w3, w3 = wr.alloc (.cells #[.int .i64 ds, .slice (some ⟨dg, 0, none⟩) z dcp, .int .i64 dn, .bool false, .int .i64 dat, .int .u8 dm] 110) := ⟨_, rfl⟩
          have X3 : w3.heap[X]? = some (.cells #[.int .i64 ds, .slice (some ⟨dg, 0, none⟩) z dcp, .int .i64 dn, .bool false, .int .i64 dat, .int .u8 dm] 110 (0, 0)) := by rw [hw3, hX]; exact heap_alloc_new _ _
          have hXB : B < X := by rw [hX]; exact rB.lt
          have O3 : Hid _ := OI0.out (.cells #[.int .i64 ds, .slice (some ⟨dg, 0, none⟩) z dcp, .int .i64 dn, .bool false, .int .i64 dat, .int .u8 dm] 110)
          rw [← hw3] at O3
          have XX3 : Hid _ := X3
          have OD : Hid _ := od
          have LD : Hid _ := ld
          have LB : Hid _ := lB
          have HE : Hid (ovD C ds (dl.take (k + 1)) lb = over (C dg) m dn) := by rw [hE.out]; unfold ov1; rw [if_pos rfl]; rfl
          clear OI0 ch rB X3 od ld lB hE
          go_upto_region 7 with fail
          rw [← hw3, ← hX]
          clear hw3 hX k0 k1' k2 k3 k4 k5
          go_wp2_with fail
          go_loopw [10] (fun j wq => ∃ i : Nat, i ≤ dn ∧ j = .int .i64 i ∧ Hid (OI w wq B z (over (C dg) m i) ∧ Chg (fun i => i = B) w3 wq)) (fun j _ => dn - (intOf j).toNat)
          case atStart => exact ⟨0, Nat.zero_le _, rfl, by rw [over_zero]; exact O3.out, Chg.refl _ _⟩
          case round =>
            obtain ⟨i, hi, rfl, hid⟩ := hrel
            obtain ⟨⟨ch, rB, lB⟩, ch3⟩ := hid.out
            have X4 := ch3.heap_some XX3.out (fun e => by omega)
            have x2 : wr.cell? ⟨X, 2, none⟩ = some (.int .i64 dn) := cell_of_row _ _ _ _ _ _ X4
            have x1 : wr.cell? ⟨X, 1, none⟩ = some (.slice (some ⟨dg, 0, none⟩) z dcp) := cell_of_row _ _ _ _ _ _ X4
            clear X4
            by_cases hin : i < dn
            · have hin' : (i : Int) < (dn : Int) := by omega
              have LD' := LD.out
              have LB' := LB.out
              have ow : Own wr (.slice (some ⟨dg, 0, none⟩) z dcp) (C dg) := Own.kept OD.out ch (fun k hk e => hgB (by have : some dg = some k := hk; injection this with this; exact this.trans e))
              have dS : wr.cell? ⟨dg, i, none⟩ = some (.int .u8 ((C dg)[i]'(by omega))) := ow.byte i (by omega)
              obtain ⟨bv, hbv⟩ : ∃ bv, bv = (C dg)[i]'(by omega) := ⟨_, rfl⟩
              rw [← hbv] at dS
              have dB : wr.cell? ⟨B, i, none⟩ = some (.int .u8 ((over (C dg) m i)[i]'(by omega))) := by rw [Rw.cell rB i, List.getElem?_toArray, bs_get _ _ (by omega)]
              obtain ⟨ov, hov⟩ : ∃ ov, ov = (over (C dg) m i)[i]'(by omega) := ⟨_, rfl⟩
              rw [← hov] at dB
              have fB := rB.fr i
              have cc : Chg (fun i => i = B) wr (wr.setCell ⟨B, i, none⟩ (.int .u8 bv)) := (Chg.refl (fun i => i = B) wr).setCell (.inl rfl) _
              have K5 : Hid (OI w (wr.setCell ⟨B, i, none⟩ (.int .u8 bv)) B z (over (C dg) m (i + 1)) ∧ Chg (fun i => i = B) w3 (wr.setCell ⟨B, i, none⟩ (.int .u8 bv))) := by
                refine ⟨⟨ch.trans cc (fun _ e => .inl e), ?_, ?_⟩, ch3.trans cc (fun _ e => .inl e)⟩
                · have := Rw.set rB i (.int .u8 bv)
                  rw [set_bs, hbv, over_succ (by omega) (by omega)] at this
                  rw [hbv]
                  exact this
                · exact over_len LD' LB' (i + 1) (by omega)
              clear ch rB lB ch3 ow hbv hov cc hid
              go_wp2_with fail
              go_roundw
              case rel => exact ⟨i + 1, by omega, by go_num, K5.out⟩
              case measure => simp [intOf]; omega
            · have hin' : ¬ (i : Int) < (dn : Int) := by omega
              have e : i = dn := by omega
              have R : Hid (OI w wr B z (ovD C ds (dl.take (k + 1)) lb)) := by rw [HE.out, ← e]; exact ⟨ch, rB, lB⟩
              clear ch rB lB ch3 hid
              go_wp2_with fail
              go_roundw
              case rel => exact ⟨k + 1, by omega, by go_num, R.out⟩
              case measure => simp [intOf]; omega
      · have hds' : ¬ (ds : Int) = t := by omega
        have R : Hid (ovD C t (dl.take (k + 1)) lb = m) := by rw [hE.out]; unfold ov1; exact if_neg hds
        clear hdb hdt hdB ch rB
        cases tn with
        | true =>
          have k1' : wr.cell? ⟨g, k * 6 + 1, none⟩ = some (.slice none 0 0) := k1
          clear k1
          go_wp2_with fail
          go_roundw
          case rel => exact ⟨k + 1, by omega, by go_num, by rw [R.out]; exact OI0.out _⟩
          case measure => simp [intOf]; omega
        | false =>
          have k1' : wr.cell? ⟨g, k * 6 + 1, none⟩ = some (.slice (some ⟨dg, 0, none⟩) z dcp) := k1
          clear k1
          go_wp2_with fail
          go_roundw
          case rel => exact ⟨k + 1, by omega, by go_num, by rw [R.out]; exact OI0.out _⟩
          case measure => simp [intOf]; omega
    · have hkn : k = n := by omega
      subst hkn
      have R : Hid (OI w wr B z (ovD C t dl lb)) := by
        have := hid.out
        rwa [List.take_of_length_le (by have := HN.out; omega)] at this
      clear hid
      go_wp2_with fail
      go_end0
      exact ⟨rfl, R.out⟩
end
end Go.Proofs.Ytddnecfnjnipjaa
