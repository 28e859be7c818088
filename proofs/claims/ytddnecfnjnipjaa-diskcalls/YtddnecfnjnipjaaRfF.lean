/-
  The reference's Crash.
-/
import Derived.Test.YtddnecfnjnipjaaRfE
namespace Go.Proofs.Ytddnecfnjnipjaa
open Go.RowKit

/-- What outlasts of the write in place j. -/
def kpD (kl : List Bool) (torn at_ : Int) (z j : Nat) (d : Dd) : List Dd := if (j : Int) = torn then [{ d with n := (min (max at_ 0) z).toNat }] else if kl.getD j false = true then [d] else []
def crD (kl : List Bool) (torn at_ : Int) (z : Nat) (l : List Dd) : Nat → List Dd
  | 0 => []
  | k + 1 => crD kl torn at_ z l k ++ (match l[k]? with | some d => kpD kl torn at_ z k d | none => [])
theorem crD_len (kl : List Bool) (torn at_ : Int) (z : Nat) (l : List Dd) : ∀ k, (crD kl torn at_ z l k).length ≤ k
  | 0 => Nat.le_refl _
  | k + 1 => by
    have ih := crD_len kl torn at_ z l k
    have h1 : (match l[k]? with | some d => kpD kl torn at_ z k d | none => []).length ≤ 1 := by
      cases l[k]? with
      | none => exact Nat.zero_le _
      | some d => simp only [kpD]; split; exact Nat.le_refl _; split; exact Nat.le_refl _; exact Nat.zero_le _
    show (crD kl torn at_ z l k ++ _).length ≤ _
    rw [List.length_append]
    omega
theorem crD_mem (kl : List Bool) (torn at_ : Int) (z : Nat) (l : List Dd) : ∀ k, ∀ d ∈ crD kl torn at_ z l k, ∃ d0 ∈ l, d = d0 ∨ d = { d0 with n := (min (max at_ 0) z).toNat }
  | 0, d, hd => by cases hd
  | k + 1, d, hd => by
    rcases List.mem_append.1 hd with hd | hd
    · exact crD_mem kl torn at_ z l k d hd
    · cases e : l[k]? with
      | none => rw [e] at hd; cases hd
      | some d0 =>
        rw [e] at hd
        simp only [kpD] at hd
        refine ⟨d0, List.mem_of_getElem? e, ?_⟩
        split at hd
        · exact .inr (List.mem_singleton.1 hd)
        · split at hd
          · exact .inl (List.mem_singleton.1 hd)
          · cases hd

/-- While a crash goes through the cache. -/
structure CR (w wr : World) (q S z : Nat) (y : RN) (dv cv : Value) (dl' : List Dd) (dv' : Value) : Prop where
  row : Rw wr q (rrow S z dv' cv y) 52
  dn : Dl wr z dv' dl'
  ch : Chg (fun k => k = q ∨ some k = dv.ownBlock) w wr
  at_ : dv'.ownBlock = dv.ownBlock ∨ ∃ k, dv'.ownBlock = some k ∧ w.heap.size ≤ k

section
variable {w w' : World} {q S z b : Nat} {y : RN} {dl cl : List Dd} {dv cv : Value} {C : Nat → List Int}

theorem RD.vform {w : World} {z : Nat} {v : Value} {l : List Dd} (h : Dl w z v l) : ∃ a c, v = .slice a l.length c := by
  rcases owns_form h with ⟨e, h0⟩ | ⟨g, c, e⟩
  · exact ⟨_, _, by rw [e, h0]⟩
  · exact ⟨_, _, e⟩

theorem CR.alloc {wr : World} {dl' : List Dd} {dv' : Value} (h : CR w wr q S z y dv cv dl' dv') (o : Obj) : CR w (wr.alloc o) q S z y dv cv dl' dv' :=
  have k : Chg (fun _ => False) wr (wr.alloc o) := (Chg.refl _ _).alloc _
  ⟨h.row.alloc o, h.dn.chg k (fun _ _ h => h), h.ch.trans k (fun _ h => h.elim), h.at_⟩
/-- One deed more: what append and store leave. -/
theorem CR.step {wr : World} {dl' : List Dd} {dv' : Value} (h : CR w wr q S z y dv cv dl' dv') (hq : q < w.heap.size) (hdq : dv.ownBlock ≠ some q) (hb : dl'.length < 2199023255552) (d : Dd) {w3 : World} (h3 : Chg (fun _ => False) wr w3) :
    ∃ n7 a7 c7 w7, (Builtin.append_ #[49, 49] 49 #[dv', .slice (some ⟨w3.heap.size, 0, none⟩) 1 1]).run Try.prog (w3.alloc (.cells (d.cells z).toArray 110)).drew = .ok (.slice a7 n7 c7) w7 ∧ Rw w7 q (rrow S z dv' cv y) 52 ∧ (Chg (fun k => some k = dv'.ownBlock) w3 w7) ∧ CR w (w7.setCell ⟨q, 3, none⟩ (.slice a7 n7 c7)) q S z y dv cv (dl' ++ [d]) (.slice a7 n7 c7) := by
  obtain ⟨w6, hw6⟩ : ∃ w6, w6 = (w3.alloc (.cells (d.cells z).toArray 110)).drew := ⟨_, rfl⟩
  rw [← hw6]
  have c6 : Chg (fun _ => False) w3 w6 := by rw [hw6]; exact ((Chg.refl _ _).alloc _).drew
  have q6 : w6.heap[w3.heap.size]? = some (.cells (d.cells z).toArray 110 (0, 0)) := by rw [hw6]; exact heap_alloc_new _ _
  have d6 : Dl w6 z dv' dl' := (h.dn.chg h3 (fun _ _ h => h)).chg c6 (fun _ _ h => h)
  have e6 : Chg (fun _ => False) wr w6 := h3.trans c6 (fun _ h => h.elim)
  obtain ⟨v', w7, h1, h2, h4, h5⟩ := run_appR w6 49 d6 (m := [d]) ⟨w3.heap.size, 0, none⟩ 1 (fun j u hu => by
    rw [addr_add, Nat.zero_add, cell_of_row _ _ _ _ _ _ q6]
    simpa [dcs] using hu) (by simp; omega)
  obtain ⟨a7, c7, rfl⟩ := RD.vform h2
  have hd'q : dv'.ownBlock ≠ some q := fun e => by
    rcases h.at_ with e1 | ⟨k, e1, e2⟩
    · exact hdq (by rw [← e1]; exact e)
    · rw [e] at e1; injection e1 with e1; omega
  have r7 : Rw w7 q (rrow S z dv' cv y) 52 := ⟨h4.heap_some (e6.heap_some h.row.eq (fun h => h)) (fun e => hd'q e.symm)⟩
  have c8 : Chg (fun i => i = q) w7 (w7.setCell ⟨q, 3, none⟩ (.slice a7 (dl' ++ [d]).length c7)) := (Chg.refl (fun i => i = q) _).setCell (.inl rfl) _
  have h7q : (Value.slice a7 (dl' ++ [d]).length c7).ownBlock ≠ some q := fun e => by
    rcases h5 with e1 | e1
    · exact hd'q (by rw [← e1]; exact e)
    · rw [e] at e1
      injection e1 with e1
      have := e6.size
      have := h.ch.size
      omega
  refine ⟨_, a7, c7, w7, h1, r7, (c6.mono (fun _ _ h => h.elim)).trans h4 (fun _ e => .inl e), Rw.set r7 3 _, h2.chg c8 (fun k hk e => h7q (by rw [← e]; exact hk)), ?_, ?_⟩
  · refine ((h.ch.trans e6 (fun _ h => h.elim)).trans h4 (fun i e => ?_)).trans c8 (fun _ e => .inl (.inl e))
    rcases h.at_ with e1 | ⟨k, e1, e2⟩
    · exact .inl (.inr (by rw [← e1]; exact e))
    · rw [← e] at e1; injection e1 with e1; exact .inr (by omega)
  · rcases h5 with e1 | e1
    · rw [e1]; exact h.at_
    · exact .inr ⟨_, e1, Nat.le_trans h.ch.size e6.size⟩

def crN (y : RN) : RN := { y with fused := false, off := false, era := wrap64 (y.era + 1) }

set_option maxRecDepth 100000 in
set_option maxHeartbeats 8000000 in
theorem RD.crash (h : RD w q S z b y dl cl dv cv C) (hb : b < 2199023255552) (hz : z ≤ 4096) {a : Option Addr} {N cN : Nat} {kl : List Bool} (hk : KB w a N kl) (hka : ∀ g o, 0 < N → a = some ⟨g, o, none⟩ → g ≠ q ∧ dv.ownBlock ≠ some g) (torn at_ : Int) :
    Calls Try.prog 30 #[.pointer (some ⟨q, 0, none⟩), .slice a N cN, .int .i64 torn, .int .i64 at_] w fun e w' => e = .returned (.tuple #[]) ∧ Chg (fun g => g = q ∨ some g = dv.ownBlock) w w' ∧
      ∃ dv', RD w' q S z b (crN y) (dl ++ crD kl torn at_ z cl cl.length) [] dv' (.slice none 0 0) C ∧ (dv'.ownBlock = dv.ownBlock ∨ ∃ k, dv'.ownBlock = some k ∧ w.heap.size ≤ k) := by
  have H : Hid _ := h
  have hlb := h.len
  have HK : Hid _ := hk
  have HKA : Hid _ := hka
  obtain ⟨n, hn⟩ : ∃ n, n = cl.length := ⟨_, rfl⟩
  obtain ⟨ca, cc, hcv⟩ := RD.vform h.cn
  rw [← hn] at hcv
  have HN : Hid _ := hn
  have HV : Hid _ := hcv
  have hNb : N ≤ 9223372036854775807 := hk.small
  have hnb : n < 2199023255552 := by omega
  clear h hn hcv hk hka
  go_enter Try.func30, Try.ntmps30
  go_wp2_with fail
  go_loopw [8] (fun i wr => ∃ k : Nat, k ≤ n ∧ i = .int .i64 k ∧ Hid (∃ dv', CR w wr q S z y dv cv (dl ++ crD kl torn at_ z cl k) dv')) (fun i _ => n - (intOf i).toNat)
  case atStart => exact ⟨0, Nat.zero_le _, rfl, dv, H.out.row, by show Dl w z dv (dl ++ []); rw [List.append_nil]; exact H.out.dn, Chg.refl _ _, .inl rfl⟩
  case round =>
    obtain ⟨k, hk, rfl, hid⟩ := hrel
    obtain ⟨dv', hcr⟩ := hid.out
    clear hid
    have c4 : wr.cell? ⟨q, 4, none⟩ = some (.slice ca n cc) := by rw [← HV.out]; exact hcr.row.cell 4
    have c1 : wr.cell? ⟨q, 1, none⟩ = some (.int .i64 z) := hcr.row.cell 1
    have c3 : wr.cell? ⟨q, 3, none⟩ = some dv' := hcr.row.cell 3
    have CRh : Hid _ := hcr
    have hqw : q < wr.heap.size := hcr.row.lt
    by_cases hlt : k < n
    · obtain ⟨d, hd⟩ : ∃ d, cl[k]? = some d := ⟨cl[k]'(by have := HN.out; omega), List.getElem?_eq_getElem _⟩
      obtain ⟨g, c, e, hcl⟩ := H.out.cn.cell hd
      rw [HV.out] at e
      injection e with e1 e2 e3
      subst e1
      have hdm := H.out.cb d (List.mem_of_getElem? hd)
      have hkc : ∀ j u, (d.cells z)[j]? = some u → wr.cell? ⟨g, k * 6 + j, none⟩ = some u := fun j u hu => hcr.ch.cell_some (hcl j u hu) (fun e => by
        have ho : cv.ownBlock = some g := by rw [HV.out]; rfl
        rcases e with e | e
        · exact H.out.cq (ho.trans (congrArg some e))
        · exact H.out.dc g e.symm ho)
      obtain ⟨ds, dg, dcp, dn, dt, da, dm⟩ := d
      obtain ⟨rfl, rfl, _, _⟩ := hdm
      simp only [Dd.cells, Dd.bv] at hkc
      have k0 : wr.cell? ⟨g, k * 6, none⟩ = some (.int .i64 ds) := hkc 0 _ rfl
      have k1 : wr.cell? ⟨g, k * 6 + 1, none⟩ = some (.slice (some ⟨dg, 0, none⟩) dn dcp) := hkc 1 _ rfl
      have k2 : wr.cell? ⟨g, k * 6 + 2, none⟩ = some (.int .i64 dn) := hkc 2 _ rfl
      have k3 : wr.cell? ⟨g, k * 6 + 3, none⟩ = some (.bool false) := hkc 3 _ rfl
      have k4 : wr.cell? ⟨g, k * 6 + 4, none⟩ = some (.int .i64 da) := hkc 4 _ rfl
      have k5 : wr.cell? ⟨g, k * 6 + 5, none⟩ = some (.int .u8 dm) := hkc 5 _ rfl
      have c1' : ∀ o, (wr.alloc o).cell? ⟨q, 1, none⟩ = some (.int .i64 dn) := fun o => (CRh.out.row.alloc o).cell 1
      clear hkc hcl hcr c1
      by_cases ht : (k : Int) = torn
      · subst ht
        by_cases ha0 : at_ < 0
        · have E : Hid (crD kl k at_ dn cl (k + 1) = crD kl k at_ dn cl k ++ [⟨ds, dg, dcp, 0, false, da, dm⟩]) := by
            show _ ++ _ = _
            rw [hd]
            simp only [kpD, if_true]
            rw [show (min (max at_ 0) (dn : Int)).toNat = 0 by omega]
          clear hd
          obtain ⟨n7, a7, c7, w7, ha, r7, kk7, cr8⟩ := CRh.out.step H.out.row.lt H.out.dq (by rw [List.length_append]; exact Nat.lt_of_le_of_lt (Nat.add_le_add_left (crD_len _ _ _ _ _ _) _) (by have := HN.out; omega)) (⟨ds, dg, dcp, 0, false, da, dm⟩ : Dd) (w3 := wr.alloc (.cells #[.int .i64 ds, .slice (some ⟨dg, 0, none⟩) dn dcp, .int .i64 0, .bool false, .int .i64 da, .int .u8 dm] 110)) ((Chg.refl _ _).alloc _)
          have hXd : dv'.ownBlock ≠ some wr.heap.size := fun e => by have := CRh.out.dn.lt e; omega
          have HA : Hid _ := ha
          have R7 : Hid _ := r7
          have CR8 : Hid _ := cr8
          have hX3 : (wr.alloc (.cells #[.int .i64 ds, .slice (some ⟨dg, 0, none⟩) dn dcp, .int .i64 0, .bool false, .int .i64 da, .int .u8 dm] 110)).heap[wr.heap.size]? = some (.cells #[.int .i64 ds, .slice (some ⟨dg, 0, none⟩) dn dcp, .int .i64 0, .bool false, .int .i64 da, .int .u8 dm] 110 (0, 0)) := heap_alloc_new _ _
          have hX7 : w7.heap[wr.heap.size]? = some (.cells #[.int .i64 ds, .slice (some ⟨dg, 0, none⟩) dn dcp, .int .i64 0, .bool false, .int .i64 da, .int .u8 dm] 110 (0, 0)) := kk7.heap_some hX3 (fun e => hXd e.symm)
          have hX8 : (w7.setCell ⟨q, 3, none⟩ (.slice a7 n7 c7)).heap[wr.heap.size]? = some (.cells #[.int .i64 ds, .slice (some ⟨dg, 0, none⟩) dn dcp, .int .i64 0, .bool false, .int .i64 da, .int .u8 dm] 110 (0, 0)) := ((Chg.refl (fun i => i = q) w7).setCell (.inl rfl) _).heap_some hX7 (fun e => by omega)
          have c3' : ∀ o, (wr.alloc o).cell? ⟨q, 3, none⟩ = some dv' := fun o => (CRh.out.row.alloc o).cell 3
          clear ha r7 kk7 cr8 c3
          go_upto_region 10 with fail
          refine wp_region_noPanic ?_
          refine wp_region_held_drew (S := fun w' => w'.heap[wr.heap.size]? = some (.cells #[.int .i64 ds, .slice (some ⟨dg, 0, none⟩) dn dcp, .int .i64 0, .bool false, .int .i64 da, .int .u8 dm] 110 (0, 0))) (by kernel_rfl) hX3 (fun hH => ?_)
          refine wpAnyH_take (i := 0) (v := .pointer (some ⟨q, 0, none⟩)) rfl (by kernel_rfl) (by kernel_rfl) (by kernel_rfl) (fun _ _ _ h => h) (Or.inl ⟨by rfl, fun w' hw' => by go_simp⟩) hH ?_
          refine wpAnyH_take (i := 1) (v := .pointer (some ⟨q, 0, none⟩)) rfl (by kernel_rfl) (by kernel_rfl) (by kernel_rfl) (fun _ _ _ h => h) (Or.inl ⟨by rfl, fun w' hw' => by go_simp⟩) hH ?_
          refine wpAnyH_take (i := 2) (v := .pointer (some ⟨q, 0, none⟩)) rfl (by kernel_rfl) (by kernel_rfl) (by kernel_rfl) (fun _ _ _ h => h) (Or.inl ⟨by rfl, fun w' hw' => by go_simp⟩) hH ?_
          refine wpAnyH_take (i := 3) (v := .pointer (some ⟨q, 3, none⟩)) rfl (by kernel_rfl) (by kernel_rfl) (by kernel_rfl) (fun _ _ _ h => h) (Or.inl ⟨by rfl, fun w' hw' => by go_simp⟩) hH ?_
          refine wpAnyH_take (i := 5) (v := .agg #[.int .i64 ds, .slice (some ⟨dg, 0, none⟩) dn dcp, .int .i64 0, .bool false, .int .i64 da, .int .u8 dm]) rfl (by kernel_rfl) (by kernel_rfl) (by kernel_rfl) (fun _ _ _ h => h) (Or.inl ⟨by rfl, fun w' hw' => by have q0 : w'.cell? ⟨wr.heap.size, 0, none⟩ = some (.int .i64 ds) := cell_of_row _ _ _ _ _ _ hw'; have q1 : w'.cell? ⟨wr.heap.size, 1, none⟩ = some (.slice (some ⟨dg, 0, none⟩) dn dcp) := cell_of_row _ _ _ _ _ _ hw'; have q2 : w'.cell? ⟨wr.heap.size, 2, none⟩ = some (.int .i64 0) := cell_of_row _ _ _ _ _ _ hw'; have q3 : w'.cell? ⟨wr.heap.size, 3, none⟩ = some (.bool false) := cell_of_row _ _ _ _ _ _ hw'; have q4 : w'.cell? ⟨wr.heap.size, 4, none⟩ = some (.int .i64 da) := cell_of_row _ _ _ _ _ _ hw'; have q5 : w'.cell? ⟨wr.heap.size, 5, none⟩ = some (.int .u8 dm) := cell_of_row _ _ _ _ _ _ hw'; go_simp⟩) hH ?_
          refine wpAnyH_ready (rs := [4, 6]) (by kernel_rfl) (by simp) ?_
          refine AllReadyH.cons rfl (fun KK hKK => ?_) (AllReadyH.cons rfl (fun KK hKK => ?_) AllReadyH.nil)
          · go_simp
            refine hKK.out _ _ hH (fun h1 => ?_)
            clear hKK KK
            refine wpAnyH_ready (rs := [6]) (by kernel_rfl) (by simp) ?_
            refine AllReadyH.cons rfl (fun KK hKK => ?_) AllReadyH.nil
            go_simp
            have HA2 := HA.out
            obtain ⟨w6, hw6⟩ : ∃ w6, w6 = ((wr.alloc (.cells #[.int .i64 ds, .slice (some ⟨dg, 0, none⟩) dn dcp, .int .i64 0, .bool false, .int .i64 da, .int .u8 dm] 110)).alloc (.cells #[.int .i64 ds, .slice (some ⟨dg, 0, none⟩) dn dcp, .int .i64 0, .bool false, .int .i64 da, .int .u8 dm] 110)).drew := ⟨_, rfl⟩
            have HA3 : Hid ((Builtin.append_ #[49, 49] 49 #[dv', .slice (some ⟨wr.heap.size + 1, 0, none⟩) 1 1]).run Try.prog w6 = .ok (.slice a7 n7 c7) w7) := by
              rw [hw6]
              have e : (wr.alloc (.cells #[.int .i64 ds, .slice (some ⟨dg, 0, none⟩) dn dcp, .int .i64 0, .bool false, .int .i64 da, .int .u8 dm] 110)).heap.size = wr.heap.size + 1 := by simp
              rw [← e]
              exact HA2
            have X6 : w6.heap[wr.heap.size]? = some (.cells #[.int .i64 ds, .slice (some ⟨dg, 0, none⟩) dn dcp, .int .i64 0, .bool false, .int .i64 da, .int .u8 dm] 110 (0, 0)) := by rw [hw6]; exact (((Chg.refl (fun _ => False) _).alloc _).drew).heap_some hX3 (fun h => h)
            have k6 : w6.cell? ⟨q, 3, none⟩ = some dv' := by rw [hw6]; exact ((CRh.out.row.alloc _).alloc _).cell 3
            rw [← hw6]
            clear hw6 HA2
            refine hKK.out _ _ X6 (fun h2 => ?_)
            clear hKK KK
            refine wpAnyH_ready (rs := [7]) (by kernel_rfl) (by simp) ?_
            refine AllReadyH.cons rfl (fun KK hKK => ?_) AllReadyH.nil
            refine step_appR rfl (.tmp 49) (.tmp 51) rfl (v := dv') (u := .slice (some ⟨wr.heap.size + 1, 0, none⟩) 1 1) (by kernel_rfl) (by kernel_rfl) HA3.out ?_
            refine hKK.out _ _ hX7 (fun h3 => ?_)
            clear hKK KK
            refine wpAnyH_take (i := 8) (v := .pointer (some ⟨q, 0, none⟩)) rfl (by kernel_rfl) (by kernel_rfl) (by kernel_rfl) (fun _ _ _ h => h) (Or.inl ⟨by rfl, fun w' hw' => by go_simp⟩) hX7 ?_
            refine wpAnyH_take (i := 9) (v := .pointer (some ⟨q, 3, none⟩)) rfl (by kernel_rfl) (by kernel_rfl) (by kernel_rfl) (fun _ _ _ h => h) (Or.inl ⟨by rfl, fun w' hw' => by go_simp⟩) hX7 ?_
            have k73 : w7.cell? ⟨q, 3, none⟩ = some dv' := R7.out.cell 3
            have f73 := R7.out.fr 3
            refine wpAnyH_ready (rs := [10]) (by kernel_rfl) (by simp) ?_
            refine AllReadyH.cons rfl (fun KK hKK => ?_) AllReadyH.nil
            go_simp
            refine hKK.out _ _ hX8 (fun _ => ?_)
            clear hKK KK
            refine wpAnyH_done (by kernel_rfl) (NoPanic.normal ?_) _
            clear k73 f73 h3 k6 X6 h2 hX3 hX7 hX8 HA3
            go_wp2_with fail
            go_roundw
            case rel => exact ⟨k + 1, by omega, by go_num, _, by rw [E.out, ← List.append_assoc]; exact CR8.out⟩
            case measure => simp [intOf]; omega
          · go_simp
            have HA2 := HA.out
            obtain ⟨w6, hw6⟩ : ∃ w6, w6 = ((wr.alloc (.cells #[.int .i64 ds, .slice (some ⟨dg, 0, none⟩) dn dcp, .int .i64 0, .bool false, .int .i64 da, .int .u8 dm] 110)).alloc (.cells #[.int .i64 ds, .slice (some ⟨dg, 0, none⟩) dn dcp, .int .i64 0, .bool false, .int .i64 da, .int .u8 dm] 110)).drew := ⟨_, rfl⟩
            have HA3 : Hid ((Builtin.append_ #[49, 49] 49 #[dv', .slice (some ⟨wr.heap.size + 1, 0, none⟩) 1 1]).run Try.prog w6 = .ok (.slice a7 n7 c7) w7) := by
              rw [hw6]
              have e : (wr.alloc (.cells #[.int .i64 ds, .slice (some ⟨dg, 0, none⟩) dn dcp, .int .i64 0, .bool false, .int .i64 da, .int .u8 dm] 110)).heap.size = wr.heap.size + 1 := by simp
              rw [← e]
              exact HA2
            have X6 : w6.heap[wr.heap.size]? = some (.cells #[.int .i64 ds, .slice (some ⟨dg, 0, none⟩) dn dcp, .int .i64 0, .bool false, .int .i64 da, .int .u8 dm] 110 (0, 0)) := by rw [hw6]; exact (((Chg.refl (fun _ => False) _).alloc _).drew).heap_some hX3 (fun h => h)
            have k6 : w6.cell? ⟨q, 3, none⟩ = some dv' := by rw [hw6]; exact ((CRh.out.row.alloc _).alloc _).cell 3
            rw [← hw6]
            clear hw6 HA2
            refine hKK.out _ _ X6 (fun h2 => ?_)
            clear hKK KK
            refine wpAnyH_ready (rs := [4]) (by kernel_rfl) (by simp) ?_
            refine AllReadyH.cons rfl (fun KK hKK => ?_) AllReadyH.nil
            go_simp
            refine hKK.out _ _ X6 (fun h2 => ?_)
            clear hKK KK
            refine wpAnyH_ready (rs := [7]) (by kernel_rfl) (by simp) ?_
            refine AllReadyH.cons rfl (fun KK hKK => ?_) AllReadyH.nil
            refine step_appR rfl (.tmp 49) (.tmp 51) rfl (v := dv') (u := .slice (some ⟨wr.heap.size + 1, 0, none⟩) 1 1) (by kernel_rfl) (by kernel_rfl) HA3.out ?_
            refine hKK.out _ _ hX7 (fun h3 => ?_)
            clear hKK KK
            refine wpAnyH_take (i := 8) (v := .pointer (some ⟨q, 0, none⟩)) rfl (by kernel_rfl) (by kernel_rfl) (by kernel_rfl) (fun _ _ _ h => h) (Or.inl ⟨by rfl, fun w' hw' => by go_simp⟩) hX7 ?_
            refine wpAnyH_take (i := 9) (v := .pointer (some ⟨q, 3, none⟩)) rfl (by kernel_rfl) (by kernel_rfl) (by kernel_rfl) (fun _ _ _ h => h) (Or.inl ⟨by rfl, fun w' hw' => by go_simp⟩) hX7 ?_
            have k73 : w7.cell? ⟨q, 3, none⟩ = some dv' := R7.out.cell 3
            have f73 := R7.out.fr 3
            refine wpAnyH_ready (rs := [10]) (by kernel_rfl) (by simp) ?_
            refine AllReadyH.cons rfl (fun KK hKK => ?_) AllReadyH.nil
            go_simp
            refine hKK.out _ _ hX8 (fun _ => ?_)
            clear hKK KK
            refine wpAnyH_done (by kernel_rfl) (NoPanic.normal ?_) _
            clear k73 f73 h3 k6 X6 h2 hX3 hX7 hX8 HA3
            go_wp2_with fail
            go_roundw
            case rel => exact ⟨k + 1, by omega, by go_num, _, by rw [E.out, ← List.append_assoc]; exact CR8.out⟩
            case measure => simp [intOf]; omega
        · by_cases haz : at_ > (dn : Int)
          · have E : Hid (crD kl k at_ dn cl (k + 1) = crD kl k at_ dn cl k ++ [⟨ds, dg, dcp, dn, false, da, dm⟩]) := by
              show _ ++ _ = _
              rw [hd]
              simp only [kpD, if_true]
              rw [show (min (max at_ 0) (dn : Int)).toNat = dn by omega]
            clear hd
            obtain ⟨n7, a7, c7, w7, ha, r7, kk7, cr8⟩ := CRh.out.step H.out.row.lt H.out.dq (by rw [List.length_append]; exact Nat.lt_of_le_of_lt (Nat.add_le_add_left (crD_len _ _ _ _ _ _) _) (by have := HN.out; omega)) (⟨ds, dg, dcp, dn, false, da, dm⟩ : Dd) (w3 := wr.alloc (.cells #[.int .i64 ds, .slice (some ⟨dg, 0, none⟩) dn dcp, .int .i64 dn, .bool false, .int .i64 da, .int .u8 dm] 110)) ((Chg.refl _ _).alloc _)
            have hXd : dv'.ownBlock ≠ some wr.heap.size := fun e => by have := CRh.out.dn.lt e; omega
            have HA : Hid _ := ha
            have R7 : Hid _ := r7
            have CR8 : Hid _ := cr8
            have hX3 : (wr.alloc (.cells #[.int .i64 ds, .slice (some ⟨dg, 0, none⟩) dn dcp, .int .i64 dn, .bool false, .int .i64 da, .int .u8 dm] 110)).heap[wr.heap.size]? = some (.cells #[.int .i64 ds, .slice (some ⟨dg, 0, none⟩) dn dcp, .int .i64 dn, .bool false, .int .i64 da, .int .u8 dm] 110 (0, 0)) := heap_alloc_new _ _
            have hX7 : w7.heap[wr.heap.size]? = some (.cells #[.int .i64 ds, .slice (some ⟨dg, 0, none⟩) dn dcp, .int .i64 dn, .bool false, .int .i64 da, .int .u8 dm] 110 (0, 0)) := kk7.heap_some hX3 (fun e => hXd e.symm)
            have hX8 : (w7.setCell ⟨q, 3, none⟩ (.slice a7 n7 c7)).heap[wr.heap.size]? = some (.cells #[.int .i64 ds, .slice (some ⟨dg, 0, none⟩) dn dcp, .int .i64 dn, .bool false, .int .i64 da, .int .u8 dm] 110 (0, 0)) := ((Chg.refl (fun i => i = q) w7).setCell (.inl rfl) _).heap_some hX7 (fun e => by omega)
            have c3' : ∀ o, (wr.alloc o).cell? ⟨q, 3, none⟩ = some dv' := fun o => (CRh.out.row.alloc o).cell 3
            clear ha r7 kk7 cr8 c3
            go_upto_region 10 with fail
            refine wp_region_noPanic ?_
            refine wp_region_held_drew (S := fun w' => w'.heap[wr.heap.size]? = some (.cells #[.int .i64 ds, .slice (some ⟨dg, 0, none⟩) dn dcp, .int .i64 dn, .bool false, .int .i64 da, .int .u8 dm] 110 (0, 0))) (by kernel_rfl) hX3 (fun hH => ?_)
            refine wpAnyH_take (i := 0) (v := .pointer (some ⟨q, 0, none⟩)) rfl (by kernel_rfl) (by kernel_rfl) (by kernel_rfl) (fun _ _ _ h => h) (Or.inl ⟨by rfl, fun w' hw' => by go_simp⟩) hH ?_
            refine wpAnyH_take (i := 1) (v := .pointer (some ⟨q, 0, none⟩)) rfl (by kernel_rfl) (by kernel_rfl) (by kernel_rfl) (fun _ _ _ h => h) (Or.inl ⟨by rfl, fun w' hw' => by go_simp⟩) hH ?_
            refine wpAnyH_take (i := 2) (v := .pointer (some ⟨q, 0, none⟩)) rfl (by kernel_rfl) (by kernel_rfl) (by kernel_rfl) (fun _ _ _ h => h) (Or.inl ⟨by rfl, fun w' hw' => by go_simp⟩) hH ?_
            refine wpAnyH_take (i := 3) (v := .pointer (some ⟨q, 3, none⟩)) rfl (by kernel_rfl) (by kernel_rfl) (by kernel_rfl) (fun _ _ _ h => h) (Or.inl ⟨by rfl, fun w' hw' => by go_simp⟩) hH ?_
            refine wpAnyH_take (i := 5) (v := .agg #[.int .i64 ds, .slice (some ⟨dg, 0, none⟩) dn dcp, .int .i64 dn, .bool false, .int .i64 da, .int .u8 dm]) rfl (by kernel_rfl) (by kernel_rfl) (by kernel_rfl) (fun _ _ _ h => h) (Or.inl ⟨by rfl, fun w' hw' => by have q0 : w'.cell? ⟨wr.heap.size, 0, none⟩ = some (.int .i64 ds) := cell_of_row _ _ _ _ _ _ hw'; have q1 : w'.cell? ⟨wr.heap.size, 1, none⟩ = some (.slice (some ⟨dg, 0, none⟩) dn dcp) := cell_of_row _ _ _ _ _ _ hw'; have q2 : w'.cell? ⟨wr.heap.size, 2, none⟩ = some (.int .i64 dn) := cell_of_row _ _ _ _ _ _ hw'; have q3 : w'.cell? ⟨wr.heap.size, 3, none⟩ = some (.bool false) := cell_of_row _ _ _ _ _ _ hw'; have q4 : w'.cell? ⟨wr.heap.size, 4, none⟩ = some (.int .i64 da) := cell_of_row _ _ _ _ _ _ hw'; have q5 : w'.cell? ⟨wr.heap.size, 5, none⟩ = some (.int .u8 dm) := cell_of_row _ _ _ _ _ _ hw'; go_simp⟩) hH ?_
            refine wpAnyH_ready (rs := [4, 6]) (by kernel_rfl) (by simp) ?_
            refine AllReadyH.cons rfl (fun KK hKK => ?_) (AllReadyH.cons rfl (fun KK hKK => ?_) AllReadyH.nil)
            · go_simp
              refine hKK.out _ _ hH (fun h1 => ?_)
              clear hKK KK
              refine wpAnyH_ready (rs := [6]) (by kernel_rfl) (by simp) ?_
              refine AllReadyH.cons rfl (fun KK hKK => ?_) AllReadyH.nil
              go_simp
              have HA2 := HA.out
              obtain ⟨w6, hw6⟩ : ∃ w6, w6 = ((wr.alloc (.cells #[.int .i64 ds, .slice (some ⟨dg, 0, none⟩) dn dcp, .int .i64 dn, .bool false, .int .i64 da, .int .u8 dm] 110)).alloc (.cells #[.int .i64 ds, .slice (some ⟨dg, 0, none⟩) dn dcp, .int .i64 dn, .bool false, .int .i64 da, .int .u8 dm] 110)).drew := ⟨_, rfl⟩
              have HA3 : Hid ((Builtin.append_ #[49, 49] 49 #[dv', .slice (some ⟨wr.heap.size + 1, 0, none⟩) 1 1]).run Try.prog w6 = .ok (.slice a7 n7 c7) w7) := by
                rw [hw6]
                have e : (wr.alloc (.cells #[.int .i64 ds, .slice (some ⟨dg, 0, none⟩) dn dcp, .int .i64 dn, .bool false, .int .i64 da, .int .u8 dm] 110)).heap.size = wr.heap.size + 1 := by simp
                rw [← e]
                exact HA2
              have X6 : w6.heap[wr.heap.size]? = some (.cells #[.int .i64 ds, .slice (some ⟨dg, 0, none⟩) dn dcp, .int .i64 dn, .bool false, .int .i64 da, .int .u8 dm] 110 (0, 0)) := by rw [hw6]; exact (((Chg.refl (fun _ => False) _).alloc _).drew).heap_some hX3 (fun h => h)
              have k6 : w6.cell? ⟨q, 3, none⟩ = some dv' := by rw [hw6]; exact ((CRh.out.row.alloc _).alloc _).cell 3
              rw [← hw6]
              clear hw6 HA2
              refine hKK.out _ _ X6 (fun h2 => ?_)
              clear hKK KK
              refine wpAnyH_ready (rs := [7]) (by kernel_rfl) (by simp) ?_
              refine AllReadyH.cons rfl (fun KK hKK => ?_) AllReadyH.nil
              refine step_appR rfl (.tmp 49) (.tmp 51) rfl (v := dv') (u := .slice (some ⟨wr.heap.size + 1, 0, none⟩) 1 1) (by kernel_rfl) (by kernel_rfl) HA3.out ?_
              refine hKK.out _ _ hX7 (fun h3 => ?_)
              clear hKK KK
              refine wpAnyH_take (i := 8) (v := .pointer (some ⟨q, 0, none⟩)) rfl (by kernel_rfl) (by kernel_rfl) (by kernel_rfl) (fun _ _ _ h => h) (Or.inl ⟨by rfl, fun w' hw' => by go_simp⟩) hX7 ?_
              refine wpAnyH_take (i := 9) (v := .pointer (some ⟨q, 3, none⟩)) rfl (by kernel_rfl) (by kernel_rfl) (by kernel_rfl) (fun _ _ _ h => h) (Or.inl ⟨by rfl, fun w' hw' => by go_simp⟩) hX7 ?_
              have k73 : w7.cell? ⟨q, 3, none⟩ = some dv' := R7.out.cell 3
              have f73 := R7.out.fr 3
              refine wpAnyH_ready (rs := [10]) (by kernel_rfl) (by simp) ?_
              refine AllReadyH.cons rfl (fun KK hKK => ?_) AllReadyH.nil
              go_simp
              refine hKK.out _ _ hX8 (fun _ => ?_)
              clear hKK KK
              refine wpAnyH_done (by kernel_rfl) (NoPanic.normal ?_) _
              clear k73 f73 h3 k6 X6 h2 hX3 hX7 hX8 HA3
              go_wp2_with fail
              go_roundw
              case rel => exact ⟨k + 1, by omega, by go_num, _, by rw [E.out, ← List.append_assoc]; exact CR8.out⟩
              case measure => simp [intOf]; omega
            · go_simp
              have HA2 := HA.out
              obtain ⟨w6, hw6⟩ : ∃ w6, w6 = ((wr.alloc (.cells #[.int .i64 ds, .slice (some ⟨dg, 0, none⟩) dn dcp, .int .i64 dn, .bool false, .int .i64 da, .int .u8 dm] 110)).alloc (.cells #[.int .i64 ds, .slice (some ⟨dg, 0, none⟩) dn dcp, .int .i64 dn, .bool false, .int .i64 da, .int .u8 dm] 110)).drew := ⟨_, rfl⟩
              have HA3 : Hid ((Builtin.append_ #[49, 49] 49 #[dv', .slice (some ⟨wr.heap.size + 1, 0, none⟩) 1 1]).run Try.prog w6 = .ok (.slice a7 n7 c7) w7) := by
                rw [hw6]
                have e : (wr.alloc (.cells #[.int .i64 ds, .slice (some ⟨dg, 0, none⟩) dn dcp, .int .i64 dn, .bool false, .int .i64 da, .int .u8 dm] 110)).heap.size = wr.heap.size + 1 := by simp
                rw [← e]
                exact HA2
              have X6 : w6.heap[wr.heap.size]? = some (.cells #[.int .i64 ds, .slice (some ⟨dg, 0, none⟩) dn dcp, .int .i64 dn, .bool false, .int .i64 da, .int .u8 dm] 110 (0, 0)) := by rw [hw6]; exact (((Chg.refl (fun _ => False) _).alloc _).drew).heap_some hX3 (fun h => h)
              have k6 : w6.cell? ⟨q, 3, none⟩ = some dv' := by rw [hw6]; exact ((CRh.out.row.alloc _).alloc _).cell 3
              rw [← hw6]
              clear hw6 HA2
              refine hKK.out _ _ X6 (fun h2 => ?_)
              clear hKK KK
              refine wpAnyH_ready (rs := [4]) (by kernel_rfl) (by simp) ?_
              refine AllReadyH.cons rfl (fun KK hKK => ?_) AllReadyH.nil
              go_simp
              refine hKK.out _ _ X6 (fun h2 => ?_)
              clear hKK KK
              refine wpAnyH_ready (rs := [7]) (by kernel_rfl) (by simp) ?_
              refine AllReadyH.cons rfl (fun KK hKK => ?_) AllReadyH.nil
              refine step_appR rfl (.tmp 49) (.tmp 51) rfl (v := dv') (u := .slice (some ⟨wr.heap.size + 1, 0, none⟩) 1 1) (by kernel_rfl) (by kernel_rfl) HA3.out ?_
              refine hKK.out _ _ hX7 (fun h3 => ?_)
              clear hKK KK
              refine wpAnyH_take (i := 8) (v := .pointer (some ⟨q, 0, none⟩)) rfl (by kernel_rfl) (by kernel_rfl) (by kernel_rfl) (fun _ _ _ h => h) (Or.inl ⟨by rfl, fun w' hw' => by go_simp⟩) hX7 ?_
              refine wpAnyH_take (i := 9) (v := .pointer (some ⟨q, 3, none⟩)) rfl (by kernel_rfl) (by kernel_rfl) (by kernel_rfl) (fun _ _ _ h => h) (Or.inl ⟨by rfl, fun w' hw' => by go_simp⟩) hX7 ?_
              have k73 : w7.cell? ⟨q, 3, none⟩ = some dv' := R7.out.cell 3
              have f73 := R7.out.fr 3
              refine wpAnyH_ready (rs := [10]) (by kernel_rfl) (by simp) ?_
              refine AllReadyH.cons rfl (fun KK hKK => ?_) AllReadyH.nil
              go_simp
              refine hKK.out _ _ hX8 (fun _ => ?_)
              clear hKK KK
              refine wpAnyH_done (by kernel_rfl) (NoPanic.normal ?_) _
              clear k73 f73 h3 k6 X6 h2 hX3 hX7 hX8 HA3
              go_wp2_with fail
              go_roundw
              case rel => exact ⟨k + 1, by omega, by go_num, _, by rw [E.out, ← List.append_assoc]; exact CR8.out⟩
              case measure => simp [intOf]; omega
          · obtain ⟨A, rfl⟩ : ∃ A : Nat, at_ = A := ⟨at_.toNat, by omega⟩
            have E : Hid (crD kl k A dn cl (k + 1) = crD kl k A dn cl k ++ [⟨ds, dg, dcp, A, false, da, dm⟩]) := by
              show _ ++ _ = _
              rw [hd]
              simp only [kpD, if_true]
              rw [show (min (max (A : Int) 0) (dn : Int)).toNat = A by omega]
            clear hd
            obtain ⟨n7, a7, c7, w7, ha, r7, kk7, cr8⟩ := CRh.out.step H.out.row.lt H.out.dq (by rw [List.length_append]; exact Nat.lt_of_le_of_lt (Nat.add_le_add_left (crD_len _ _ _ _ _ _) _) (by have := HN.out; omega)) (⟨ds, dg, dcp, A, false, da, dm⟩ : Dd) (w3 := wr.alloc (.cells #[.int .i64 ds, .slice (some ⟨dg, 0, none⟩) dn dcp, .int .i64 A, .bool false, .int .i64 da, .int .u8 dm] 110)) ((Chg.refl _ _).alloc _)
            have hXd : dv'.ownBlock ≠ some wr.heap.size := fun e => by have := CRh.out.dn.lt e; omega
            have HA : Hid _ := ha
            have R7 : Hid _ := r7
            have CR8 : Hid _ := cr8
            have hX3 : (wr.alloc (.cells #[.int .i64 ds, .slice (some ⟨dg, 0, none⟩) dn dcp, .int .i64 A, .bool false, .int .i64 da, .int .u8 dm] 110)).heap[wr.heap.size]? = some (.cells #[.int .i64 ds, .slice (some ⟨dg, 0, none⟩) dn dcp, .int .i64 A, .bool false, .int .i64 da, .int .u8 dm] 110 (0, 0)) := heap_alloc_new _ _
            have hX7 : w7.heap[wr.heap.size]? = some (.cells #[.int .i64 ds, .slice (some ⟨dg, 0, none⟩) dn dcp, .int .i64 A, .bool false, .int .i64 da, .int .u8 dm] 110 (0, 0)) := kk7.heap_some hX3 (fun e => hXd e.symm)
            have hX8 : (w7.setCell ⟨q, 3, none⟩ (.slice a7 n7 c7)).heap[wr.heap.size]? = some (.cells #[.int .i64 ds, .slice (some ⟨dg, 0, none⟩) dn dcp, .int .i64 A, .bool false, .int .i64 da, .int .u8 dm] 110 (0, 0)) := ((Chg.refl (fun i => i = q) w7).setCell (.inl rfl) _).heap_some hX7 (fun e => by omega)
            have c3' : ∀ o, (wr.alloc o).cell? ⟨q, 3, none⟩ = some dv' := fun o => (CRh.out.row.alloc o).cell 3
            clear ha r7 kk7 cr8 c3
            go_upto_region 10 with fail
            refine wp_region_noPanic ?_
            refine wp_region_held_drew (S := fun w' => w'.heap[wr.heap.size]? = some (.cells #[.int .i64 ds, .slice (some ⟨dg, 0, none⟩) dn dcp, .int .i64 A, .bool false, .int .i64 da, .int .u8 dm] 110 (0, 0))) (by kernel_rfl) hX3 (fun hH => ?_)
            refine wpAnyH_take (i := 0) (v := .pointer (some ⟨q, 0, none⟩)) rfl (by kernel_rfl) (by kernel_rfl) (by kernel_rfl) (fun _ _ _ h => h) (Or.inl ⟨by rfl, fun w' hw' => by go_simp⟩) hH ?_
            refine wpAnyH_take (i := 1) (v := .pointer (some ⟨q, 0, none⟩)) rfl (by kernel_rfl) (by kernel_rfl) (by kernel_rfl) (fun _ _ _ h => h) (Or.inl ⟨by rfl, fun w' hw' => by go_simp⟩) hH ?_
            refine wpAnyH_take (i := 2) (v := .pointer (some ⟨q, 0, none⟩)) rfl (by kernel_rfl) (by kernel_rfl) (by kernel_rfl) (fun _ _ _ h => h) (Or.inl ⟨by rfl, fun w' hw' => by go_simp⟩) hH ?_
            refine wpAnyH_take (i := 3) (v := .pointer (some ⟨q, 3, none⟩)) rfl (by kernel_rfl) (by kernel_rfl) (by kernel_rfl) (fun _ _ _ h => h) (Or.inl ⟨by rfl, fun w' hw' => by go_simp⟩) hH ?_
            refine wpAnyH_take (i := 5) (v := .agg #[.int .i64 ds, .slice (some ⟨dg, 0, none⟩) dn dcp, .int .i64 A, .bool false, .int .i64 da, .int .u8 dm]) rfl (by kernel_rfl) (by kernel_rfl) (by kernel_rfl) (fun _ _ _ h => h) (Or.inl ⟨by rfl, fun w' hw' => by have q0 : w'.cell? ⟨wr.heap.size, 0, none⟩ = some (.int .i64 ds) := cell_of_row _ _ _ _ _ _ hw'; have q1 : w'.cell? ⟨wr.heap.size, 1, none⟩ = some (.slice (some ⟨dg, 0, none⟩) dn dcp) := cell_of_row _ _ _ _ _ _ hw'; have q2 : w'.cell? ⟨wr.heap.size, 2, none⟩ = some (.int .i64 A) := cell_of_row _ _ _ _ _ _ hw'; have q3 : w'.cell? ⟨wr.heap.size, 3, none⟩ = some (.bool false) := cell_of_row _ _ _ _ _ _ hw'; have q4 : w'.cell? ⟨wr.heap.size, 4, none⟩ = some (.int .i64 da) := cell_of_row _ _ _ _ _ _ hw'; have q5 : w'.cell? ⟨wr.heap.size, 5, none⟩ = some (.int .u8 dm) := cell_of_row _ _ _ _ _ _ hw'; go_simp⟩) hH ?_
            refine wpAnyH_ready (rs := [4, 6]) (by kernel_rfl) (by simp) ?_
            refine AllReadyH.cons rfl (fun KK hKK => ?_) (AllReadyH.cons rfl (fun KK hKK => ?_) AllReadyH.nil)
            · go_simp
              refine hKK.out _ _ hH (fun h1 => ?_)
              clear hKK KK
              refine wpAnyH_ready (rs := [6]) (by kernel_rfl) (by simp) ?_
              refine AllReadyH.cons rfl (fun KK hKK => ?_) AllReadyH.nil
              go_simp
              have HA2 := HA.out
              obtain ⟨w6, hw6⟩ : ∃ w6, w6 = ((wr.alloc (.cells #[.int .i64 ds, .slice (some ⟨dg, 0, none⟩) dn dcp, .int .i64 A, .bool false, .int .i64 da, .int .u8 dm] 110)).alloc (.cells #[.int .i64 ds, .slice (some ⟨dg, 0, none⟩) dn dcp, .int .i64 A, .bool false, .int .i64 da, .int .u8 dm] 110)).drew := ⟨_, rfl⟩
              have HA3 : Hid ((Builtin.append_ #[49, 49] 49 #[dv', .slice (some ⟨wr.heap.size + 1, 0, none⟩) 1 1]).run Try.prog w6 = .ok (.slice a7 n7 c7) w7) := by
                rw [hw6]
                have e : (wr.alloc (.cells #[.int .i64 ds, .slice (some ⟨dg, 0, none⟩) dn dcp, .int .i64 A, .bool false, .int .i64 da, .int .u8 dm] 110)).heap.size = wr.heap.size + 1 := by simp
                rw [← e]
                exact HA2
              have X6 : w6.heap[wr.heap.size]? = some (.cells #[.int .i64 ds, .slice (some ⟨dg, 0, none⟩) dn dcp, .int .i64 A, .bool false, .int .i64 da, .int .u8 dm] 110 (0, 0)) := by rw [hw6]; exact (((Chg.refl (fun _ => False) _).alloc _).drew).heap_some hX3 (fun h => h)
              have k6 : w6.cell? ⟨q, 3, none⟩ = some dv' := by rw [hw6]; exact ((CRh.out.row.alloc _).alloc _).cell 3
              rw [← hw6]
              clear hw6 HA2
              refine hKK.out _ _ X6 (fun h2 => ?_)
              clear hKK KK
              refine wpAnyH_ready (rs := [7]) (by kernel_rfl) (by simp) ?_
              refine AllReadyH.cons rfl (fun KK hKK => ?_) AllReadyH.nil
              refine step_appR rfl (.tmp 49) (.tmp 51) rfl (v := dv') (u := .slice (some ⟨wr.heap.size + 1, 0, none⟩) 1 1) (by kernel_rfl) (by kernel_rfl) HA3.out ?_
              refine hKK.out _ _ hX7 (fun h3 => ?_)
              clear hKK KK
              refine wpAnyH_take (i := 8) (v := .pointer (some ⟨q, 0, none⟩)) rfl (by kernel_rfl) (by kernel_rfl) (by kernel_rfl) (fun _ _ _ h => h) (Or.inl ⟨by rfl, fun w' hw' => by go_simp⟩) hX7 ?_
              refine wpAnyH_take (i := 9) (v := .pointer (some ⟨q, 3, none⟩)) rfl (by kernel_rfl) (by kernel_rfl) (by kernel_rfl) (fun _ _ _ h => h) (Or.inl ⟨by rfl, fun w' hw' => by go_simp⟩) hX7 ?_
              have k73 : w7.cell? ⟨q, 3, none⟩ = some dv' := R7.out.cell 3
              have f73 := R7.out.fr 3
              refine wpAnyH_ready (rs := [10]) (by kernel_rfl) (by simp) ?_
              refine AllReadyH.cons rfl (fun KK hKK => ?_) AllReadyH.nil
              go_simp
              refine hKK.out _ _ hX8 (fun _ => ?_)
              clear hKK KK
              refine wpAnyH_done (by kernel_rfl) (NoPanic.normal ?_) _
              clear k73 f73 h3 k6 X6 h2 hX3 hX7 hX8 HA3
              go_wp2_with fail
              go_roundw
              case rel => exact ⟨k + 1, by omega, by go_num, _, by rw [E.out, ← List.append_assoc]; exact CR8.out⟩
              case measure => simp [intOf]; omega
            · go_simp
              have HA2 := HA.out
              obtain ⟨w6, hw6⟩ : ∃ w6, w6 = ((wr.alloc (.cells #[.int .i64 ds, .slice (some ⟨dg, 0, none⟩) dn dcp, .int .i64 A, .bool false, .int .i64 da, .int .u8 dm] 110)).alloc (.cells #[.int .i64 ds, .slice (some ⟨dg, 0, none⟩) dn dcp, .int .i64 A, .bool false, .int .i64 da, .int .u8 dm] 110)).drew := ⟨_, rfl⟩
              have HA3 : Hid ((Builtin.append_ #[49, 49] 49 #[dv', .slice (some ⟨wr.heap.size + 1, 0, none⟩) 1 1]).run Try.prog w6 = .ok (.slice a7 n7 c7) w7) := by
                rw [hw6]
                have e : (wr.alloc (.cells #[.int .i64 ds, .slice (some ⟨dg, 0, none⟩) dn dcp, .int .i64 A, .bool false, .int .i64 da, .int .u8 dm] 110)).heap.size = wr.heap.size + 1 := by simp
                rw [← e]
                exact HA2
              have X6 : w6.heap[wr.heap.size]? = some (.cells #[.int .i64 ds, .slice (some ⟨dg, 0, none⟩) dn dcp, .int .i64 A, .bool false, .int .i64 da, .int .u8 dm] 110 (0, 0)) := by rw [hw6]; exact (((Chg.refl (fun _ => False) _).alloc _).drew).heap_some hX3 (fun h => h)
              have k6 : w6.cell? ⟨q, 3, none⟩ = some dv' := by rw [hw6]; exact ((CRh.out.row.alloc _).alloc _).cell 3
              rw [← hw6]
              clear hw6 HA2
              refine hKK.out _ _ X6 (fun h2 => ?_)
              clear hKK KK
              refine wpAnyH_ready (rs := [4]) (by kernel_rfl) (by simp) ?_
              refine AllReadyH.cons rfl (fun KK hKK => ?_) AllReadyH.nil
              go_simp
              refine hKK.out _ _ X6 (fun h2 => ?_)
              clear hKK KK
              refine wpAnyH_ready (rs := [7]) (by kernel_rfl) (by simp) ?_
              refine AllReadyH.cons rfl (fun KK hKK => ?_) AllReadyH.nil
              refine step_appR rfl (.tmp 49) (.tmp 51) rfl (v := dv') (u := .slice (some ⟨wr.heap.size + 1, 0, none⟩) 1 1) (by kernel_rfl) (by kernel_rfl) HA3.out ?_
              refine hKK.out _ _ hX7 (fun h3 => ?_)
              clear hKK KK
              refine wpAnyH_take (i := 8) (v := .pointer (some ⟨q, 0, none⟩)) rfl (by kernel_rfl) (by kernel_rfl) (by kernel_rfl) (fun _ _ _ h => h) (Or.inl ⟨by rfl, fun w' hw' => by go_simp⟩) hX7 ?_
              refine wpAnyH_take (i := 9) (v := .pointer (some ⟨q, 3, none⟩)) rfl (by kernel_rfl) (by kernel_rfl) (by kernel_rfl) (fun _ _ _ h => h) (Or.inl ⟨by rfl, fun w' hw' => by go_simp⟩) hX7 ?_
              have k73 : w7.cell? ⟨q, 3, none⟩ = some dv' := R7.out.cell 3
              have f73 := R7.out.fr 3
              refine wpAnyH_ready (rs := [10]) (by kernel_rfl) (by simp) ?_
              refine AllReadyH.cons rfl (fun KK hKK => ?_) AllReadyH.nil
              go_simp
              refine hKK.out _ _ hX8 (fun _ => ?_)
              clear hKK KK
              refine wpAnyH_done (by kernel_rfl) (NoPanic.normal ?_) _
              clear k73 f73 h3 k6 X6 h2 hX3 hX7 hX8 HA3
              go_wp2_with fail
              go_roundw
              case rel => exact ⟨k + 1, by omega, by go_num, _, by rw [E.out, ← List.append_assoc]; exact CR8.out⟩
              case measure => simp [intOf]; omega
      · by_cases hkN : k < N
        · obtain ⟨ga, oa, ea, hka⟩ := HK.out.row k hkN
          have hkw : wr.cell? ⟨ga, oa + k, none⟩ = some (.bool (kl.getD k false)) := (CRh.out.ch).cell_some hka (fun e => by
            obtain ⟨h1, h2⟩ := HKA.out ga oa (by omega) ea
            rcases e with e | e
            · exact h1 e
            · exact h2 e.symm)
          have hkw' : ∀ o, (wr.alloc o).cell? ⟨ga, oa + k, none⟩ = some (.bool (kl.getD k false)) := fun o => ((Chg.refl (fun _ => False) _).alloc o).cell_some hkw (fun h => h)
          clear hka hkw
          subst ea
          cases hkv : kl.getD k false with
          | true =>
            simp only [hkv] at hkw'
            have E : Hid (crD kl torn at_ dn cl (k + 1) = crD kl torn at_ dn cl k ++ [⟨ds, dg, dcp, dn, false, da, dm⟩]) := by
              show _ ++ _ = _
              rw [hd]
              simp only [kpD, if_neg ht, hkv, if_true]
            clear hd
            obtain ⟨n7, a7, c7, w7, ha, r7, kk7, cr8⟩ := CRh.out.step H.out.row.lt H.out.dq (by rw [List.length_append]; exact Nat.lt_of_le_of_lt (Nat.add_le_add_left (crD_len _ _ _ _ _ _) _) (by have := HN.out; omega)) (⟨ds, dg, dcp, dn, false, da, dm⟩ : Dd) (w3 := wr.alloc (.cells #[.int .i64 ds, .slice (some ⟨dg, 0, none⟩) dn dcp, .int .i64 dn, .bool false, .int .i64 da, .int .u8 dm] 110)) ((Chg.refl _ _).alloc _)
            have hXd : dv'.ownBlock ≠ some wr.heap.size := fun e => by have := CRh.out.dn.lt e; omega
            have HA : Hid _ := ha
            have R7 : Hid _ := r7
            have CR8 : Hid _ := cr8
            have hX3 : (wr.alloc (.cells #[.int .i64 ds, .slice (some ⟨dg, 0, none⟩) dn dcp, .int .i64 dn, .bool false, .int .i64 da, .int .u8 dm] 110)).heap[wr.heap.size]? = some (.cells #[.int .i64 ds, .slice (some ⟨dg, 0, none⟩) dn dcp, .int .i64 dn, .bool false, .int .i64 da, .int .u8 dm] 110 (0, 0)) := heap_alloc_new _ _
            have hX7 : w7.heap[wr.heap.size]? = some (.cells #[.int .i64 ds, .slice (some ⟨dg, 0, none⟩) dn dcp, .int .i64 dn, .bool false, .int .i64 da, .int .u8 dm] 110 (0, 0)) := kk7.heap_some hX3 (fun e => hXd e.symm)
            have hX8 : (w7.setCell ⟨q, 3, none⟩ (.slice a7 n7 c7)).heap[wr.heap.size]? = some (.cells #[.int .i64 ds, .slice (some ⟨dg, 0, none⟩) dn dcp, .int .i64 dn, .bool false, .int .i64 da, .int .u8 dm] 110 (0, 0)) := ((Chg.refl (fun i => i = q) w7).setCell (.inl rfl) _).heap_some hX7 (fun e => by omega)
            have c3' : ∀ o, (wr.alloc o).cell? ⟨q, 3, none⟩ = some dv' := fun o => (CRh.out.row.alloc o).cell 3
            clear ha r7 kk7 cr8 c3
            go_upto_region 12 with fail
            refine wp_region_noPanic ?_
            refine wp_region_held_drew (S := fun w' => w'.heap[wr.heap.size]? = some (.cells #[.int .i64 ds, .slice (some ⟨dg, 0, none⟩) dn dcp, .int .i64 dn, .bool false, .int .i64 da, .int .u8 dm] 110 (0, 0))) (by kernel_rfl) hX3 (fun hH => ?_)
            refine wpAnyH_take (i := 0) (v := .pointer (some ⟨q, 0, none⟩)) rfl (by kernel_rfl) (by kernel_rfl) (by kernel_rfl) (fun _ _ _ h => h) (Or.inl ⟨by rfl, fun w' hw' => by go_simp⟩) hH ?_
            refine wpAnyH_take (i := 1) (v := .pointer (some ⟨q, 0, none⟩)) rfl (by kernel_rfl) (by kernel_rfl) (by kernel_rfl) (fun _ _ _ h => h) (Or.inl ⟨by rfl, fun w' hw' => by go_simp⟩) hH ?_
            refine wpAnyH_take (i := 2) (v := .pointer (some ⟨q, 0, none⟩)) rfl (by kernel_rfl) (by kernel_rfl) (by kernel_rfl) (fun _ _ _ h => h) (Or.inl ⟨by rfl, fun w' hw' => by go_simp⟩) hH ?_
            refine wpAnyH_take (i := 3) (v := .pointer (some ⟨q, 3, none⟩)) rfl (by kernel_rfl) (by kernel_rfl) (by kernel_rfl) (fun _ _ _ h => h) (Or.inl ⟨by rfl, fun w' hw' => by go_simp⟩) hH ?_
            refine wpAnyH_take (i := 5) (v := .agg #[.int .i64 ds, .slice (some ⟨dg, 0, none⟩) dn dcp, .int .i64 dn, .bool false, .int .i64 da, .int .u8 dm]) rfl (by kernel_rfl) (by kernel_rfl) (by kernel_rfl) (fun _ _ _ h => h) (Or.inl ⟨by rfl, fun w' hw' => by have q0 : w'.cell? ⟨wr.heap.size, 0, none⟩ = some (.int .i64 ds) := cell_of_row _ _ _ _ _ _ hw'; have q1 : w'.cell? ⟨wr.heap.size, 1, none⟩ = some (.slice (some ⟨dg, 0, none⟩) dn dcp) := cell_of_row _ _ _ _ _ _ hw'; have q2 : w'.cell? ⟨wr.heap.size, 2, none⟩ = some (.int .i64 dn) := cell_of_row _ _ _ _ _ _ hw'; have q3 : w'.cell? ⟨wr.heap.size, 3, none⟩ = some (.bool false) := cell_of_row _ _ _ _ _ _ hw'; have q4 : w'.cell? ⟨wr.heap.size, 4, none⟩ = some (.int .i64 da) := cell_of_row _ _ _ _ _ _ hw'; have q5 : w'.cell? ⟨wr.heap.size, 5, none⟩ = some (.int .u8 dm) := cell_of_row _ _ _ _ _ _ hw'; go_simp⟩) hH ?_
            refine wpAnyH_ready (rs := [4, 6]) (by kernel_rfl) (by simp) ?_
            refine AllReadyH.cons rfl (fun KK hKK => ?_) (AllReadyH.cons rfl (fun KK hKK => ?_) AllReadyH.nil)
            · go_simp
              refine hKK.out _ _ hH (fun h1 => ?_)
              clear hKK KK
              refine wpAnyH_ready (rs := [6]) (by kernel_rfl) (by simp) ?_
              refine AllReadyH.cons rfl (fun KK hKK => ?_) AllReadyH.nil
              go_simp
              have HA2 := HA.out
              obtain ⟨w6, hw6⟩ : ∃ w6, w6 = ((wr.alloc (.cells #[.int .i64 ds, .slice (some ⟨dg, 0, none⟩) dn dcp, .int .i64 dn, .bool false, .int .i64 da, .int .u8 dm] 110)).alloc (.cells #[.int .i64 ds, .slice (some ⟨dg, 0, none⟩) dn dcp, .int .i64 dn, .bool false, .int .i64 da, .int .u8 dm] 110)).drew := ⟨_, rfl⟩
              have HA3 : Hid ((Builtin.append_ #[49, 49] 49 #[dv', .slice (some ⟨wr.heap.size + 1, 0, none⟩) 1 1]).run Try.prog w6 = .ok (.slice a7 n7 c7) w7) := by
                rw [hw6]
                have e : (wr.alloc (.cells #[.int .i64 ds, .slice (some ⟨dg, 0, none⟩) dn dcp, .int .i64 dn, .bool false, .int .i64 da, .int .u8 dm] 110)).heap.size = wr.heap.size + 1 := by simp
                rw [← e]
                exact HA2
              have X6 : w6.heap[wr.heap.size]? = some (.cells #[.int .i64 ds, .slice (some ⟨dg, 0, none⟩) dn dcp, .int .i64 dn, .bool false, .int .i64 da, .int .u8 dm] 110 (0, 0)) := by rw [hw6]; exact (((Chg.refl (fun _ => False) _).alloc _).drew).heap_some hX3 (fun h => h)
              have k6 : w6.cell? ⟨q, 3, none⟩ = some dv' := by rw [hw6]; exact ((CRh.out.row.alloc _).alloc _).cell 3
              rw [← hw6]
              clear hw6 HA2
              refine hKK.out _ _ X6 (fun h2 => ?_)
              clear hKK KK
              refine wpAnyH_ready (rs := [7]) (by kernel_rfl) (by simp) ?_
              refine AllReadyH.cons rfl (fun KK hKK => ?_) AllReadyH.nil
              refine step_appR rfl (.tmp 69) (.tmp 71) rfl (v := dv') (u := .slice (some ⟨wr.heap.size + 1, 0, none⟩) 1 1) (by kernel_rfl) (by kernel_rfl) HA3.out ?_
              refine hKK.out _ _ hX7 (fun h3 => ?_)
              clear hKK KK
              refine wpAnyH_take (i := 8) (v := .pointer (some ⟨q, 0, none⟩)) rfl (by kernel_rfl) (by kernel_rfl) (by kernel_rfl) (fun _ _ _ h => h) (Or.inl ⟨by rfl, fun w' hw' => by go_simp⟩) hX7 ?_
              refine wpAnyH_take (i := 9) (v := .pointer (some ⟨q, 3, none⟩)) rfl (by kernel_rfl) (by kernel_rfl) (by kernel_rfl) (fun _ _ _ h => h) (Or.inl ⟨by rfl, fun w' hw' => by go_simp⟩) hX7 ?_
              have k73 : w7.cell? ⟨q, 3, none⟩ = some dv' := R7.out.cell 3
              have f73 := R7.out.fr 3
              refine wpAnyH_ready (rs := [10]) (by kernel_rfl) (by simp) ?_
              refine AllReadyH.cons rfl (fun KK hKK => ?_) AllReadyH.nil
              go_simp
              refine hKK.out _ _ hX8 (fun _ => ?_)
              clear hKK KK
              refine wpAnyH_done (by kernel_rfl) (NoPanic.normal ?_) _
              clear k73 f73 h3 k6 X6 h2 hX3 hX7 hX8 HA3
              go_wp2_with fail
              go_roundw
              case rel => exact ⟨k + 1, by omega, by go_num, _, by rw [E.out, ← List.append_assoc]; exact CR8.out⟩
              case measure => simp [intOf]; omega
            · go_simp
              have HA2 := HA.out
              obtain ⟨w6, hw6⟩ : ∃ w6, w6 = ((wr.alloc (.cells #[.int .i64 ds, .slice (some ⟨dg, 0, none⟩) dn dcp, .int .i64 dn, .bool false, .int .i64 da, .int .u8 dm] 110)).alloc (.cells #[.int .i64 ds, .slice (some ⟨dg, 0, none⟩) dn dcp, .int .i64 dn, .bool false, .int .i64 da, .int .u8 dm] 110)).drew := ⟨_, rfl⟩
              have HA3 : Hid ((Builtin.append_ #[49, 49] 49 #[dv', .slice (some ⟨wr.heap.size + 1, 0, none⟩) 1 1]).run Try.prog w6 = .ok (.slice a7 n7 c7) w7) := by
                rw [hw6]
                have e : (wr.alloc (.cells #[.int .i64 ds, .slice (some ⟨dg, 0, none⟩) dn dcp, .int .i64 dn, .bool false, .int .i64 da, .int .u8 dm] 110)).heap.size = wr.heap.size + 1 := by simp
                rw [← e]
                exact HA2
              have X6 : w6.heap[wr.heap.size]? = some (.cells #[.int .i64 ds, .slice (some ⟨dg, 0, none⟩) dn dcp, .int .i64 dn, .bool false, .int .i64 da, .int .u8 dm] 110 (0, 0)) := by rw [hw6]; exact (((Chg.refl (fun _ => False) _).alloc _).drew).heap_some hX3 (fun h => h)
              have k6 : w6.cell? ⟨q, 3, none⟩ = some dv' := by rw [hw6]; exact ((CRh.out.row.alloc _).alloc _).cell 3
              rw [← hw6]
              clear hw6 HA2
              refine hKK.out _ _ X6 (fun h2 => ?_)
              clear hKK KK
              refine wpAnyH_ready (rs := [4]) (by kernel_rfl) (by simp) ?_
              refine AllReadyH.cons rfl (fun KK hKK => ?_) AllReadyH.nil
              go_simp
              refine hKK.out _ _ X6 (fun h2 => ?_)
              clear hKK KK
              refine wpAnyH_ready (rs := [7]) (by kernel_rfl) (by simp) ?_
              refine AllReadyH.cons rfl (fun KK hKK => ?_) AllReadyH.nil
              refine step_appR rfl (.tmp 69) (.tmp 71) rfl (v := dv') (u := .slice (some ⟨wr.heap.size + 1, 0, none⟩) 1 1) (by kernel_rfl) (by kernel_rfl) HA3.out ?_
              refine hKK.out _ _ hX7 (fun h3 => ?_)
              clear hKK KK
              refine wpAnyH_take (i := 8) (v := .pointer (some ⟨q, 0, none⟩)) rfl (by kernel_rfl) (by kernel_rfl) (by kernel_rfl) (fun _ _ _ h => h) (Or.inl ⟨by rfl, fun w' hw' => by go_simp⟩) hX7 ?_
              refine wpAnyH_take (i := 9) (v := .pointer (some ⟨q, 3, none⟩)) rfl (by kernel_rfl) (by kernel_rfl) (by kernel_rfl) (fun _ _ _ h => h) (Or.inl ⟨by rfl, fun w' hw' => by go_simp⟩) hX7 ?_
              have k73 : w7.cell? ⟨q, 3, none⟩ = some dv' := R7.out.cell 3
              have f73 := R7.out.fr 3
              refine wpAnyH_ready (rs := [10]) (by kernel_rfl) (by simp) ?_
              refine AllReadyH.cons rfl (fun KK hKK => ?_) AllReadyH.nil
              go_simp
              refine hKK.out _ _ hX8 (fun _ => ?_)
              clear hKK KK
              refine wpAnyH_done (by kernel_rfl) (NoPanic.normal ?_) _
              clear k73 f73 h3 k6 X6 h2 hX3 hX7 hX8 HA3
              go_wp2_with fail
              go_roundw
              case rel => exact ⟨k + 1, by omega, by go_num, _, by rw [E.out, ← List.append_assoc]; exact CR8.out⟩
              case measure => simp [intOf]; omega
          | false =>
            simp only [hkv] at hkw'
            have e : crD kl torn at_ dn cl (k + 1) = crD kl torn at_ dn cl k := by
              show _ ++ _ = _
              rw [hd]
              simp only [kpD, if_neg ht, hkv]
              rw [if_neg (by decide), List.append_nil]
            have R : Hid _ := e
            clear e hd
            go_wp2_with fail
            go_roundw
            case rel => exact ⟨k + 1, by omega, by go_num, dv', by rw [R.out]; exact CRh.out.alloc _⟩
            case measure => simp [intOf]; omega
        · have e : crD kl torn at_ dn cl (k + 1) = crD kl torn at_ dn cl k := by
            show _ ++ _ = _
            rw [hd]
            simp only [kpD, if_neg ht]
            rw [if_neg, List.append_nil]
            rw [List.getD_eq_getElem?_getD, List.getElem?_eq_none (by have := HK.out.len; omega)]
            decide
          have R : Hid _ := e
          clear e hd
          go_wp2_with fail
          go_roundw
          case rel => exact ⟨k + 1, by omega, by go_num, dv', by rw [R.out]; exact CRh.out.alloc _⟩
          case measure => simp [intOf]; omega
    · have hkn : k = n := by omega
      subst hkn
      have f4 := hcr.row.fr 4
      have R4 := Rw.set hcr.row 4 (.slice none 0 0)
      have R5 := Rw.set R4 5 (.bool false)
      have R7 := Rw.set R5 7 (.bool false)
      have R11 : Hid (Rw _ q (rrow S z dv' (.slice none 0 0) (crN y)) 52) := Rw.set R7 11 (.int .i64 (wrap64 (y.era + 1)))
      have CRn : Hid (CR w wr q S z y dv cv (dl ++ crD kl torn at_ z cl cl.length) dv') := by rw [← HN.out]; exact CRh.out
      have g4 : Hid (Rw (wr.setCell ⟨q, 4, none⟩ (.slice none 0 0)) q _ 52) := R4
      have g5 : Hid (Rw ((wr.setCell ⟨q, 4, none⟩ (.slice none 0 0)).setCell ⟨q, 5, none⟩ (.bool false)) q _ 52) := R5
      have g7 : Hid (Rw (((wr.setCell ⟨q, 4, none⟩ (.slice none 0 0)).setCell ⟨q, 5, none⟩ (.bool false)).setCell ⟨q, 7, none⟩ (.bool false)) q _ 52) := R7
      have h5 : (wr.setCell ⟨q, 4, none⟩ (.slice none 0 0)).cell? ⟨q, 5, none⟩ = some (.bool y.fused) := g4.out.cell 5
      have f5 := g4.out.fr 5
      have h7 : ((wr.setCell ⟨q, 4, none⟩ (.slice none 0 0)).setCell ⟨q, 5, none⟩ (.bool false)).cell? ⟨q, 7, none⟩ = some (.bool y.off) := g5.out.cell 7
      have f7 := g5.out.fr 7
      have h11 : (((wr.setCell ⟨q, 4, none⟩ (.slice none 0 0)).setCell ⟨q, 5, none⟩ (.bool false)).setCell ⟨q, 7, none⟩ (.bool false)).cell? ⟨q, 11, none⟩ = some (.int .i64 y.era) := g7.out.cell 11
      have f11 := g7.out.fr 11
      clear R4 R5 R7 hcr c1 c3
      go_wp2_with fail
      have ch : Chg (fun i => i = q) wr ((((wr.setCell ⟨q, 4, none⟩ (.slice none 0 0)).setCell ⟨q, 5, none⟩ (.bool false)).setCell ⟨q, 7, none⟩ (.bool false)).setCell ⟨q, 11, none⟩ (.int .i64 (wrap64 (y.era + 1)))) := ((((Chg.refl (fun i => i = q) _).setCell (.inl rfl) _).setCell (.inl rfl) _).setCell (.inl rfl) _).setCell (.inl rfl) _
      go_end0
      have hdq : dv'.ownBlock ≠ some q := fun e => by
        rcases CRn.out.at_ with e1 | ⟨k, e1, e2⟩
        · exact H.out.dq (by rw [← e1]; exact e)
        · have := H.out.row.lt
          rw [e] at e1
          injection e1 with e1
          omega
      have CH := CRn.out.ch.trans ch (fun _ e => .inl (.inl e))
      refine ⟨rfl, CH, dv', H.out.moved CH (CRn.out.dn.chg ch (fun g hg e => hdq (by rw [← e]; exact hg))) R11.out (fun d hd => ?_) (by have := crD_len kl torn at_ z cl cl.length; rw [List.length_append]; omega), CRn.out.at_⟩
      rcases List.mem_append.1 hd with hd | hd
      · exact .inl hd
      · obtain ⟨d0, h0, e | e⟩ := crD_mem kl torn at_ z cl _ d hd
        · exact .inr ⟨d0, h0, z, Nat.le_refl _, by rw [e]; have := (H.out.cb d0 h0).2.1; rw [← this]⟩
        · exact .inr ⟨d0, h0, _, by omega, e⟩
end
end Go.Proofs.Ytddnecfnjnipjaa
