/-
  The reference writes ops.
-/
import Derived.Test.YtlmdljghhpkbiaaPrW
import Derived.Test.YtlmdljghhpkbiaaJoin
import Derived.Test.YtlmdljghhpkbiaaRd
namespace Go.Proofs.Ytlmdljghhpkbiaa
open Go.RowKit

theorem Made.upY {w W w' : World} {v : Value} {l : List Int} (h : Made W w' v l) (b : Below w.heap.size w W) : Made w w' v l :=
  ⟨h.1, b.trans (h.2.1.mono b.size), fun k hk => Nat.le_trans b.size (h.2.2 k hk)⟩
theorem pieces_newY {w : World} {n : Nat} {ls : Nat → List Int} {vs : Nat → Value} {cs : Array Value} {t : TypeId} (hc : ∀ i, i < n → cs[i]? = some (vs i)) (hs : ∀ i, i < n → Src w (vs i) (ls i)) : Pieces (w.alloc (.cells cs t)) w.heap.size n vs ls :=
  ⟨fun i hi => by rw [cell_of_row _ _ i cs t _ (heap_alloc_new _ _)]; exact hc i hi, fun i hi => (hs i hi).kept0 ((Below.refl _ _).alloc (Nat.le_refl _) _)⟩
def u64Y (x : Int) : Nat := (x % 18446744073709551616).toNat
theorem u64Y_lt (x : Int) : u64Y x < 18446744073709551616 := by unfold u64Y; omega
theorem u64Y_wrap (x : Int) : IntKind.wrap .u64 x = (u64Y x : Int) := by rw [IntKind.wrap_u64]; unfold u64Y; omega
theorem highY (x : Int) : high 1 (u64Y x) = [x % 256] := by
  have h : (((u64Y x % 256 : Nat)) : Int) = x % 256 := by unfold u64Y; omega
  simp only [high, List.nil_append, h]
theorem high1_any (w : World) (x : Int) :
    Calls Try.prog 49 #[.int .u64 (u64Y x : Nat), .int .i64 1] w fun e w' => ∃ v, e = .returned v ∧ Made w w' v [x % 256] := by
  have h := high_any w 1 (by decide) (u64Y x) (u64Y_lt x)
  rw [highY] at h
  exact h

set_option maxRecDepth 100000 in
set_option maxHeartbeats 16000000 in
theorem xOp_any {w : World} {o : Oc} (hO : OcIn w (fun g => g < w.heap.size) o) (hk : o.kl.length ≤ 4194304) (hv : o.vl.length ≤ 4194304) :
    Calls Try.prog 97 #[.agg o.cells.toArray] w fun e w' => ∃ u, e = .returned u ∧ Made w w' u o.bytes := by
  obtain ⟨X, hX⟩ : ∃ X, X = w.heap.size := ⟨_, rfl⟩
  obtain ⟨W, hW⟩ : ∃ W, W = w.alloc (.cells o.cells.toArray 111) := ⟨_, rfl⟩
  have hb : Below w.heap.size w W := by rw [hW]; exact (Below.refl _ _).alloc (Nat.le_refl _) _
  have B0 : Hid (Blk W X o.cells 111) := by rw [hW, hX]; exact Blk.made _ _ _
  have HO : Hid (OcIn W (fun g => g < w.heap.size) o) := hO.kept (Chg.of_below hb (fun _ => False)) (fun _ _ e => e)
  have HB : Hid _ := hb
  have XL : Hid (X < W.heap.size) := B0.out.lt
  have hwk := u64Y_wrap o.ki
  have hwl := u64Y_wrap o.lv
  have k0 : W.cell? ⟨X, 0, none⟩ = some (.int .i64 o.ki) := B0.out.cell 0
  have SM := hO.sm
  have CT := hO.ct
  clear hO hb
  go_enter Try.func97, Try.ntmps97
  go_upto_region 1 with fail
  rw [← hW, ← hX]
  have HX : Hid _ := hX
  clear hW hX
  go_wp2_with fail
  refine Calls.mono (high1_any W o.ki) ?_
  rintro e w1 ⟨r1, rfl, m1⟩
  obtain ⟨a1, c1, h1⟩ := m1.1.form
  subst h1
  have M1 : Hid (Made W w1 (.slice a1 1 c1) [o.ki % 256]) := m1
  have B1 : Hid (Blk w1 X o.cells 111) := B0.out.keep0 m1.2.1
  have O1 : Hid (OcIn w1 (fun g => g < w.heap.size) o) := HO.out.kept (Chg.of_below m1.2.1 (fun _ => False)) (fun _ _ e => e)
  have k1 : w1.cell? ⟨X, 0, none⟩ = some (.int .i64 o.ki) := B1.out.cell 0
  have k36 : w1.cell? ⟨X, 36, none⟩ = some (.slice o.va o.vn o.vc) := by rw [B1.out.cell]; exact o.vl_at SM
  clear m1 k0
  by_cases e1 : o.ki = 1
  · go_wp2_with fail
    refine Calls.mono (text_any O1.out.vs (by omega)) ?_
    rintro e w2 ⟨r2, rfl, m2⟩
    obtain ⟨a2, c2, h2⟩ := m2.1.form
    obtain ⟨n2, hn2⟩ : ∃ n, n = (numB o.vl.length ++ o.vl).length := ⟨_, rfl⟩
    rw [← hn2] at h2
    subst h2
    have L2 : n2 ≤ 4200000 := by have := numB_ten (n := o.vl.length) (by omega); rw [hn2]; simp; omega
    clear hn2
    go_wp2_with fail
    have hsrc : ∀ i, i < 2 → Src w2 ((fun i => match i with | 0 => Value.slice a1 1 c1 | _ => Value.slice a2 n2 c2) i) ((fun i => match i with | 0 => [o.ki % 256] | _ => numB o.vl.length ++ o.vl) i) := by
      intro i hi
      match i, hi with
      | 0, _ => exact M1.out.1.src.kept0 m2.2.1
      | 1, _ => exact m2.1.src
    have b2 : Below w.heap.size w w2 := (HB.out.trans (M1.out.2.1.mono HB.out.size)).trans (m2.2.1.mono (Nat.le_trans HB.out.size M1.out.2.1.size))
    refine Calls.mono (join_any (pieces_newY (fun i hi => by match i, hi with | 0, _ => rfl | 1, _ => rfl) hsrc) (by decide) (by
      intro k hk
      match k, hk with
      | 0, _ => simp [flat]
      | 1, _ => simp [flat]
      | 2, _ => simp [flat]; have := numB_ten (n := o.vl.length) (by omega); omega)) ?_
    rintro e w3 ⟨r3, rfl, m3⟩
    have F : Hid (Made w w3 r3 o.bytes) := by
      have e : o.bytes = flat (fun i => match i with | 0 => [o.ki % 256] | _ => numB o.vl.length ++ o.vl) 2 := by simp [flat, Oc.bytes, Oc.body, e1]
      rw [e]
      exact Made.upY m3 (b2.alloc b2.size _)
    clear m3 b2 hsrc m2
    go_wp2_with fail
    go_ret
    exact ⟨_, rfl, F.out⟩
  · by_cases e2 : o.ki = 2
    · go_wp2_with (refine wpList_load_part rfl 31 (.tmp 21) rfl X 4 (bs o.sm) rfl B1.out o.sm_at Try.underlying31 rfl (Try.sumSz' o.sm SM) ?_)
      refine Calls.mono (xsum_any o.sm SM) ?_
      rintro e w2 ⟨r2, rfl, m2⟩
      obtain ⟨a2, c2, h2⟩ := m2.1.form
      obtain ⟨n2, hn2⟩ : ∃ n, n = o.sm.length := ⟨_, rfl⟩
      rw [← hn2] at h2
      subst h2
      have L2 : n2 ≤ 4200000 := by omega
      clear hn2
      go_wp2_with fail
      have hsrc : ∀ i, i < 2 → Src w2 ((fun i => match i with | 0 => Value.slice a1 1 c1 | _ => Value.slice a2 n2 c2) i) ((fun i => match i with | 0 => [o.ki % 256] | _ => o.sm) i) := by
        intro i hi
        match i, hi with
        | 0, _ => exact M1.out.1.src.kept0 m2.2.1
        | 1, _ => exact m2.1.src
      have b2 : Below w.heap.size w w2 := (HB.out.trans (M1.out.2.1.mono HB.out.size)).trans (m2.2.1.mono (Nat.le_trans HB.out.size M1.out.2.1.size))
      refine Calls.mono (join_any (pieces_newY (fun i hi => by match i, hi with | 0, _ => rfl | 1, _ => rfl) hsrc) (by decide) (by
        intro k hk
        match k, hk with
        | 0, _ => simp [flat]
        | 1, _ => simp [flat]
        | 2, _ => simp [flat]; have := numB_ten (n := o.vl.length) (by omega); omega)) ?_
      rintro e w3 ⟨r3, rfl, m3⟩
      have F : Hid (Made w w3 r3 o.bytes) := by
        have e : o.bytes = flat (fun i => match i with | 0 => [o.ki % 256] | _ => o.sm) 2 := by simp [flat, Oc.bytes, Oc.body, e2]
        rw [e]
        exact Made.upY m3 (b2.alloc b2.size _)
      clear m3 b2 hsrc m2
      go_wp2_with fail
      go_ret
      exact ⟨_, rfl, F.out⟩
    · by_cases e3 : o.ki = 4 ∨ o.ki = 5
      · rcases e3 with e4 | e4
        · have t1 := numB_ten (n := o.kl.length) (by omega)
          have t2 := numB_ten CT
          have hBW1 : Below w.heap.size w w1 := HB.out.trans (M1.out.2.1.mono HB.out.size)
          go_upto_region 9 with fail
          refine wp_region_held_drew (S := fun w' => Blk w' X o.cells 111 ∧ Below w1.heap.size w1 w') (by kernel_rfl) (⟨B1.out.drew, (Below.refl _ _).drew⟩) (fun hH => ?_)
          refine wpAnyH_take (i := 0) (v := .slice a1 1 c1) rfl (by kernel_rfl) (by kernel_rfl) (by kernel_rfl) (fun _ _ _ h => h) (Or.inl ⟨by rfl, fun w' _ => by go_simp⟩) hH ?_
          refine wpAnyH_take (i := 1) (v := .pointer (some ⟨X, 1, none⟩)) rfl (by kernel_rfl) (by kernel_rfl) (by kernel_rfl) (fun _ _ _ h => h) (Or.inl ⟨by rfl, fun w' _ => by go_simp⟩) hH ?_
          refine wpAnyH_take (i := 2) (v := .int .i64 o.lv) rfl (by kernel_rfl) (by kernel_rfl) (by kernel_rfl) (fun _ _ _ h => h) (Or.inl ⟨by rfl, fun w' hw' => by have h2 : w'.cell? ⟨X, 1, none⟩ = some (.int .i64 o.lv) := Blk.cell hw'.1 1; go_simp⟩) hH ?_
          refine wpAnyH_take (i := 3) (v := .int .u64 (u64Y o.lv : Nat)) rfl (by kernel_rfl) (by kernel_rfl) (by kernel_rfl) (fun _ _ _ h => h) (Or.inl ⟨by rfl, fun w' _ => by go_simp⟩) hH ?_
          refine wpAnyH_take (i := 5) (v := .pointer (some ⟨X, 2, none⟩)) rfl (by kernel_rfl) (by kernel_rfl) (by kernel_rfl) (fun _ _ _ h => h) (Or.inl ⟨by rfl, fun w' _ => by go_simp⟩) hH ?_
          refine wpAnyH_take (i := 6) (v := .slice o.ka o.kn o.kc) rfl (by kernel_rfl) (by kernel_rfl) (by kernel_rfl) (fun _ _ _ h => h) (Or.inl ⟨by rfl, fun w' hw' => by have h2 : w'.cell? ⟨X, 2, none⟩ = some (.slice o.ka o.kn o.kc) := Blk.cell hw'.1 2; go_simp⟩) hH ?_
          refine wpAnyH_take (i := 8) (v := .pointer (some ⟨X, 3, none⟩)) rfl (by kernel_rfl) (by kernel_rfl) (by kernel_rfl) (fun _ _ _ h => h) (Or.inl ⟨by rfl, fun w' _ => by go_simp⟩) hH ?_
          refine wpAnyH_take (i := 9) (v := .int .u64 o.ct) rfl (by kernel_rfl) (by kernel_rfl) (by kernel_rfl) (fun _ _ _ h => h) (Or.inl ⟨by rfl, fun w' hw' => by have h2 : w'.cell? ⟨X, 3, none⟩ = some (.int .u64 o.ct) := Blk.cell hw'.1 3; go_simp⟩) hH ?_
          refine wpAnyH_take (i := 11) (v := .pointer (some ⟨X, 4, none⟩)) rfl (by kernel_rfl) (by kernel_rfl) (by kernel_rfl) (fun _ _ _ h => h) (Or.inl ⟨by rfl, fun w' _ => by go_simp⟩) hH ?_
          refine wpAnyH_take (i := 12) (v := .agg (bs o.sm).toArray) rfl (by kernel_rfl) (by kernel_rfl) (by kernel_rfl) (fun _ _ _ h => h) (yieldsIf_load_mid (by rfl) _ _ rfl X 4 (by kernel_rfl) _ _ (fun w' hw' => Blk.range hw'.1 o.sm_at) Try.underlying31 rfl (Try.sumSz' o.sm SM)) hH ?_
          refine wpAnyH_ready (rs := [4]) (by kernel_rfl) (by simp) ?_
          refine AllReadyH.cons rfl (fun K hK => ?_) AllReadyH.nil
          go_simp
          refine Calls.mono (high1_any _ o.lv) ?_
          rintro e q0 ⟨r0, rfl, m0⟩
          refine hK.out _ _ (⟨hH.1.keep0 (m0.2.1), hH.2.trans ((m0.2.1).mono hH.2.size)⟩) (fun h0 => ?_)
          clear hK K
          obtain ⟨b0, d0, hv⟩ := m0.1.form
          obtain ⟨n0, hn⟩ : ∃ nn : Nat, nn = ([o.lv % 256]).length := ⟨_, rfl⟩
          rw [← hn] at hv
          subst hv
          clear hn
          refine wpAnyH_ready (rs := [7]) (by kernel_rfl) (by simp) ?_
          refine AllReadyH.cons rfl (fun K hK => ?_) AllReadyH.nil
          go_simp
          refine Calls.mono (text_any (O1.out.ks.kept0 h0.2) (by omega)) ?_
          rintro e q1 ⟨r1, rfl, m1⟩
          refine hK.out _ _ (⟨h0.1.keep0 (m1.2.1), h0.2.trans ((m1.2.1).mono h0.2.size)⟩) (fun h1 => ?_)
          clear hK K
          obtain ⟨b1, d1, hv⟩ := m1.1.form
          obtain ⟨n1, hn⟩ : ∃ nn : Nat, nn = ((numB o.kl.length ++ o.kl)).length := ⟨_, rfl⟩
          rw [← hn] at hv
          subst hv
          clear hn
          refine wpAnyH_ready (rs := [10]) (by kernel_rfl) (by simp) ?_
          refine AllReadyH.cons rfl (fun K hK => ?_) AllReadyH.nil
          go_simp
          refine Calls.mono (num_any o.ct CT _) ?_
          rintro e q2 ⟨r2, rfl, m2⟩
          refine hK.out _ _ (⟨h1.1.keep0 (m2.2.1), h1.2.trans ((m2.2.1).mono h1.2.size)⟩) (fun h2 => ?_)
          clear hK K
          obtain ⟨b2, d2, hv⟩ := m2.1.form
          obtain ⟨n2, hn⟩ : ∃ nn : Nat, nn = (numB o.ct).length := ⟨_, rfl⟩
          rw [← hn] at hv
          subst hv
          clear hn
          refine wpAnyH_ready (rs := [13]) (by kernel_rfl) (by simp) ?_
          refine AllReadyH.cons rfl (fun K hK => ?_) AllReadyH.nil
          go_simp
          refine Calls.mono (xsum_any o.sm SM) ?_
          rintro e q3 ⟨r3, rfl, m3⟩
          refine hK.out _ _ (⟨h2.1.keep0 (m3.2.1), h2.2.trans ((m3.2.1).mono h2.2.size)⟩) (fun h3 => ?_)
          clear hK K
          obtain ⟨b3, d3, hv⟩ := m3.1.form
          obtain ⟨n3, hn⟩ : ∃ nn : Nat, nn = (o.sm).length := ⟨_, rfl⟩
          rw [← hn] at hv
          subst hv
          clear hn
          have hsrc : ∀ i, i < 5 → Src q3 ((fun i => match i with | 0 => Value.slice a1 1 c1 | 1 => Value.slice b0 n0 d0 | 2 => Value.slice b1 n1 d1 | 3 => Value.slice b2 n2 d2 | _ => Value.slice b3 n3 d3) i) ((fun i => match i with | 0 => [o.ki % 256] | 1 => [o.lv % 256] | 2 => (numB o.kl.length ++ o.kl) | 3 => numB o.ct | _ => o.sm) i) := by
            intro i hi
            match i, hi with
            | 0, _ => exact M1.out.1.src.kept0 h3.2
            | 1, _ => exact (((m0.1.src).kept0 m1.2.1).kept0 m2.2.1).kept0 m3.2.1
            | 2, _ => exact ((m1.1.src).kept0 m2.2.1).kept0 m3.2.1
            | 3, _ => exact (m2.1.src).kept0 m3.2.1
            | 4, _ => exact m3.1.src
          refine wpAnyH_ready (rs := [14]) (by kernel_rfl) (by simp) ?_
          refine AllReadyH.cons rfl (fun K hK => ?_) AllReadyH.nil
          go_simp
          refine hK.out _ _ (⟨h3.1.alloc _, h3.2.alloc h3.2.size _⟩) (fun hx => ?_)
          clear hK K
          refine wpAnyH_ready (rs := [15]) (by kernel_rfl) (by simp) ?_
          refine AllReadyH.cons rfl (fun K hK => ?_) AllReadyH.nil
          go_simp
          refine Calls.mono (join_any (pieces_newY (fun i hi => by match i, hi with | 0, _ => rfl | 1, _ => rfl | 2, _ => rfl | 3, _ => rfl | 4, _ => rfl) hsrc) (by decide) (by
            intro k hk
            match k, hk with | 0, _ => simp [flat]; try omega | 1, _ => simp [flat]; try omega | 2, _ => simp [flat]; try omega | 3, _ => simp [flat]; try omega | 4, _ => simp [flat]; try omega | 5, _ => simp [flat]; try omega)) ?_
          rintro e wj ⟨vj, rfl, mj⟩
          refine hK.out _ _ (⟨hx.1.keep0 (mj.2.1), hx.2.trans ((mj.2.1).mono hx.2.size)⟩) (fun hy => ?_)
          clear hK K hsrc
          have F : Hid (Made w wj vj o.bytes) := by
            have e : o.bytes = flat (fun i => match i with | 0 => [o.ki % 256] | 1 => [o.lv % 256] | 2 => (numB o.kl.length ++ o.kl) | 3 => numB o.ct | _ => o.sm) 5 := by simp [flat, Oc.bytes, Oc.body, Oc.nb, e4]
            rw [e]
            exact Made.upY mj (hBW1.trans (hx.2.mono hBW1.size))
          refine wpAnyH_ready (rs := [16]) (by kernel_rfl) (by simp) ?_
          refine AllReadyH.cons rfl (fun K hK => ?_) AllReadyH.nil
          go_simp
          refine hK.out _ _ hy (fun _ => ?_)
          clear hK K hH hx hy mj h0 m0 h1 m1 h2 m2 h3 m3
          refine wpAnyH_done (by kernel_rfl) ?_ _
          go_wp2_with fail
          go_ret
          exact ⟨_, rfl, F.out⟩
        · have t1 := numB_ten (n := o.kl.length) (by omega)
          have t2 := numB_ten CT
          have hBW1 : Below w.heap.size w w1 := HB.out.trans (M1.out.2.1.mono HB.out.size)
          go_upto_region 9 with fail
          refine wp_region_held_drew (S := fun w' => Blk w' X o.cells 111 ∧ Below w1.heap.size w1 w') (by kernel_rfl) (⟨B1.out.drew, (Below.refl _ _).drew⟩) (fun hH => ?_)
          refine wpAnyH_take (i := 0) (v := .slice a1 1 c1) rfl (by kernel_rfl) (by kernel_rfl) (by kernel_rfl) (fun _ _ _ h => h) (Or.inl ⟨by rfl, fun w' _ => by go_simp⟩) hH ?_
          refine wpAnyH_take (i := 1) (v := .pointer (some ⟨X, 1, none⟩)) rfl (by kernel_rfl) (by kernel_rfl) (by kernel_rfl) (fun _ _ _ h => h) (Or.inl ⟨by rfl, fun w' _ => by go_simp⟩) hH ?_
          refine wpAnyH_take (i := 2) (v := .int .i64 o.lv) rfl (by kernel_rfl) (by kernel_rfl) (by kernel_rfl) (fun _ _ _ h => h) (Or.inl ⟨by rfl, fun w' hw' => by have h2 : w'.cell? ⟨X, 1, none⟩ = some (.int .i64 o.lv) := Blk.cell hw'.1 1; go_simp⟩) hH ?_
          refine wpAnyH_take (i := 3) (v := .int .u64 (u64Y o.lv : Nat)) rfl (by kernel_rfl) (by kernel_rfl) (by kernel_rfl) (fun _ _ _ h => h) (Or.inl ⟨by rfl, fun w' _ => by go_simp⟩) hH ?_
          refine wpAnyH_take (i := 5) (v := .pointer (some ⟨X, 2, none⟩)) rfl (by kernel_rfl) (by kernel_rfl) (by kernel_rfl) (fun _ _ _ h => h) (Or.inl ⟨by rfl, fun w' _ => by go_simp⟩) hH ?_
          refine wpAnyH_take (i := 6) (v := .slice o.ka o.kn o.kc) rfl (by kernel_rfl) (by kernel_rfl) (by kernel_rfl) (fun _ _ _ h => h) (Or.inl ⟨by rfl, fun w' hw' => by have h2 : w'.cell? ⟨X, 2, none⟩ = some (.slice o.ka o.kn o.kc) := Blk.cell hw'.1 2; go_simp⟩) hH ?_
          refine wpAnyH_take (i := 8) (v := .pointer (some ⟨X, 3, none⟩)) rfl (by kernel_rfl) (by kernel_rfl) (by kernel_rfl) (fun _ _ _ h => h) (Or.inl ⟨by rfl, fun w' _ => by go_simp⟩) hH ?_
          refine wpAnyH_take (i := 9) (v := .int .u64 o.ct) rfl (by kernel_rfl) (by kernel_rfl) (by kernel_rfl) (fun _ _ _ h => h) (Or.inl ⟨by rfl, fun w' hw' => by have h2 : w'.cell? ⟨X, 3, none⟩ = some (.int .u64 o.ct) := Blk.cell hw'.1 3; go_simp⟩) hH ?_
          refine wpAnyH_take (i := 11) (v := .pointer (some ⟨X, 4, none⟩)) rfl (by kernel_rfl) (by kernel_rfl) (by kernel_rfl) (fun _ _ _ h => h) (Or.inl ⟨by rfl, fun w' _ => by go_simp⟩) hH ?_
          refine wpAnyH_take (i := 12) (v := .agg (bs o.sm).toArray) rfl (by kernel_rfl) (by kernel_rfl) (by kernel_rfl) (fun _ _ _ h => h) (yieldsIf_load_mid (by rfl) _ _ rfl X 4 (by kernel_rfl) _ _ (fun w' hw' => Blk.range hw'.1 o.sm_at) Try.underlying31 rfl (Try.sumSz' o.sm SM)) hH ?_
          refine wpAnyH_ready (rs := [4]) (by kernel_rfl) (by simp) ?_
          refine AllReadyH.cons rfl (fun K hK => ?_) AllReadyH.nil
          go_simp
          refine Calls.mono (high1_any _ o.lv) ?_
          rintro e q0 ⟨r0, rfl, m0⟩
          refine hK.out _ _ (⟨hH.1.keep0 (m0.2.1), hH.2.trans ((m0.2.1).mono hH.2.size)⟩) (fun h0 => ?_)
          clear hK K
          obtain ⟨b0, d0, hv⟩ := m0.1.form
          obtain ⟨n0, hn⟩ : ∃ nn : Nat, nn = ([o.lv % 256]).length := ⟨_, rfl⟩
          rw [← hn] at hv
          subst hv
          clear hn
          refine wpAnyH_ready (rs := [7]) (by kernel_rfl) (by simp) ?_
          refine AllReadyH.cons rfl (fun K hK => ?_) AllReadyH.nil
          go_simp
          refine Calls.mono (text_any (O1.out.ks.kept0 h0.2) (by omega)) ?_
          rintro e q1 ⟨r1, rfl, m1⟩
          refine hK.out _ _ (⟨h0.1.keep0 (m1.2.1), h0.2.trans ((m1.2.1).mono h0.2.size)⟩) (fun h1 => ?_)
          clear hK K
          obtain ⟨b1, d1, hv⟩ := m1.1.form
          obtain ⟨n1, hn⟩ : ∃ nn : Nat, nn = ((numB o.kl.length ++ o.kl)).length := ⟨_, rfl⟩
          rw [← hn] at hv
          subst hv
          clear hn
          refine wpAnyH_ready (rs := [10]) (by kernel_rfl) (by simp) ?_
          refine AllReadyH.cons rfl (fun K hK => ?_) AllReadyH.nil
          go_simp
          refine Calls.mono (num_any o.ct CT _) ?_
          rintro e q2 ⟨r2, rfl, m2⟩
          refine hK.out _ _ (⟨h1.1.keep0 (m2.2.1), h1.2.trans ((m2.2.1).mono h1.2.size)⟩) (fun h2 => ?_)
          clear hK K
          obtain ⟨b2, d2, hv⟩ := m2.1.form
          obtain ⟨n2, hn⟩ : ∃ nn : Nat, nn = (numB o.ct).length := ⟨_, rfl⟩
          rw [← hn] at hv
          subst hv
          clear hn
          refine wpAnyH_ready (rs := [13]) (by kernel_rfl) (by simp) ?_
          refine AllReadyH.cons rfl (fun K hK => ?_) AllReadyH.nil
          go_simp
          refine Calls.mono (xsum_any o.sm SM) ?_
          rintro e q3 ⟨r3, rfl, m3⟩
          refine hK.out _ _ (⟨h2.1.keep0 (m3.2.1), h2.2.trans ((m3.2.1).mono h2.2.size)⟩) (fun h3 => ?_)
          clear hK K
          obtain ⟨b3, d3, hv⟩ := m3.1.form
          obtain ⟨n3, hn⟩ : ∃ nn : Nat, nn = (o.sm).length := ⟨_, rfl⟩
          rw [← hn] at hv
          subst hv
          clear hn
          have hsrc : ∀ i, i < 5 → Src q3 ((fun i => match i with | 0 => Value.slice a1 1 c1 | 1 => Value.slice b0 n0 d0 | 2 => Value.slice b1 n1 d1 | 3 => Value.slice b2 n2 d2 | _ => Value.slice b3 n3 d3) i) ((fun i => match i with | 0 => [o.ki % 256] | 1 => [o.lv % 256] | 2 => (numB o.kl.length ++ o.kl) | 3 => numB o.ct | _ => o.sm) i) := by
            intro i hi
            match i, hi with
            | 0, _ => exact M1.out.1.src.kept0 h3.2
            | 1, _ => exact (((m0.1.src).kept0 m1.2.1).kept0 m2.2.1).kept0 m3.2.1
            | 2, _ => exact ((m1.1.src).kept0 m2.2.1).kept0 m3.2.1
            | 3, _ => exact (m2.1.src).kept0 m3.2.1
            | 4, _ => exact m3.1.src
          refine wpAnyH_ready (rs := [14]) (by kernel_rfl) (by simp) ?_
          refine AllReadyH.cons rfl (fun K hK => ?_) AllReadyH.nil
          go_simp
          refine hK.out _ _ (⟨h3.1.alloc _, h3.2.alloc h3.2.size _⟩) (fun hx => ?_)
          clear hK K
          refine wpAnyH_ready (rs := [15]) (by kernel_rfl) (by simp) ?_
          refine AllReadyH.cons rfl (fun K hK => ?_) AllReadyH.nil
          go_simp
          refine Calls.mono (join_any (pieces_newY (fun i hi => by match i, hi with | 0, _ => rfl | 1, _ => rfl | 2, _ => rfl | 3, _ => rfl | 4, _ => rfl) hsrc) (by decide) (by
            intro k hk
            match k, hk with | 0, _ => simp [flat]; try omega | 1, _ => simp [flat]; try omega | 2, _ => simp [flat]; try omega | 3, _ => simp [flat]; try omega | 4, _ => simp [flat]; try omega | 5, _ => simp [flat]; try omega)) ?_
          rintro e wj ⟨vj, rfl, mj⟩
          refine hK.out _ _ (⟨hx.1.keep0 (mj.2.1), hx.2.trans ((mj.2.1).mono hx.2.size)⟩) (fun hy => ?_)
          clear hK K hsrc
          have F : Hid (Made w wj vj o.bytes) := by
            have e : o.bytes = flat (fun i => match i with | 0 => [o.ki % 256] | 1 => [o.lv % 256] | 2 => (numB o.kl.length ++ o.kl) | 3 => numB o.ct | _ => o.sm) 5 := by simp [flat, Oc.bytes, Oc.body, Oc.nb, e4]
            rw [e]
            exact Made.upY mj (hBW1.trans (hx.2.mono hBW1.size))
          refine wpAnyH_ready (rs := [16]) (by kernel_rfl) (by simp) ?_
          refine AllReadyH.cons rfl (fun K hK => ?_) AllReadyH.nil
          go_simp
          refine hK.out _ _ hy (fun _ => ?_)
          clear hK K hH hx hy mj h0 m0 h1 m1 h2 m2 h3 m3
          refine wpAnyH_done (by kernel_rfl) ?_ _
          go_wp2_with fail
          go_ret
          exact ⟨_, rfl, F.out⟩
      · by_cases e4 : o.ki = 6
        · have e5 : ¬ o.ki = 4 := fun h => e3 (.inl h)
          have e6 : ¬ o.ki = 5 := fun h => e3 (.inr h)
          have t1 := numB_ten (n := o.kl.length) (by omega)
          have t2 := numB_ten CT
          have hBW1 : Below w.heap.size w w1 := HB.out.trans (M1.out.2.1.mono HB.out.size)
          go_upto_region 11 with fail
          refine wp_region_held_drew (S := fun w' => Blk w' X o.cells 111 ∧ Below w1.heap.size w1 w') (by kernel_rfl) (⟨B1.out.drew, (Below.refl _ _).drew⟩) (fun hH => ?_)
          refine wpAnyH_take (i := 0) (v := .slice a1 1 c1) rfl (by kernel_rfl) (by kernel_rfl) (by kernel_rfl) (fun _ _ _ h => h) (Or.inl ⟨by rfl, fun w' _ => by go_simp⟩) hH ?_
          refine wpAnyH_take (i := 1) (v := .pointer (some ⟨X, 1, none⟩)) rfl (by kernel_rfl) (by kernel_rfl) (by kernel_rfl) (fun _ _ _ h => h) (Or.inl ⟨by rfl, fun w' _ => by go_simp⟩) hH ?_
          refine wpAnyH_take (i := 2) (v := .int .i64 o.lv) rfl (by kernel_rfl) (by kernel_rfl) (by kernel_rfl) (fun _ _ _ h => h) (Or.inl ⟨by rfl, fun w' hw' => by have h2 : w'.cell? ⟨X, 1, none⟩ = some (.int .i64 o.lv) := Blk.cell hw'.1 1; go_simp⟩) hH ?_
          refine wpAnyH_take (i := 3) (v := .int .u64 (u64Y o.lv : Nat)) rfl (by kernel_rfl) (by kernel_rfl) (by kernel_rfl) (fun _ _ _ h => h) (Or.inl ⟨by rfl, fun w' _ => by go_simp⟩) hH ?_
          refine wpAnyH_take (i := 5) (v := .pointer (some ⟨X, 2, none⟩)) rfl (by kernel_rfl) (by kernel_rfl) (by kernel_rfl) (fun _ _ _ h => h) (Or.inl ⟨by rfl, fun w' _ => by go_simp⟩) hH ?_
          refine wpAnyH_take (i := 6) (v := .slice o.ka o.kn o.kc) rfl (by kernel_rfl) (by kernel_rfl) (by kernel_rfl) (fun _ _ _ h => h) (Or.inl ⟨by rfl, fun w' hw' => by have h2 : w'.cell? ⟨X, 2, none⟩ = some (.slice o.ka o.kn o.kc) := Blk.cell hw'.1 2; go_simp⟩) hH ?_
          refine wpAnyH_take (i := 8) (v := .pointer (some ⟨X, 3, none⟩)) rfl (by kernel_rfl) (by kernel_rfl) (by kernel_rfl) (fun _ _ _ h => h) (Or.inl ⟨by rfl, fun w' _ => by go_simp⟩) hH ?_
          refine wpAnyH_take (i := 9) (v := .int .u64 o.ct) rfl (by kernel_rfl) (by kernel_rfl) (by kernel_rfl) (fun _ _ _ h => h) (Or.inl ⟨by rfl, fun w' hw' => by have h2 : w'.cell? ⟨X, 3, none⟩ = some (.int .u64 o.ct) := Blk.cell hw'.1 3; go_simp⟩) hH ?_
          refine wpAnyH_ready (rs := [4]) (by kernel_rfl) (by simp) ?_
          refine AllReadyH.cons rfl (fun K hK => ?_) AllReadyH.nil
          go_simp
          refine Calls.mono (high1_any _ o.lv) ?_
          rintro e q0 ⟨r0, rfl, m0⟩
          refine hK.out _ _ (⟨hH.1.keep0 (m0.2.1), hH.2.trans ((m0.2.1).mono hH.2.size)⟩) (fun h0 => ?_)
          clear hK K
          obtain ⟨b0, d0, hv⟩ := m0.1.form
          obtain ⟨n0, hn⟩ : ∃ nn : Nat, nn = ([o.lv % 256]).length := ⟨_, rfl⟩
          rw [← hn] at hv
          subst hv
          clear hn
          refine wpAnyH_ready (rs := [7]) (by kernel_rfl) (by simp) ?_
          refine AllReadyH.cons rfl (fun K hK => ?_) AllReadyH.nil
          go_simp
          refine Calls.mono (text_any (O1.out.ks.kept0 h0.2) (by omega)) ?_
          rintro e q1 ⟨r1, rfl, m1⟩
          refine hK.out _ _ (⟨h0.1.keep0 (m1.2.1), h0.2.trans ((m1.2.1).mono h0.2.size)⟩) (fun h1 => ?_)
          clear hK K
          obtain ⟨b1, d1, hv⟩ := m1.1.form
          obtain ⟨n1, hn⟩ : ∃ nn : Nat, nn = ((numB o.kl.length ++ o.kl)).length := ⟨_, rfl⟩
          rw [← hn] at hv
          subst hv
          clear hn
          refine wpAnyH_ready (rs := [10]) (by kernel_rfl) (by simp) ?_
          refine AllReadyH.cons rfl (fun K hK => ?_) AllReadyH.nil
          go_simp
          refine Calls.mono (num_any o.ct CT _) ?_
          rintro e q2 ⟨r2, rfl, m2⟩
          refine hK.out _ _ (⟨h1.1.keep0 (m2.2.1), h1.2.trans ((m2.2.1).mono h1.2.size)⟩) (fun h2 => ?_)
          clear hK K
          obtain ⟨b2, d2, hv⟩ := m2.1.form
          obtain ⟨n2, hn⟩ : ∃ nn : Nat, nn = (numB o.ct).length := ⟨_, rfl⟩
          rw [← hn] at hv
          subst hv
          clear hn
          have hsrc : ∀ i, i < 4 → Src q2 ((fun i => match i with | 0 => Value.slice a1 1 c1 | 1 => Value.slice b0 n0 d0 | 2 => Value.slice b1 n1 d1 | _ => Value.slice b2 n2 d2) i) ((fun i => match i with | 0 => [o.ki % 256] | 1 => [o.lv % 256] | 2 => (numB o.kl.length ++ o.kl) | _ => numB o.ct) i) := by
            intro i hi
            match i, hi with
            | 0, _ => exact M1.out.1.src.kept0 h2.2
            | 1, _ => exact ((m0.1.src).kept0 m1.2.1).kept0 m2.2.1
            | 2, _ => exact (m1.1.src).kept0 m2.2.1
            | 3, _ => exact m2.1.src
          refine wpAnyH_ready (rs := [11]) (by kernel_rfl) (by simp) ?_
          refine AllReadyH.cons rfl (fun K hK => ?_) AllReadyH.nil
          go_simp
          refine hK.out _ _ (⟨h2.1.alloc _, h2.2.alloc h2.2.size _⟩) (fun hx => ?_)
          clear hK K
          refine wpAnyH_ready (rs := [12]) (by kernel_rfl) (by simp) ?_
          refine AllReadyH.cons rfl (fun K hK => ?_) AllReadyH.nil
          go_simp
          refine Calls.mono (join_any (pieces_newY (fun i hi => by match i, hi with | 0, _ => rfl | 1, _ => rfl | 2, _ => rfl | 3, _ => rfl) hsrc) (by decide) (by
            intro k hk
            match k, hk with | 0, _ => simp [flat]; try omega | 1, _ => simp [flat]; try omega | 2, _ => simp [flat]; try omega | 3, _ => simp [flat]; try omega | 4, _ => simp [flat]; try omega)) ?_
          rintro e wj ⟨vj, rfl, mj⟩
          refine hK.out _ _ (⟨hx.1.keep0 (mj.2.1), hx.2.trans ((mj.2.1).mono hx.2.size)⟩) (fun hy => ?_)
          clear hK K hsrc
          have F : Hid (Made w wj vj o.bytes) := by
            have e : o.bytes = flat (fun i => match i with | 0 => [o.ki % 256] | 1 => [o.lv % 256] | 2 => (numB o.kl.length ++ o.kl) | _ => numB o.ct) 4 := by simp [flat, Oc.bytes, Oc.body, Oc.nb, e4]
            rw [e]
            exact Made.upY mj (hBW1.trans (hx.2.mono hBW1.size))
          refine wpAnyH_ready (rs := [13]) (by kernel_rfl) (by simp) ?_
          refine AllReadyH.cons rfl (fun K hK => ?_) AllReadyH.nil
          go_simp
          refine hK.out _ _ hy (fun _ => ?_)
          clear hK K hH hx hy mj h0 m0 h1 m1 h2 m2
          refine wpAnyH_done (by kernel_rfl) ?_ _
          go_wp2_with fail
          go_ret
          exact ⟨_, rfl, F.out⟩
        · have e5 : ¬ o.ki = 4 := fun h => e3 (.inl h)
          have e6 : ¬ o.ki = 5 := fun h => e3 (.inr h)
          have F : Hid (Made w w1 (.slice a1 1 c1) o.bytes) := by
            have e : o.bytes = [o.ki % 256] := by simp [Oc.bytes, Oc.body, e1, e2, e3, e4]
            rw [e]
            exact Made.upY M1.out HB.out
          go_wp2_with fail
          go_ret
          exact ⟨_, rfl, F.out⟩
end Go.Proofs.Ytlmdljghhpkbiaa
