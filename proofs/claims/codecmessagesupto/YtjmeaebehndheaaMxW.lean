/-
  The reference writes messages.
-/
import Derived.Test.YtjmeaebehndheaaMxV
import Derived.Test.YtjmeaebehndheaaMxE
namespace Go.Proofs.Ytjmeaebehndheaa
open Go.RowKit

theorem cg_len {z : Cg} (h : z.ky.l.length ≤ 1048576 ∧ z.od.l.length ≤ 1048576 ∧ z.nw.l.length ≤ 1048576) : z.bytes.length ≤ 3145800 := by
  have t1 := numB_ten (n := z.ky.l.length) (by omega)
  have t2 := numB_ten (n := z.od.l.length) (by omega)
  have t3 := numB_ten (n := z.nw.l.length) (by omega)
  unfold Cg.bytes Tx.bytes
  split <;> split <;> simp <;> omega
theorem sp_len {s : Sp} (h1 : s.lo.l.length ≤ 1048576) (h2 : s.hi.l.length ≤ 1048576) : s.bytes.length ≤ 2100000 := by
  have t1 := numB_ten (n := s.lo.l.length) (by omega)
  have t2 := numB_ten (n := s.hi.l.length) (by omega)
  unfold Sp.bytes Tx.bytes
  split <;> simp <;> omega
set_option maxRecDepth 100000 in
set_option maxHeartbeats 16000000 in
theorem xMessage_any {w : World} {o : Msg} (hO : MsIn w (fun g => g < w.heap.size) o) (l1 : o.sp.lo.l.length ≤ 1048576) (l2 : o.sp.hi.l.length ≤ 1048576) (l3 : o.bo.l.length ≤ 1048576) (hpn : o.pn ≤ 1048576) (hcn : o.cn ≤ 1048576) (hc : ∀ i, i < o.cn → (o.cs i).ky.l.length ≤ 1048576 ∧ (o.cs i).od.l.length ≤ 1048576 ∧ (o.cs i).nw.l.length ≤ 1048576) :
    Calls Try.prog 40 #[.agg o.cells.toArray] w fun e w' => ∃ u, e = .returned u ∧ Made w w' u o.bytes := by
  obtain ⟨W, hW⟩ : ∃ W, W = w.alloc (.cells o.cells.toArray 95) := ⟨_, rfl⟩
  obtain ⟨X, hX⟩ : ∃ X, X = w.heap.size := ⟨_, rfl⟩
  have hb : Below w.heap.size w W := by rw [hW]; exact (Below.refl _ _).alloc (Nat.le_refl _) _
  have B0 : Hid (Blk W X o.cells 95) := by rw [hW, hX]; exact Blk.made w o.cells 95
  have HB : Hid _ := hb
  have HP : Hid (MsIn W (fun g => g < W.heap.size) o) := hO.keep0 hb
  have HL := hO.hl
  have LB := hO.lb
  have n1 := numB_ten hO.ver
  have n2 := numB_ten hO.oth
  have n3 := numB_ten hO.hs
  have n4 := numB_ten hO.ct
  have n5 := numB_ten (n := o.bo.l.length) (by omega)
  have n6 := sp_len l1 l2
  obtain ⟨K, hK⟩ : ∃ K, K = o.ki := ⟨_, rfl⟩
  have HK : Hid _ := hK
  have k0 : W.cell? ⟨X, 0, none⟩ = some (.int .i64 K) := by rw [hK]; exact B0.out.cell 0
  have hwk := u64Y_wrap K
  clear hO hb hK
  go_enter Try.func40, Try.ntmps40
  go_upto_region 1 with fail
  rw [← hW, ← hX]
  clear hW hX
  go_wp2_with fail
  refine Calls.mono (high1_any _ K) ?_
  rintro e w1 ⟨kv, rfl, mk⟩
  obtain ⟨va, vc, hv⟩ := mk.1.form
  obtain ⟨vn, hn⟩ : ∃ nn : Nat, nn = ([K % 256]).length := ⟨_, rfl⟩
  rw [← hn] at hv
  subst hv
  clear hn hwk k0
  have MK : Hid (Made W w1 (.slice va vn vc) [K % 256]) := mk
  have BW : Hid (Below W.heap.size W w1) := mk.2.1
  have B1 : Hid (Blk w1 X o.cells 95) := B0.out.keep0 mk.2.1
  clear mk
  by_cases q2 : K = 2
  · subst q2
    have kz : w1.cell? ⟨X, 0, none⟩ = some (.int .i64 2) := by rw [B1.out.cell, HK.out]; rfl
    have EB : Hid (o.bytes = [(2 : Int) % 256] ++ (numB o.ver ++ o.sp.bytes)) := by show _ = _; rw [Msg.bytes, Msg.body, ← HK.out]; simp
    go_upto_region 4 with fail
    clear kz
    refine wp_region_held_drew (S := fun w' => Blk w' X o.cells 95 ∧ Below W.heap.size W w') (by kernel_rfl) (⟨B1.out.drew, BW.out.drew⟩) (fun hH => ?_)
    refine wpAnyH_take (i := 0) (v := .slice va vn vc) rfl (by kernel_rfl) (by kernel_rfl) (by kernel_rfl) (fun _ _ _ h => h) (Or.inl ⟨by rfl, fun w' _ => by go_simp⟩) hH ?_
    refine wpAnyH_take (i := 1) (v := .pointer (some ⟨X, 1, none⟩)) rfl (by kernel_rfl) (by kernel_rfl) (by kernel_rfl) (fun _ _ _ h => h) (Or.inl ⟨by rfl, fun w' _ => by go_simp⟩) hH ?_
    refine wpAnyH_take (i := 2) (v := .int .u64 o.ver) rfl (by kernel_rfl) (by kernel_rfl) (by kernel_rfl) (fun _ _ _ h => h) (Or.inl ⟨by rfl, fun w' hw' => by have h2 : w'.cell? ⟨X, 1, none⟩ = some (.int .u64 o.ver) := Blk.cell hw'.1 1; go_simp⟩) hH ?_
    refine wpAnyH_take (i := 4) (v := .pointer (some ⟨X, 3, none⟩)) rfl (by kernel_rfl) (by kernel_rfl) (by kernel_rfl) (fun _ _ _ h => h) (Or.inl ⟨by rfl, fun w' _ => by go_simp⟩) hH ?_
    refine wpAnyH_take (i := 5) (v := .agg o.sp.cells.toArray) rfl (by kernel_rfl) (by kernel_rfl) (by kernel_rfl) (fun _ _ _ h => h) (yieldsIf_load_mid (by rfl) _ _ rfl X 3 (by kernel_rfl) _ _ (fun w' hw' => Blk.range hw'.1 o.sp_at) Try.underlying89 rfl (Try.spSz _ _ _)) hH ?_
    refine wpAnyH_ready (rs := [3]) (by kernel_rfl) (by simp) ?_
    refine AllReadyH.cons rfl (fun K hK => ?_) AllReadyH.nil
    go_simp
    refine Calls.mono (num_any o.ver HP.out.ver _) ?_
    rintro e q0 ⟨r0, rfl, m0⟩
    refine hK.out _ _ (⟨hH.1.keep0 (m0.2.1), hH.2.trans ((m0.2.1).mono hH.2.size)⟩) (fun h0 => ?_)
    clear hK K
    obtain ⟨b0, c0, hv⟩ := m0.1.form
    obtain ⟨n0, hn⟩ : ∃ nn : Nat, nn = (numB o.ver).length := ⟨_, rfl⟩
    rw [← hn] at hv
    subst hv
    clear hn
    refine wpAnyH_ready (rs := [6]) (by kernel_rfl) (by simp) ?_
    refine AllReadyH.cons rfl (fun K hK => ?_) AllReadyH.nil
    go_simp
    refine Calls.mono (xSpanB_any (Src.kept0 HP.out.sp.lo.s h0.2) (Src.kept0 HP.out.sp.hi.s h0.2) l1 l2) ?_
    rintro e q1 ⟨r1, rfl, m1⟩
    refine hK.out _ _ (⟨h0.1.keep0 (m1.2.1), h0.2.trans ((m1.2.1).mono h0.2.size)⟩) (fun h1 => ?_)
    clear hK K
    obtain ⟨b1, c1, hv⟩ := m1.1.form
    obtain ⟨n1, hn⟩ : ∃ nn : Nat, nn = (o.sp.bytes).length := ⟨_, rfl⟩
    rw [← hn] at hv
    subst hv
    clear hn
    have hsrc : ∀ i, i < 3 → Src q1 ((fun i => match i with | 0 => Value.slice va vn vc | 1 => Value.slice b0 n0 c0 | _ => Value.slice b1 n1 c1) i) ((fun i => match i with | 0 => [(2 : Int) % 256] | 1 => numB o.ver | _ => o.sp.bytes) i) := by
      intro i hi
      match i, hi with
      | 0, _ => exact Src.kept0 (Src.kept0 (Src.kept MK.out.1.src ((Chg.refl (fun _ => False) _).drew) (fun _ _ e => e)) m0.2.1) m1.2.1
      | 1, _ => exact Src.kept0 (m0.1.src) m1.2.1
      | 2, _ => exact m1.1.src
    refine wpAnyH_ready (rs := [7]) (by kernel_rfl) (by simp) ?_
    refine AllReadyH.cons rfl (fun K hK => ?_) AllReadyH.nil
    go_simp
    refine hK.out _ _ (⟨h1.1.alloc _, h1.2.alloc h1.2.size _⟩) (fun hx => ?_)
    clear hK K
    refine wpAnyH_ready (rs := [8]) (by kernel_rfl) (by simp) ?_
    refine AllReadyH.cons rfl (fun K hK => ?_) AllReadyH.nil
    go_simp
    have PN := pieces_newY (cs := #[Value.slice va vn vc, Value.slice b0 n0 c0, Value.slice b1 n1 c1]) (t := 23) (fun i hi => by match i, hi with | 0, _ => rfl | 1, _ => rfl | 2, _ => rfl) hsrc
    refine Calls.mono (join_any PN (by decide) (by
      intro k hk
      match k, hk with | 0, _ => simp [flat]; try omega | 1, _ => simp [flat]; try omega | 2, _ => simp [flat]; try omega | 3, _ => simp [flat]; try omega)) ?_
    rintro e wj ⟨vj, rfl, mj⟩
    refine hK.out _ _ (⟨hx.1.keep0 (mj.2.1), hx.2.trans ((mj.2.1).mono hx.2.size)⟩) (fun hy => ?_)
    clear hK K hsrc PN
    have F : Hid (Made W wj vj ([(2 : Int) % 256] ++ (numB o.ver ++ o.sp.bytes))) := by
      have e2 : [(2 : Int) % 256] ++ (numB o.ver ++ o.sp.bytes) = flat (fun i => match i with | 0 => [(2 : Int) % 256] | 1 => numB o.ver | _ => o.sp.bytes) 3 := by simp [flat]
      rw [e2]
      exact Made.upY mj hx.2
    refine wpAnyH_ready (rs := [9]) (by kernel_rfl) (by simp) ?_
    refine AllReadyH.cons rfl (fun K hK => ?_) AllReadyH.nil
    go_simp
    refine hK.out _ _ hy (fun _ => ?_)
    clear hK K hx hy mj
    refine wpAnyH_done (by kernel_rfl) ?_ _
    go_wp2_with fail
    go_ret
    exact ⟨vj, rfl, by rw [EB.out]; exact Made.upY F.out HB.out⟩
  · by_cases q3 : K = 3
    · subst q3
      have kz : w1.cell? ⟨X, 0, none⟩ = some (.int .i64 3) := by rw [B1.out.cell, HK.out]; rfl
      have EB : Hid (o.bytes = [(3 : Int) % 256] ++ (numB o.ver)) := by show _ = _; rw [Msg.bytes, Msg.body, ← HK.out]; simp
      have kx : w1.cell? ⟨X, 1, none⟩ = some (.int .u64 o.ver) := B1.out.cell 1
      go_wp2_with fail
      refine Calls.mono (num_any o.ver HP.out.ver _) ?_
      rintro e q0 ⟨r0, rfl, m0⟩
      have BQ : Hid (Below W.heap.size W q0) := BW.out.trans (m0.2.1.mono BW.out.size)
      clear kx kz
      obtain ⟨ta, tc, hv⟩ := m0.1.form
      obtain ⟨tn, hn⟩ : ∃ nn : Nat, nn = (numB o.ver).length := ⟨_, rfl⟩
      rw [← hn] at hv
      subst hv
      clear hn
      have hsrc : ∀ i, i < 2 → Src q0 ((fun i => match i with | 0 => Value.slice va vn vc | _ => Value.slice ta tn tc) i) ((fun i => match i with | 0 => [(3 : Int) % 256] | _ => numB o.ver) i) := by
        intro i hi
        match i, hi with
        | 0, _ => exact Src.kept0 MK.out.1.src m0.2.1
        | 1, _ => exact m0.1.src
      have PN := pieces_newY (cs := #[Value.slice va vn vc, Value.slice ta tn tc]) (t := 23) (fun i hi => by match i, hi with | 0, _ => rfl | 1, _ => rfl) hsrc
      go_wp2_with fail
      refine Calls.mono (join_any PN (by decide) (by
        intro k hk
        match k, hk with | 0, _ => simp [flat]; try omega | 1, _ => simp [flat]; try omega | 2, _ => simp [flat]; try omega)) ?_
      rintro e wj ⟨vj, rfl, mj⟩
      have F : Hid (Made W wj vj ([(3 : Int) % 256] ++ numB o.ver)) := by
        have e2 : [(3 : Int) % 256] ++ numB o.ver = flat (fun i => match i with | 0 => [(3 : Int) % 256] | _ => numB o.ver) 2 := by simp [flat]
        rw [e2]
        exact Made.upY mj (BQ.out.alloc BQ.out.size _)
      clear hsrc PN mj
      go_wp2_with fail
      go_ret
      exact ⟨vj, rfl, by rw [EB.out]; exact Made.upY F.out HB.out⟩
    · by_cases q4 : K = 4
      · subst q4
        have kz : w1.cell? ⟨X, 0, none⟩ = some (.int .i64 4) := by rw [B1.out.cell, HK.out]; rfl
        have EB : Hid (o.bytes = [(4 : Int) % 256] ++ (numB o.oth)) := by show _ = _; rw [Msg.bytes, Msg.body, ← HK.out]; simp
        have kx : w1.cell? ⟨X, 2, none⟩ = some (.int .u64 o.oth) := B1.out.cell 2
        go_wp2_with fail
        refine Calls.mono (num_any o.oth HP.out.oth _) ?_
        rintro e q0 ⟨r0, rfl, m0⟩
        have BQ : Hid (Below W.heap.size W q0) := BW.out.trans (m0.2.1.mono BW.out.size)
        clear kx kz
        obtain ⟨ta, tc, hv⟩ := m0.1.form
        obtain ⟨tn, hn⟩ : ∃ nn : Nat, nn = (numB o.oth).length := ⟨_, rfl⟩
        rw [← hn] at hv
        subst hv
        clear hn
        have hsrc : ∀ i, i < 2 → Src q0 ((fun i => match i with | 0 => Value.slice va vn vc | _ => Value.slice ta tn tc) i) ((fun i => match i with | 0 => [(4 : Int) % 256] | _ => numB o.oth) i) := by
          intro i hi
          match i, hi with
          | 0, _ => exact Src.kept0 MK.out.1.src m0.2.1
          | 1, _ => exact m0.1.src
        have PN := pieces_newY (cs := #[Value.slice va vn vc, Value.slice ta tn tc]) (t := 23) (fun i hi => by match i, hi with | 0, _ => rfl | 1, _ => rfl) hsrc
        go_wp2_with fail
        refine Calls.mono (join_any PN (by decide) (by
          intro k hk
          match k, hk with | 0, _ => simp [flat]; try omega | 1, _ => simp [flat]; try omega | 2, _ => simp [flat]; try omega)) ?_
        rintro e wj ⟨vj, rfl, mj⟩
        have F : Hid (Made W wj vj ([(4 : Int) % 256] ++ numB o.oth)) := by
          have e2 : [(4 : Int) % 256] ++ numB o.oth = flat (fun i => match i with | 0 => [(4 : Int) % 256] | _ => numB o.oth) 2 := by simp [flat]
          rw [e2]
          exact Made.upY mj (BQ.out.alloc BQ.out.size _)
        clear hsrc PN mj
        go_wp2_with fail
        go_ret
        exact ⟨vj, rfl, by rw [EB.out]; exact Made.upY F.out HB.out⟩
      · by_cases q5 : K = 5
        · subst q5
          have kz : w1.cell? ⟨X, 0, none⟩ = some (.int .i64 5) := by rw [B1.out.cell, HK.out]; rfl
          have EB : Hid (o.bytes = [(5 : Int) % 256] ++ (numB o.oth ++ numB o.ver)) := by show _ = _; rw [Msg.bytes, Msg.body, ← HK.out]; simp
          go_upto_region 10 with fail
          clear kz
          refine wp_region_held_drew (S := fun w' => Blk w' X o.cells 95 ∧ Below W.heap.size W w') (by kernel_rfl) (⟨B1.out.drew, BW.out.drew⟩) (fun hH => ?_)
          refine wpAnyH_take (i := 0) (v := .slice va vn vc) rfl (by kernel_rfl) (by kernel_rfl) (by kernel_rfl) (fun _ _ _ h => h) (Or.inl ⟨by rfl, fun w' _ => by go_simp⟩) hH ?_
          refine wpAnyH_take (i := 1) (v := .pointer (some ⟨X, 2, none⟩)) rfl (by kernel_rfl) (by kernel_rfl) (by kernel_rfl) (fun _ _ _ h => h) (Or.inl ⟨by rfl, fun w' _ => by go_simp⟩) hH ?_
          refine wpAnyH_take (i := 2) (v := .int .u64 o.oth) rfl (by kernel_rfl) (by kernel_rfl) (by kernel_rfl) (fun _ _ _ h => h) (Or.inl ⟨by rfl, fun w' hw' => by have h2 : w'.cell? ⟨X, 2, none⟩ = some (.int .u64 o.oth) := Blk.cell hw'.1 2; go_simp⟩) hH ?_
          refine wpAnyH_take (i := 4) (v := .pointer (some ⟨X, 1, none⟩)) rfl (by kernel_rfl) (by kernel_rfl) (by kernel_rfl) (fun _ _ _ h => h) (Or.inl ⟨by rfl, fun w' _ => by go_simp⟩) hH ?_
          refine wpAnyH_take (i := 5) (v := .int .u64 o.ver) rfl (by kernel_rfl) (by kernel_rfl) (by kernel_rfl) (fun _ _ _ h => h) (Or.inl ⟨by rfl, fun w' hw' => by have h2 : w'.cell? ⟨X, 1, none⟩ = some (.int .u64 o.ver) := Blk.cell hw'.1 1; go_simp⟩) hH ?_
          refine wpAnyH_ready (rs := [3]) (by kernel_rfl) (by simp) ?_
          refine AllReadyH.cons rfl (fun K hK => ?_) AllReadyH.nil
          go_simp
          refine Calls.mono (num_any o.oth HP.out.oth _) ?_
          rintro e q0 ⟨r0, rfl, m0⟩
          refine hK.out _ _ (⟨hH.1.keep0 (m0.2.1), hH.2.trans ((m0.2.1).mono hH.2.size)⟩) (fun h0 => ?_)
          clear hK K
          obtain ⟨b0, c0, hv⟩ := m0.1.form
          obtain ⟨n0, hn⟩ : ∃ nn : Nat, nn = (numB o.oth).length := ⟨_, rfl⟩
          rw [← hn] at hv
          subst hv
          clear hn
          refine wpAnyH_ready (rs := [6]) (by kernel_rfl) (by simp) ?_
          refine AllReadyH.cons rfl (fun K hK => ?_) AllReadyH.nil
          go_simp
          refine Calls.mono (num_any o.ver HP.out.ver _) ?_
          rintro e q1 ⟨r1, rfl, m1⟩
          refine hK.out _ _ (⟨h0.1.keep0 (m1.2.1), h0.2.trans ((m1.2.1).mono h0.2.size)⟩) (fun h1 => ?_)
          clear hK K
          obtain ⟨b1, c1, hv⟩ := m1.1.form
          obtain ⟨n1, hn⟩ : ∃ nn : Nat, nn = (numB o.ver).length := ⟨_, rfl⟩
          rw [← hn] at hv
          subst hv
          clear hn
          have hsrc : ∀ i, i < 3 → Src q1 ((fun i => match i with | 0 => Value.slice va vn vc | 1 => Value.slice b0 n0 c0 | _ => Value.slice b1 n1 c1) i) ((fun i => match i with | 0 => [(5 : Int) % 256] | 1 => numB o.oth | _ => numB o.ver) i) := by
            intro i hi
            match i, hi with
            | 0, _ => exact Src.kept0 (Src.kept0 (Src.kept MK.out.1.src ((Chg.refl (fun _ => False) _).drew) (fun _ _ e => e)) m0.2.1) m1.2.1
            | 1, _ => exact Src.kept0 (m0.1.src) m1.2.1
            | 2, _ => exact m1.1.src
          refine wpAnyH_ready (rs := [7]) (by kernel_rfl) (by simp) ?_
          refine AllReadyH.cons rfl (fun K hK => ?_) AllReadyH.nil
          go_simp
          refine hK.out _ _ (⟨h1.1.alloc _, h1.2.alloc h1.2.size _⟩) (fun hx => ?_)
          clear hK K
          refine wpAnyH_ready (rs := [8]) (by kernel_rfl) (by simp) ?_
          refine AllReadyH.cons rfl (fun K hK => ?_) AllReadyH.nil
          go_simp
          have PN := pieces_newY (cs := #[Value.slice va vn vc, Value.slice b0 n0 c0, Value.slice b1 n1 c1]) (t := 23) (fun i hi => by match i, hi with | 0, _ => rfl | 1, _ => rfl | 2, _ => rfl) hsrc
          refine Calls.mono (join_any PN (by decide) (by
            intro k hk
            match k, hk with | 0, _ => simp [flat]; try omega | 1, _ => simp [flat]; try omega | 2, _ => simp [flat]; try omega | 3, _ => simp [flat]; try omega)) ?_
          rintro e wj ⟨vj, rfl, mj⟩
          refine hK.out _ _ (⟨hx.1.keep0 (mj.2.1), hx.2.trans ((mj.2.1).mono hx.2.size)⟩) (fun hy => ?_)
          clear hK K hsrc PN
          have F : Hid (Made W wj vj ([(5 : Int) % 256] ++ (numB o.oth ++ numB o.ver))) := by
            have e2 : [(5 : Int) % 256] ++ (numB o.oth ++ numB o.ver) = flat (fun i => match i with | 0 => [(5 : Int) % 256] | 1 => numB o.oth | _ => numB o.ver) 3 := by simp [flat]
            rw [e2]
            exact Made.upY mj hx.2
          refine wpAnyH_ready (rs := [9]) (by kernel_rfl) (by simp) ?_
          refine AllReadyH.cons rfl (fun K hK => ?_) AllReadyH.nil
          go_simp
          refine hK.out _ _ hy (fun _ => ?_)
          clear hK K hx hy mj
          refine wpAnyH_done (by kernel_rfl) ?_ _
          go_wp2_with fail
          go_ret
          exact ⟨vj, rfl, by rw [EB.out]; exact Made.upY F.out HB.out⟩
        · by_cases q11 : K = 11
          · subst q11
            have kz : w1.cell? ⟨X, 0, none⟩ = some (.int .i64 11) := by rw [B1.out.cell, HK.out]; rfl
            have EB : Hid (o.bytes = [(11 : Int) % 256] ++ (numB o.ver ++ (o.lb ++ (numB o.ct ++ (numB o.hs ++ o.hl))))) := by show _ = _; rw [Msg.bytes, Msg.body, ← HK.out]; simp
            go_upto_region 12 with fail
            clear kz
            refine wp_region_held_drew (S := fun w' => Blk w' X o.cells 95 ∧ Below W.heap.size W w') (by kernel_rfl) (⟨B1.out.drew, BW.out.drew⟩) (fun hH => ?_)
            refine wpAnyH_take (i := 0) (v := .slice va vn vc) rfl (by kernel_rfl) (by kernel_rfl) (by kernel_rfl) (fun _ _ _ h => h) (Or.inl ⟨by rfl, fun w' _ => by go_simp⟩) hH ?_
            refine wpAnyH_take (i := 1) (v := .pointer (some ⟨X, 1, none⟩)) rfl (by kernel_rfl) (by kernel_rfl) (by kernel_rfl) (fun _ _ _ h => h) (Or.inl ⟨by rfl, fun w' _ => by go_simp⟩) hH ?_
            refine wpAnyH_take (i := 2) (v := .int .u64 o.ver) rfl (by kernel_rfl) (by kernel_rfl) (by kernel_rfl) (fun _ _ _ h => h) (Or.inl ⟨by rfl, fun w' hw' => by have h2 : w'.cell? ⟨X, 1, none⟩ = some (.int .u64 o.ver) := Blk.cell hw'.1 1; go_simp⟩) hH ?_
            refine wpAnyH_take (i := 4) (v := .pointer (some ⟨X, 39, none⟩)) rfl (by kernel_rfl) (by kernel_rfl) (by kernel_rfl) (fun _ _ _ h => h) (Or.inl ⟨by rfl, fun w' _ => by go_simp⟩) hH ?_
            refine wpAnyH_take (i := 5) (v := .agg (bs o.lb).toArray) rfl (by kernel_rfl) (by kernel_rfl) (by kernel_rfl) (fun _ _ _ h => h) (yieldsIf_load_mid (by rfl) _ _ rfl X 39 (by kernel_rfl) _ _ (fun w' hw' => Blk.range hw'.1 (o.lb_at HL)) Try.underlying31 rfl (Try.sumSz' o.lb LB)) hH ?_
            refine wpAnyH_take (i := 7) (v := .pointer (some ⟨X, 71, none⟩)) rfl (by kernel_rfl) (by kernel_rfl) (by kernel_rfl) (fun _ _ _ h => h) (Or.inl ⟨by rfl, fun w' _ => by go_simp⟩) hH ?_
            refine wpAnyH_take (i := 8) (v := .int .u64 o.ct) rfl (by kernel_rfl) (by kernel_rfl) (by kernel_rfl) (fun _ _ _ h => h) (Or.inl ⟨by rfl, fun w' hw' => by have h2 : w'.cell? ⟨X, 71, none⟩ = some (.int .u64 o.ct) := (by rw [Blk.cell hw'.1]; exact o.at HL LB 0); go_simp⟩) hH ?_
            refine wpAnyH_take (i := 10) (v := .pointer (some ⟨X, 6, none⟩)) rfl (by kernel_rfl) (by kernel_rfl) (by kernel_rfl) (fun _ _ _ h => h) (Or.inl ⟨by rfl, fun w' _ => by go_simp⟩) hH ?_
            refine wpAnyH_take (i := 11) (v := .pointer (some ⟨X, 6, none⟩)) rfl (by kernel_rfl) (by kernel_rfl) (by kernel_rfl) (fun _ _ _ h => h) (Or.inl ⟨by rfl, fun w' _ => by go_simp⟩) hH ?_
            refine wpAnyH_take (i := 12) (v := .int .u64 o.hs) rfl (by kernel_rfl) (by kernel_rfl) (by kernel_rfl) (fun _ _ _ h => h) (Or.inl ⟨by rfl, fun w' hw' => by have h2 : w'.cell? ⟨X, 6, none⟩ = some (.int .u64 o.hs) := Blk.cell hw'.1 6; go_simp⟩) hH ?_
            refine wpAnyH_take (i := 14) (v := .pointer (some ⟨X, 6, none⟩)) rfl (by kernel_rfl) (by kernel_rfl) (by kernel_rfl) (fun _ _ _ h => h) (Or.inl ⟨by rfl, fun w' _ => by go_simp⟩) hH ?_
            refine wpAnyH_take (i := 15) (v := .pointer (some ⟨X, 7, none⟩)) rfl (by kernel_rfl) (by kernel_rfl) (by kernel_rfl) (fun _ _ _ h => h) (Or.inl ⟨by rfl, fun w' _ => by go_simp⟩) hH ?_
            refine wpAnyH_take (i := 16) (v := .agg (bs o.hl).toArray) rfl (by kernel_rfl) (by kernel_rfl) (by kernel_rfl) (fun _ _ _ h => h) (yieldsIf_load_mid (by rfl) _ _ rfl X 7 (by kernel_rfl) _ _ (fun w' hw' => Blk.range hw'.1 o.hl_at) Try.underlying31 rfl (Try.sumSz' o.hl HL)) hH ?_
            refine wpAnyH_ready (rs := [3]) (by kernel_rfl) (by simp) ?_
            refine AllReadyH.cons rfl (fun K hK => ?_) AllReadyH.nil
            go_simp
            refine Calls.mono (num_any o.ver HP.out.ver _) ?_
            rintro e q0 ⟨r0, rfl, m0⟩
            refine hK.out _ _ (⟨hH.1.keep0 (m0.2.1), hH.2.trans ((m0.2.1).mono hH.2.size)⟩) (fun h0 => ?_)
            clear hK K
            obtain ⟨b0, c0, hv⟩ := m0.1.form
            obtain ⟨n0, hn⟩ : ∃ nn : Nat, nn = (numB o.ver).length := ⟨_, rfl⟩
            rw [← hn] at hv
            subst hv
            clear hn
            refine wpAnyH_ready (rs := [6]) (by kernel_rfl) (by simp) ?_
            refine AllReadyH.cons rfl (fun K hK => ?_) AllReadyH.nil
            go_simp
            refine Calls.mono (xsum_any o.lb LB) ?_
            rintro e q1 ⟨r1, rfl, m1⟩
            refine hK.out _ _ (⟨h0.1.keep0 (m1.2.1), h0.2.trans ((m1.2.1).mono h0.2.size)⟩) (fun h1 => ?_)
            clear hK K
            obtain ⟨b1, c1, hv⟩ := m1.1.form
            obtain ⟨n1, hn⟩ : ∃ nn : Nat, nn = (o.lb).length := ⟨_, rfl⟩
            rw [← hn] at hv
            subst hv
            clear hn
            refine wpAnyH_ready (rs := [9]) (by kernel_rfl) (by simp) ?_
            refine AllReadyH.cons rfl (fun K hK => ?_) AllReadyH.nil
            go_simp
            refine Calls.mono (num_any o.ct HP.out.ct _) ?_
            rintro e q2 ⟨r2, rfl, m2⟩
            refine hK.out _ _ (⟨h1.1.keep0 (m2.2.1), h1.2.trans ((m2.2.1).mono h1.2.size)⟩) (fun h2 => ?_)
            clear hK K
            obtain ⟨b2, c2, hv⟩ := m2.1.form
            obtain ⟨n2, hn⟩ : ∃ nn : Nat, nn = (numB o.ct).length := ⟨_, rfl⟩
            rw [← hn] at hv
            subst hv
            clear hn
            refine wpAnyH_ready (rs := [13]) (by kernel_rfl) (by simp) ?_
            refine AllReadyH.cons rfl (fun K hK => ?_) AllReadyH.nil
            go_simp
            refine Calls.mono (num_any o.hs HP.out.hs _) ?_
            rintro e q3 ⟨r3, rfl, m3⟩
            refine hK.out _ _ (⟨h2.1.keep0 (m3.2.1), h2.2.trans ((m3.2.1).mono h2.2.size)⟩) (fun h3 => ?_)
            clear hK K
            obtain ⟨b3, c3, hv⟩ := m3.1.form
            obtain ⟨n3, hn⟩ : ∃ nn : Nat, nn = (numB o.hs).length := ⟨_, rfl⟩
            rw [← hn] at hv
            subst hv
            clear hn
            refine wpAnyH_ready (rs := [17]) (by kernel_rfl) (by simp) ?_
            refine AllReadyH.cons rfl (fun K hK => ?_) AllReadyH.nil
            go_simp
            refine Calls.mono (xsum_any o.hl HL) ?_
            rintro e q4 ⟨r4, rfl, m4⟩
            refine hK.out _ _ (⟨h3.1.keep0 (m4.2.1), h3.2.trans ((m4.2.1).mono h3.2.size)⟩) (fun h4 => ?_)
            clear hK K
            obtain ⟨b4, c4, hv⟩ := m4.1.form
            obtain ⟨n4, hn⟩ : ∃ nn : Nat, nn = (o.hl).length := ⟨_, rfl⟩
            rw [← hn] at hv
            subst hv
            clear hn
            have hsrc : ∀ i, i < 6 → Src q4 ((fun i => match i with | 0 => Value.slice va vn vc | 1 => Value.slice b0 n0 c0 | 2 => Value.slice b1 n1 c1 | 3 => Value.slice b2 n2 c2 | 4 => Value.slice b3 n3 c3 | _ => Value.slice b4 n4 c4) i) ((fun i => match i with | 0 => [(11 : Int) % 256] | 1 => numB o.ver | 2 => o.lb | 3 => numB o.ct | 4 => numB o.hs | _ => o.hl) i) := by
              intro i hi
              match i, hi with
              | 0, _ => exact Src.kept0 (Src.kept0 (Src.kept0 (Src.kept0 (Src.kept0 (Src.kept MK.out.1.src ((Chg.refl (fun _ => False) _).drew) (fun _ _ e => e)) m0.2.1) m1.2.1) m2.2.1) m3.2.1) m4.2.1
              | 1, _ => exact Src.kept0 (Src.kept0 (Src.kept0 (Src.kept0 (m0.1.src) m1.2.1) m2.2.1) m3.2.1) m4.2.1
              | 2, _ => exact Src.kept0 (Src.kept0 (Src.kept0 (m1.1.src) m2.2.1) m3.2.1) m4.2.1
              | 3, _ => exact Src.kept0 (Src.kept0 (m2.1.src) m3.2.1) m4.2.1
              | 4, _ => exact Src.kept0 (m3.1.src) m4.2.1
              | 5, _ => exact m4.1.src
            refine wpAnyH_ready (rs := [18]) (by kernel_rfl) (by simp) ?_
            refine AllReadyH.cons rfl (fun K hK => ?_) AllReadyH.nil
            go_simp
            refine hK.out _ _ (⟨h4.1.alloc _, h4.2.alloc h4.2.size _⟩) (fun hx => ?_)
            clear hK K
            refine wpAnyH_ready (rs := [19]) (by kernel_rfl) (by simp) ?_
            refine AllReadyH.cons rfl (fun K hK => ?_) AllReadyH.nil
            go_simp
            have PN := pieces_newY (cs := #[Value.slice va vn vc, Value.slice b0 n0 c0, Value.slice b1 n1 c1, Value.slice b2 n2 c2, Value.slice b3 n3 c3, Value.slice b4 n4 c4]) (t := 23) (fun i hi => by match i, hi with | 0, _ => rfl | 1, _ => rfl | 2, _ => rfl | 3, _ => rfl | 4, _ => rfl | 5, _ => rfl) hsrc
            refine Calls.mono (join_any PN (by decide) (by
              intro k hk
              match k, hk with | 0, _ => simp [flat]; try omega | 1, _ => simp [flat]; try omega | 2, _ => simp [flat]; try omega | 3, _ => simp [flat]; try omega | 4, _ => simp [flat]; try omega | 5, _ => simp [flat]; try omega | 6, _ => simp [flat]; try omega)) ?_
            rintro e wj ⟨vj, rfl, mj⟩
            refine hK.out _ _ (⟨hx.1.keep0 (mj.2.1), hx.2.trans ((mj.2.1).mono hx.2.size)⟩) (fun hy => ?_)
            clear hK K hsrc PN
            have F : Hid (Made W wj vj ([(11 : Int) % 256] ++ (numB o.ver ++ (o.lb ++ (numB o.ct ++ (numB o.hs ++ o.hl)))))) := by
              have e2 : [(11 : Int) % 256] ++ (numB o.ver ++ (o.lb ++ (numB o.ct ++ (numB o.hs ++ o.hl)))) = flat (fun i => match i with | 0 => [(11 : Int) % 256] | 1 => numB o.ver | 2 => o.lb | 3 => numB o.ct | 4 => numB o.hs | _ => o.hl) 6 := by simp [flat]
              rw [e2]
              exact Made.upY mj hx.2
            refine wpAnyH_ready (rs := [20]) (by kernel_rfl) (by simp) ?_
            refine AllReadyH.cons rfl (fun K hK => ?_) AllReadyH.nil
            go_simp
            refine hK.out _ _ hy (fun _ => ?_)
            clear hK K hx hy mj
            refine wpAnyH_done (by kernel_rfl) ?_ _
            go_wp2_with fail
            go_ret
            exact ⟨vj, rfl, by rw [EB.out]; exact Made.upY F.out HB.out⟩
          · by_cases q12 : K = 12
            · subst q12
              have kz : w1.cell? ⟨X, 0, none⟩ = some (.int .i64 12) := by rw [B1.out.cell, HK.out]; rfl
              have EB : Hid (o.bytes = [(12 : Int) % 256] ++ ((numB o.bo.l.length ++ o.bo.l))) := by show _ = _; rw [Msg.bytes, Msg.body, ← HK.out]; simp [Tx.bytes]
              have kx : w1.cell? ⟨X, 73, none⟩ = some (o.bo.val) := by rw [B1.out.cell]; exact o.at HL LB 2
              go_wp2_with fail
              refine Calls.mono (text_any (Src.kept0 HP.out.bo.s BW.out) (by omega)) ?_
              rintro e q0 ⟨r0, rfl, m0⟩
              have BQ : Hid (Below W.heap.size W q0) := BW.out.trans (m0.2.1.mono BW.out.size)
              clear kx kz
              obtain ⟨ta, tc, hv⟩ := m0.1.form
              obtain ⟨tn, hn⟩ : ∃ nn : Nat, nn = ((numB o.bo.l.length ++ o.bo.l)).length := ⟨_, rfl⟩
              rw [← hn] at hv
              subst hv
              clear hn
              have hsrc : ∀ i, i < 2 → Src q0 ((fun i => match i with | 0 => Value.slice va vn vc | _ => Value.slice ta tn tc) i) ((fun i => match i with | 0 => [(12 : Int) % 256] | _ => (numB o.bo.l.length ++ o.bo.l)) i) := by
                intro i hi
                match i, hi with
                | 0, _ => exact Src.kept0 MK.out.1.src m0.2.1
                | 1, _ => exact m0.1.src
              have PN := pieces_newY (cs := #[Value.slice va vn vc, Value.slice ta tn tc]) (t := 23) (fun i hi => by match i, hi with | 0, _ => rfl | 1, _ => rfl) hsrc
              go_wp2_with fail
              refine Calls.mono (join_any PN (by decide) (by
                intro k hk
                match k, hk with | 0, _ => simp [flat]; try omega | 1, _ => simp [flat]; try omega | 2, _ => simp [flat]; try omega)) ?_
              rintro e wj ⟨vj, rfl, mj⟩
              have F : Hid (Made W wj vj ([(12 : Int) % 256] ++ (numB o.bo.l.length ++ o.bo.l))) := by
                have e2 : [(12 : Int) % 256] ++ (numB o.bo.l.length ++ o.bo.l) = flat (fun i => match i with | 0 => [(12 : Int) % 256] | _ => (numB o.bo.l.length ++ o.bo.l)) 2 := by simp [flat]
                rw [e2]
                exact Made.upY mj (BQ.out.alloc BQ.out.size _)
              clear hsrc PN mj
              go_wp2_with fail
              go_ret
              exact ⟨vj, rfl, by rw [EB.out]; exact Made.upY F.out HB.out⟩
            · by_cases q13 : K = 13
              · subst q13
                have kz : w1.cell? ⟨X, 0, none⟩ = some (.int .i64 13) := by rw [B1.out.cell, HK.out]; rfl
                have EB : Hid (o.bytes = [(13 : Int) % 256] ++ (numB o.pn ++ recsB o.ps o.pn)) := by show _ = _; rw [Msg.bytes, Msg.body, ← HK.out]; simp
                have hwn : IntKind.wrap .u64 (o.pn : Int) = (o.pn : Int) := by rw [IntKind.wrap_u64]; omega
                have nn1 := numB_ten (n := o.pn) (by omega)
                have kx : w1.cell? ⟨X, 74, none⟩ = some (.slice o.pa o.pn o.pc) := by rw [B1.out.cell]; exact o.at HL LB 3
                go_wp2_with fail
                refine Calls.mono (num_any o.pn (by omega) _) ?_
                rintro e q0 ⟨r0, rfl, m0⟩
                have BQ : Hid (Below W.heap.size W q0) := BW.out.trans (m0.2.1.mono BW.out.size)
                clear kx kz
                obtain ⟨ta, tc, hv⟩ := m0.1.form
                obtain ⟨tn, hn⟩ : ∃ nn : Nat, nn = (numB o.pn).length := ⟨_, rfl⟩
                rw [← hn] at hv
                subst hv
                clear hn
                have hsrc : ∀ i, i < 2 → Src q0 ((fun i => match i with | 0 => Value.slice va vn vc | _ => Value.slice ta tn tc) i) ((fun i => match i with | 0 => [(13 : Int) % 256] | _ => numB o.pn) i) := by
                  intro i hi
                  match i, hi with
                  | 0, _ => exact Src.kept0 MK.out.1.src m0.2.1
                  | 1, _ => exact m0.1.src
                have PN := pieces_newY (cs := #[Value.slice va vn vc, Value.slice ta tn tc]) (t := 23) (fun i hi => by match i, hi with | 0, _ => rfl | 1, _ => rfl) hsrc
                go_wp2_with fail
                refine Calls.mono (join_any PN (by decide) (by
                  intro k hk
                  match k, hk with | 0, _ => simp [flat]; try omega | 1, _ => simp [flat]; try omega | 2, _ => simp [flat]; try omega)) ?_
                rintro e wj ⟨vj, rfl, mj⟩
                have F : Hid (Made W wj vj ([(13 : Int) % 256] ++ numB o.pn)) := by
                  have e2 : [(13 : Int) % 256] ++ numB o.pn = flat (fun i => match i with | 0 => [(13 : Int) % 256] | _ => numB o.pn) 2 := by simp [flat]
                  rw [e2]
                  exact Made.upY mj (BQ.out.alloc BQ.out.size _)
                clear hsrc PN mj
                obtain ⟨M1, hM1⟩ : ∃ M1, M1 = [(13 : Int) % 256] ++ numB o.pn := ⟨_, rfl⟩
                rw [← hM1] at F
                have LM1 : M1.length ≤ 20 := by rw [hM1]; simp; omega
                have HM1 : Hid _ := hM1
                have k6 : wj.cell? ⟨X, 74, none⟩ = some (.slice o.pa o.pn o.pc) := by rw [(B0.out.keep0 F.out.2.1).cell]; exact o.at HL LB 3
                clear hM1 m0 MK B1 BW BQ
                go_wp2_with fail
                clear k6
                go_loopw [4, 98] (fun v i wr => ∃ j : Nat, j ≤ o.pn ∧ i = .int .i64 j ∧ Hid (Made W wr v (M1 ++ recsB o.ps j))) (fun _ i _ => o.pn - (intOf i).toNat)
                case atStart => exact ⟨0, Nat.zero_le _, rfl, by have h9 := F.out; rw [show M1 ++ recsB o.ps 0 = M1 by simp [recsB]]; exact h9⟩
                case round =>
                  obtain ⟨j, hj, rfl, hid⟩ := hrel
                  have HB1 : Hid _ := hid.out
                  clear hid
                  by_cases hlt : j < o.pn
                  · obtain ⟨g, qo, hsa, _, hrg⟩ := HP.out.pr j hlt
                    have hz := HP.out.pl j hlt
                    obtain ⟨z, hzz⟩ : ∃ z, z = o.ps j := ⟨_, rfl⟩
                    have hrg : W.rangeAt g (qo + j * 32) (bs z) := by rw [hzz]; exact hrg
                    rw [← hzz] at hz
                    have CZ : Hid (z = o.ps j) := hzz
                    have KB : (recsB o.ps j).length ≤ j * 32 := recsB_len j (fun i hi => by rw [HP.out.pl i (by omega)]; exact Nat.le_refl _)
                    have ZL : z.length ≤ 32 := by omega
                    have hix := ix_at Try.underlying92 Try.elem92 Try.so31 (c := o.pc) hsa hlt
                    have RG : Hid (wr.rangeAt g (qo + j * 32) (bs z)) := rangeAt_kept hrg (Chg.of_below HB1.out.2.1 (fun _ => False)) (fun e => e)
                    clear hrg hsa hzz
                    go_upto_region 21 with (first
                      | refine wpList_load_mid rfl 31 (.tmp 100) rfl g (qo + j * 32) rfl (bs z) _ RG.out Try.underlying31 rfl (Try.sumSz' z hz) ?_
                      | (refine wpList_store_part rfl 31 (.tmp 6) (.tmp 101) rfl wr.heap.size 0 (bs z) rfl rfl (t := 31) (cs := (bs (List.replicate 32 0))) ⟨heap_alloc_new _ _⟩ (by rw [bs_len, hz]; simp [bs]) (Try.sumSz' z hz) (bs_one z) ?_; intro wB hw8 hc8; rw [splice_all _ _ (by rw [bs_len, hz]; simp [bs])] at hw8; have c8 : Chg (fun _ => False) wr wB := ((Chg.refl (fun _ => False) wr).alloc _).trans hc8 (fun i e => .inr (by omega)); have BK : Hid _ := hw8; have CB : Hid _ := c8; clear hw8 hc8 c8))
                    obtain ⟨Lj, hLj⟩ : ∃ Lj, Lj = M1 ++ recsB o.ps j := ⟨_, rfl⟩
                    have LLj : Lj.length ≤ 20 + j * 32 := by rw [hLj, List.length_append]; omega
                    have MB : Hid (Made W wB u4 Lj) := by rw [hLj]; exact ⟨HB1.out.1.kept CB.out (fun _ _ e => e), HB1.out.2.1.trans (CB.out.below HB1.out.2.1.size (fun _ e => e.elim)), HB1.out.2.2⟩
                    have BWB : Hid (Below W.heap.size W wB) := MB.out.2.1
                    have HLJ : Hid _ := hLj
                    clear hLj hix HB1 RG CB
                    go_wp2_with (refine wpList_load_part rfl 31 (.tmp 6) rfl wr.heap.size 0 (bs z) rfl BK.out (by simp) Try.underlying31 rfl (Try.sumSz' z hz) ?_)
                    refine Calls.mono (xsum_any z hz) ?_
                    rintro e wC ⟨sv, rfl, ms⟩
                    obtain ⟨sa, sc, hv⟩ := ms.1.form
                    obtain ⟨sn, hn⟩ : ∃ nn : Nat, nn = (z).length := ⟨_, rfl⟩
                    rw [← hn] at hv
                    subst hv
                    clear hn
                    have MS : Hid (Made wB wC (.slice sa sn sc) (z)) := ms
                    have OV : Hid (Own wC u4 Lj) := MB.out.1.kept (Chg.of_below ms.2.1 (fun _ => False)) (fun _ _ e => e)
                    have B5 : Hid (Below W.heap.size W wC) := MB.out.2.1.trans (ms.2.1.mono MB.out.2.1.size)
                    clear ms
                    go_upto_region 22 with (refine wpList_app rfl (.tmp 102) (.tmp 104) rfl (v := u4) (u := .slice sa sn sc) rfl rfl OV.out MS.out.1.src (by omega) ?_; intro v9 w9 o9 c9 at9; have M9 : Hid (Made W w9 v9 (Lj ++ z)) := Made.app (w := W) ⟨OV.out, B5.out, MB.out.2.2⟩ o9 c9 at9; clear o9 c9 at9)
                    have FN : Hid (Made W w9 v9 (M1 ++ recsB o.ps (j + 1))) := by
                      have e : M1 ++ recsB o.ps (j + 1) = Lj ++ z := by
                        rw [HLJ.out, recsB, CZ.out]
                        simp
                      rw [e]
                      exact M9.out
                    go_wp2_with fail
                    go_roundw
                    case rel => exact ⟨j + 1, by omega, by go_num, FN.out⟩
                    case measure => simp [intOf]; omega
                  · have hjn : j = o.pn := by omega
                    rw [hjn] at HB1
                    go_wp2_with fail
                    go_ret
                    exact ⟨u4, rfl, by rw [EB.out, ← List.append_assoc, ← HM1.out]; exact Made.upY HB1.out HB.out⟩
              · by_cases q14 : K = 14
                · subst q14
                  have kz : w1.cell? ⟨X, 0, none⟩ = some (.int .i64 14) := by rw [B1.out.cell, HK.out]; rfl
                  have EB : Hid (o.bytes = [(14 : Int) % 256] ++ (numB o.pn ++ recsB o.ps o.pn)) := by show _ = _; rw [Msg.bytes, Msg.body, ← HK.out]; simp
                  have hwn : IntKind.wrap .u64 (o.pn : Int) = (o.pn : Int) := by rw [IntKind.wrap_u64]; omega
                  have nn1 := numB_ten (n := o.pn) (by omega)
                  have kx : w1.cell? ⟨X, 74, none⟩ = some (.slice o.pa o.pn o.pc) := by rw [B1.out.cell]; exact o.at HL LB 3
                  go_wp2_with fail
                  refine Calls.mono (num_any o.pn (by omega) _) ?_
                  rintro e q0 ⟨r0, rfl, m0⟩
                  have BQ : Hid (Below W.heap.size W q0) := BW.out.trans (m0.2.1.mono BW.out.size)
                  clear kx kz
                  obtain ⟨ta, tc, hv⟩ := m0.1.form
                  obtain ⟨tn, hn⟩ : ∃ nn : Nat, nn = (numB o.pn).length := ⟨_, rfl⟩
                  rw [← hn] at hv
                  subst hv
                  clear hn
                  have hsrc : ∀ i, i < 2 → Src q0 ((fun i => match i with | 0 => Value.slice va vn vc | _ => Value.slice ta tn tc) i) ((fun i => match i with | 0 => [(14 : Int) % 256] | _ => numB o.pn) i) := by
                    intro i hi
                    match i, hi with
                    | 0, _ => exact Src.kept0 MK.out.1.src m0.2.1
                    | 1, _ => exact m0.1.src
                  have PN := pieces_newY (cs := #[Value.slice va vn vc, Value.slice ta tn tc]) (t := 23) (fun i hi => by match i, hi with | 0, _ => rfl | 1, _ => rfl) hsrc
                  go_wp2_with fail
                  refine Calls.mono (join_any PN (by decide) (by
                    intro k hk
                    match k, hk with | 0, _ => simp [flat]; try omega | 1, _ => simp [flat]; try omega | 2, _ => simp [flat]; try omega)) ?_
                  rintro e wj ⟨vj, rfl, mj⟩
                  have F : Hid (Made W wj vj ([(14 : Int) % 256] ++ numB o.pn)) := by
                    have e2 : [(14 : Int) % 256] ++ numB o.pn = flat (fun i => match i with | 0 => [(14 : Int) % 256] | _ => numB o.pn) 2 := by simp [flat]
                    rw [e2]
                    exact Made.upY mj (BQ.out.alloc BQ.out.size _)
                  clear hsrc PN mj
                  obtain ⟨M1, hM1⟩ : ∃ M1, M1 = [(14 : Int) % 256] ++ numB o.pn := ⟨_, rfl⟩
                  rw [← hM1] at F
                  have LM1 : M1.length ≤ 20 := by rw [hM1]; simp; omega
                  have HM1 : Hid _ := hM1
                  have k6 : wj.cell? ⟨X, 74, none⟩ = some (.slice o.pa o.pn o.pc) := by rw [(B0.out.keep0 F.out.2.1).cell]; exact o.at HL LB 3
                  clear hM1 m0 MK B1 BW BQ
                  go_wp2_with fail
                  clear k6
                  go_loopw [4, 98] (fun v i wr => ∃ j : Nat, j ≤ o.pn ∧ i = .int .i64 j ∧ Hid (Made W wr v (M1 ++ recsB o.ps j))) (fun _ i _ => o.pn - (intOf i).toNat)
                  case atStart => exact ⟨0, Nat.zero_le _, rfl, by have h9 := F.out; rw [show M1 ++ recsB o.ps 0 = M1 by simp [recsB]]; exact h9⟩
                  case round =>
                    obtain ⟨j, hj, rfl, hid⟩ := hrel
                    have HB1 : Hid _ := hid.out
                    clear hid
                    by_cases hlt : j < o.pn
                    · obtain ⟨g, qo, hsa, _, hrg⟩ := HP.out.pr j hlt
                      have hz := HP.out.pl j hlt
                      obtain ⟨z, hzz⟩ : ∃ z, z = o.ps j := ⟨_, rfl⟩
                      have hrg : W.rangeAt g (qo + j * 32) (bs z) := by rw [hzz]; exact hrg
                      rw [← hzz] at hz
                      have CZ : Hid (z = o.ps j) := hzz
                      have KB : (recsB o.ps j).length ≤ j * 32 := recsB_len j (fun i hi => by rw [HP.out.pl i (by omega)]; exact Nat.le_refl _)
                      have ZL : z.length ≤ 32 := by omega
                      have hix := ix_at Try.underlying92 Try.elem92 Try.so31 (c := o.pc) hsa hlt
                      have RG : Hid (wr.rangeAt g (qo + j * 32) (bs z)) := rangeAt_kept hrg (Chg.of_below HB1.out.2.1 (fun _ => False)) (fun e => e)
                      clear hrg hsa hzz
                      go_upto_region 21 with (first
                        | refine wpList_load_mid rfl 31 (.tmp 100) rfl g (qo + j * 32) rfl (bs z) _ RG.out Try.underlying31 rfl (Try.sumSz' z hz) ?_
                        | (refine wpList_store_part rfl 31 (.tmp 6) (.tmp 101) rfl wr.heap.size 0 (bs z) rfl rfl (t := 31) (cs := (bs (List.replicate 32 0))) ⟨heap_alloc_new _ _⟩ (by rw [bs_len, hz]; simp [bs]) (Try.sumSz' z hz) (bs_one z) ?_; intro wB hw8 hc8; rw [splice_all _ _ (by rw [bs_len, hz]; simp [bs])] at hw8; have c8 : Chg (fun _ => False) wr wB := ((Chg.refl (fun _ => False) wr).alloc _).trans hc8 (fun i e => .inr (by omega)); have BK : Hid _ := hw8; have CB : Hid _ := c8; clear hw8 hc8 c8))
                      obtain ⟨Lj, hLj⟩ : ∃ Lj, Lj = M1 ++ recsB o.ps j := ⟨_, rfl⟩
                      have LLj : Lj.length ≤ 20 + j * 32 := by rw [hLj, List.length_append]; omega
                      have MB : Hid (Made W wB u4 Lj) := by rw [hLj]; exact ⟨HB1.out.1.kept CB.out (fun _ _ e => e), HB1.out.2.1.trans (CB.out.below HB1.out.2.1.size (fun _ e => e.elim)), HB1.out.2.2⟩
                      have BWB : Hid (Below W.heap.size W wB) := MB.out.2.1
                      have HLJ : Hid _ := hLj
                      clear hLj hix HB1 RG CB
                      go_wp2_with (refine wpList_load_part rfl 31 (.tmp 6) rfl wr.heap.size 0 (bs z) rfl BK.out (by simp) Try.underlying31 rfl (Try.sumSz' z hz) ?_)
                      refine Calls.mono (xsum_any z hz) ?_
                      rintro e wC ⟨sv, rfl, ms⟩
                      obtain ⟨sa, sc, hv⟩ := ms.1.form
                      obtain ⟨sn, hn⟩ : ∃ nn : Nat, nn = (z).length := ⟨_, rfl⟩
                      rw [← hn] at hv
                      subst hv
                      clear hn
                      have MS : Hid (Made wB wC (.slice sa sn sc) (z)) := ms
                      have OV : Hid (Own wC u4 Lj) := MB.out.1.kept (Chg.of_below ms.2.1 (fun _ => False)) (fun _ _ e => e)
                      have B5 : Hid (Below W.heap.size W wC) := MB.out.2.1.trans (ms.2.1.mono MB.out.2.1.size)
                      clear ms
                      go_upto_region 22 with (refine wpList_app rfl (.tmp 102) (.tmp 104) rfl (v := u4) (u := .slice sa sn sc) rfl rfl OV.out MS.out.1.src (by omega) ?_; intro v9 w9 o9 c9 at9; have M9 : Hid (Made W w9 v9 (Lj ++ z)) := Made.app (w := W) ⟨OV.out, B5.out, MB.out.2.2⟩ o9 c9 at9; clear o9 c9 at9)
                      have FN : Hid (Made W w9 v9 (M1 ++ recsB o.ps (j + 1))) := by
                        have e : M1 ++ recsB o.ps (j + 1) = Lj ++ z := by
                          rw [HLJ.out, recsB, CZ.out]
                          simp
                        rw [e]
                        exact M9.out
                      go_wp2_with fail
                      go_roundw
                      case rel => exact ⟨j + 1, by omega, by go_num, FN.out⟩
                      case measure => simp [intOf]; omega
                    · have hjn : j = o.pn := by omega
                      rw [hjn] at HB1
                      go_wp2_with fail
                      go_ret
                      exact ⟨u4, rfl, by rw [EB.out, ← List.append_assoc, ← HM1.out]; exact Made.upY HB1.out HB.out⟩
                · by_cases q15 : K = 15
                  · subst q15
                    have kz : w1.cell? ⟨X, 0, none⟩ = some (.int .i64 15) := by rw [B1.out.cell, HK.out]; rfl
                    have EB : Hid (o.bytes = [(15 : Int) % 256] ++ (numB o.cn ++ recsB (fun i => (o.cs i).bytes) o.cn)) := by show _ = _; rw [Msg.bytes, Msg.body, ← HK.out]; simp
                    have hwn : IntKind.wrap .u64 (o.cn : Int) = (o.cn : Int) := by rw [IntKind.wrap_u64]; omega
                    have nn1 := numB_ten (n := o.cn) (by omega)
                    have kx : w1.cell? ⟨X, 75, none⟩ = some (.slice o.ca o.cn o.cc) := by rw [B1.out.cell]; exact o.at HL LB 4
                    go_wp2_with fail
                    refine Calls.mono (num_any o.cn (by omega) _) ?_
                    rintro e q0 ⟨r0, rfl, m0⟩
                    have BQ : Hid (Below W.heap.size W q0) := BW.out.trans (m0.2.1.mono BW.out.size)
                    clear kx kz
                    obtain ⟨ta, tc, hv⟩ := m0.1.form
                    obtain ⟨tn, hn⟩ : ∃ nn : Nat, nn = (numB o.cn).length := ⟨_, rfl⟩
                    rw [← hn] at hv
                    subst hv
                    clear hn
                    have hsrc : ∀ i, i < 2 → Src q0 ((fun i => match i with | 0 => Value.slice va vn vc | _ => Value.slice ta tn tc) i) ((fun i => match i with | 0 => [(15 : Int) % 256] | _ => numB o.cn) i) := by
                      intro i hi
                      match i, hi with
                      | 0, _ => exact Src.kept0 MK.out.1.src m0.2.1
                      | 1, _ => exact m0.1.src
                    have PN := pieces_newY (cs := #[Value.slice va vn vc, Value.slice ta tn tc]) (t := 23) (fun i hi => by match i, hi with | 0, _ => rfl | 1, _ => rfl) hsrc
                    go_wp2_with fail
                    refine Calls.mono (join_any PN (by decide) (by
                      intro k hk
                      match k, hk with | 0, _ => simp [flat]; try omega | 1, _ => simp [flat]; try omega | 2, _ => simp [flat]; try omega)) ?_
                    rintro e wj ⟨vj, rfl, mj⟩
                    have F : Hid (Made W wj vj ([(15 : Int) % 256] ++ numB o.cn)) := by
                      have e2 : [(15 : Int) % 256] ++ numB o.cn = flat (fun i => match i with | 0 => [(15 : Int) % 256] | _ => numB o.cn) 2 := by simp [flat]
                      rw [e2]
                      exact Made.upY mj (BQ.out.alloc BQ.out.size _)
                    clear hsrc PN mj
                    obtain ⟨M1, hM1⟩ : ∃ M1, M1 = [(15 : Int) % 256] ++ numB o.cn := ⟨_, rfl⟩
                    rw [← hM1] at F
                    have LM1 : M1.length ≤ 20 := by rw [hM1]; simp; omega
                    have HM1 : Hid _ := hM1
                    have k6 : wj.cell? ⟨X, 75, none⟩ = some (.slice o.ca o.cn o.cc) := by rw [(B0.out.keep0 F.out.2.1).cell]; exact o.at HL LB 4
                    clear hM1 m0 MK B1 BW BQ
                    go_wp2_with fail
                    clear k6
                    go_loopw [7, 121] (fun v i wr => ∃ j : Nat, j ≤ o.cn ∧ i = .int .i64 j ∧ Hid (Made W wr v (M1 ++ recsB (fun i => (o.cs i).bytes) j))) (fun _ i _ => o.cn - (intOf i).toNat)
                    case atStart => exact ⟨0, Nat.zero_le _, rfl, by have h9 := F.out; rw [show M1 ++ recsB (fun i => (o.cs i).bytes) 0 = M1 by simp [recsB]]; exact h9⟩
                    case round =>
                      obtain ⟨j, hj, rfl, hid⟩ := hrel
                      have HB1 : Hid _ := hid.out
                      clear hid
                      by_cases hlt : j < o.cn
                      · obtain ⟨g, qo, hsa, _, hrg⟩ := HP.out.cr j hlt
                        have kin := HP.out.ci j hlt
                        obtain ⟨z, hzz⟩ : ∃ z, z = o.cs j := ⟨_, rfl⟩
                        have hrg : W.rangeAt g (qo + j * 5) z.cells := by rw [hzz]; exact hrg
                        have hcl := hc j hlt
                        rw [← hzz] at kin hcl
                        have KIN : Hid _ := kin
                        have CZ : Hid (z = o.cs j) := hzz
                        have KB : (recsB (fun i => (o.cs i).bytes) j).length ≤ j * 3145800 := recsB_len j (fun i hi => cg_len (hc i (by omega)))
                        have ZL : z.bytes.length ≤ 3145800 := cg_len hcl
                        clear kin
                        have hix := ix_at Try.underlying93 Try.elem93 Try.so215 (c := o.cc) hsa hlt
                        have RG : Hid (wr.rangeAt g (qo + j * 5) z.cells) := rangeAt_kept hrg (Chg.of_below HB1.out.2.1 (fun _ => False)) (fun e => e)
                        clear hrg hsa hzz
                        go_upto_region 29 with (first
                          | refine wpList_load_mid rfl 112 (.tmp 123) rfl g (qo + j * 5) rfl z.cells _ RG.out Try.underlying112 rfl (Try.cgSz z) ?_
                          | (refine wpList_store_part rfl 112 (.tmp 9) (.tmp 124) rfl wr.heap.size 0 z.cells rfl rfl (t := 112) ⟨heap_alloc_new _ _⟩ (by simp [Cg.cells]) (Try.cgSz z) z.one ?_; intro wB hw8 hc8; rw [splice_all _ _ (by simp [Cg.cells])] at hw8; have c8 : Chg (fun _ => False) wr wB := ((Chg.refl (fun _ => False) wr).alloc _).trans hc8 (fun i e => .inr (by omega)); have BK : Hid _ := hw8; have CB : Hid _ := c8; clear hw8 hc8 c8))
                        obtain ⟨Lj, hLj⟩ : ∃ Lj, Lj = M1 ++ recsB (fun i => (o.cs i).bytes) j := ⟨_, rfl⟩
                        have LLj : Lj.length ≤ 20 + j * 3145800 := by rw [hLj, List.length_append]; omega
                        have MB : Hid (Made W wB u7 Lj) := by rw [hLj]; exact ⟨HB1.out.1.kept CB.out (fun _ _ e => e), HB1.out.2.1.trans (CB.out.below HB1.out.2.1.size (fun _ e => e.elim)), HB1.out.2.2⟩
                        have BWB : Hid (Below W.heap.size W wB) := MB.out.2.1
                        have HLJ : Hid _ := hLj
                        clear hLj hix HB1 RG CB
                        go_wp2_with (refine wpList_load_part rfl 112 (.tmp 9) rfl wr.heap.size 0 z.cells rfl BK.out (by simp) Try.underlying112 rfl (Try.cgSz z) ?_)
                        refine Calls.mono (xChangeB_any (Src.kept0 KIN.out.ky.s BWB.out) (Src.kept0 KIN.out.od.s BWB.out) (Src.kept0 KIN.out.nw.s BWB.out) hcl.1 hcl.2.1 hcl.2.2) ?_
                        rintro e wC ⟨sv, rfl, ms⟩
                        obtain ⟨sa, sc, hv⟩ := ms.1.form
                        obtain ⟨sn, hn⟩ : ∃ nn : Nat, nn = (z.bytes).length := ⟨_, rfl⟩
                        rw [← hn] at hv
                        subst hv
                        clear hn
                        have MS : Hid (Made wB wC (.slice sa sn sc) (z.bytes)) := ms
                        have OV : Hid (Own wC u7 Lj) := MB.out.1.kept (Chg.of_below ms.2.1 (fun _ => False)) (fun _ _ e => e)
                        have B5 : Hid (Below W.heap.size W wC) := MB.out.2.1.trans (ms.2.1.mono MB.out.2.1.size)
                        clear ms
                        go_upto_region 30 with (refine wpList_app rfl (.tmp 125) (.tmp 127) rfl (v := u7) (u := .slice sa sn sc) rfl rfl OV.out MS.out.1.src (by omega) ?_; intro v9 w9 o9 c9 at9; have M9 : Hid (Made W w9 v9 (Lj ++ z.bytes)) := Made.app (w := W) ⟨OV.out, B5.out, MB.out.2.2⟩ o9 c9 at9; clear o9 c9 at9)
                        have FN : Hid (Made W w9 v9 (M1 ++ recsB (fun i => (o.cs i).bytes) (j + 1))) := by
                          have e : M1 ++ recsB (fun i => (o.cs i).bytes) (j + 1) = Lj ++ z.bytes := by
                            rw [HLJ.out, recsB, CZ.out]
                            simp
                          rw [e]
                          exact M9.out
                        go_wp2_with fail
                        go_roundw
                        case rel => exact ⟨j + 1, by omega, by go_num, FN.out⟩
                        case measure => simp [intOf]; omega
                      · have hjn : j = o.cn := by omega
                        rw [hjn] at HB1
                        go_wp2_with fail
                        go_ret
                        exact ⟨u7, rfl, by rw [EB.out, ← List.append_assoc, ← HM1.out]; exact Made.upY HB1.out HB.out⟩
                  · by_cases q19 : K = 19
                    · subst q19
                      have kz : w1.cell? ⟨X, 0, none⟩ = some (.int .i64 19) := by rw [B1.out.cell, HK.out]; rfl
                      have EB : Hid (o.bytes = [(19 : Int) % 256] ++ (numB (u64Y o.co))) := by show _ = _; rw [Msg.bytes, Msg.body, ← HK.out]; simp [u64, u64Y]
                      have hwc := u64Y_wrap o.co
                      have nco := numB_ten (u64Y_lt o.co)
                      have kx : w1.cell? ⟨X, 72, none⟩ = some (.int .i64 o.co) := by rw [B1.out.cell]; exact o.at HL LB 1
                      go_wp2_with fail
                      refine Calls.mono (num_any (u64Y o.co) (u64Y_lt _) _) ?_
                      rintro e q0 ⟨r0, rfl, m0⟩
                      have BQ : Hid (Below W.heap.size W q0) := BW.out.trans (m0.2.1.mono BW.out.size)
                      clear kx kz
                      obtain ⟨ta, tc, hv⟩ := m0.1.form
                      obtain ⟨tn, hn⟩ : ∃ nn : Nat, nn = (numB (u64Y o.co)).length := ⟨_, rfl⟩
                      rw [← hn] at hv
                      subst hv
                      clear hn
                      have hsrc : ∀ i, i < 2 → Src q0 ((fun i => match i with | 0 => Value.slice va vn vc | _ => Value.slice ta tn tc) i) ((fun i => match i with | 0 => [(19 : Int) % 256] | _ => numB (u64Y o.co)) i) := by
                        intro i hi
                        match i, hi with
                        | 0, _ => exact Src.kept0 MK.out.1.src m0.2.1
                        | 1, _ => exact m0.1.src
                      have PN := pieces_newY (cs := #[Value.slice va vn vc, Value.slice ta tn tc]) (t := 23) (fun i hi => by match i, hi with | 0, _ => rfl | 1, _ => rfl) hsrc
                      go_wp2_with fail
                      refine Calls.mono (join_any PN (by decide) (by
                        intro k hk
                        match k, hk with | 0, _ => simp [flat]; try omega | 1, _ => simp [flat]; try omega | 2, _ => simp [flat]; try omega)) ?_
                      rintro e wj ⟨vj, rfl, mj⟩
                      have F : Hid (Made W wj vj ([(19 : Int) % 256] ++ numB (u64Y o.co))) := by
                        have e2 : [(19 : Int) % 256] ++ numB (u64Y o.co) = flat (fun i => match i with | 0 => [(19 : Int) % 256] | _ => numB (u64Y o.co)) 2 := by simp [flat]
                        rw [e2]
                        exact Made.upY mj (BQ.out.alloc BQ.out.size _)
                      clear hsrc PN mj
                      go_wp2_with fail
                      go_ret
                      exact ⟨vj, rfl, by rw [EB.out]; exact Made.upY F.out HB.out⟩
                    · have i2 : (K == 2) = false := by simpa using q2
                      have i3 : (K == 3) = false := by simpa using q3
                      have i4 : (K == 4) = false := by simpa using q4
                      have i5 : (K == 5) = false := by simpa using q5
                      have i11 : (K == 11) = false := by simpa using q11
                      have i12 : (K == 12) = false := by simpa using q12
                      have i13 : (K == 13) = false := by simpa using q13
                      have i14 : (K == 14) = false := by simpa using q14
                      have i15 : (K == 15) = false := by simpa using q15
                      have i19 : (K == 19) = false := by simpa using q19
                      have kz : w1.cell? ⟨X, 0, none⟩ = some (.int .i64 K) := by rw [B1.out.cell, HK.out]; rfl
                      have EB : Hid (o.bytes = [K % 256]) := by
                        show _ = _
                        rw [Msg.bytes, Msg.body, ← HK.out, if_neg q2, if_neg q3, if_neg q4, if_neg q5, if_neg q11, if_neg q12, if_neg (fun h => h.elim q13 q14), if_neg q15, if_neg q19, List.append_nil]
                      go_wp2_with fail
                      go_ret
                      exact ⟨_, rfl, by rw [EB.out]; exact Made.upY MK.out HB.out⟩
end Go.Proofs.Ytjmeaebehndheaa
