/-
  The reference writes changes.
-/
import Derived.Test.YtjmeaebehndheaaMxU
namespace Go.Proofs.Ytjmeaebehndheaa
open Go.RowKit

set_option maxRecDepth 100000 in
set_option maxHeartbeats 16000000 in
theorem xChangeB_any {w : World} {o : Cg} (h1 : Src w o.ky.val o.ky.l) (h2 : Src w o.od.val o.od.l) (h3 : Src w o.nw.val o.nw.l) (l1 : o.ky.l.length ≤ 1048576) (l2 : o.od.l.length ≤ 1048576) (l3 : o.nw.l.length ≤ 1048576) :
    Calls Try.prog 100 #[.agg o.cells.toArray] w fun e w' => ∃ u, e = .returned u ∧ Made w w' u o.bytes := by
  obtain ⟨⟨xa, xn, xc, xl⟩, had, ⟨ya, yn, yc, yl⟩, has, ⟨za, zn, zc, zl⟩⟩ := o
  simp only [Tx.val] at h1 h2 h3 l1 l2 l3
  have hx := h1
  have hy0 := h2
  have hz := h3
  clear h1 h2 h3
  have t1 := numB_ten (n := xl.length) (by omega)
  have t2 := numB_ten (n := yl.length) (by omega)
  have t3 := numB_ten (n := zl.length) (by omega)
  cases had with
  | true =>
    cases has with
    | true =>
      have EB : Hid (Cg.bytes ⟨⟨xa, xn, xc, xl⟩, true, ⟨ya, yn, yc, yl⟩, true, ⟨za, zn, zc, zl⟩⟩ = [3] ++ ((numB xl.length ++ xl) ++ ((numB yl.length ++ yl) ++ (numB zl.length ++ zl)))) := by show _ = _; simp [Cg.bytes, Tx.bytes]
      show Calls Try.prog 100 #[.agg (chC (.slice xa xn xc) true (.slice ya yn yc) true (.slice za zn zc)).toArray] w _
      obtain ⟨W, hW⟩ : ∃ W, W = w.alloc (.cells (chC (.slice xa xn xc) true (.slice ya yn yc) true (.slice za zn zc)).toArray 112) := ⟨_, rfl⟩
      obtain ⟨X, hX⟩ : ∃ X, X = w.heap.size := ⟨_, rfl⟩
      have hb : Below w.heap.size w W := by rw [hW]; exact (Below.refl _ _).alloc (Nat.le_refl _) _
      have B0 : Hid (Blk W X (chC (.slice xa xn xc) true (.slice ya yn yc) true (.slice za zn zc)) 112) := by rw [hW, hX]; exact Blk.made w (chC (.slice xa xn xc) true (.slice ya yn yc) true (.slice za zn zc)) 112
      have HB : Hid _ := hb
      have HX : Hid (Src W (.slice xa xn xc) xl) := Src.kept0 hx hb
      have HY : Hid (Src W (.slice ya yn yc) yl) := Src.kept0 hy0 hb
      have HZ : Hid (Src W (.slice za zn zc) zl) := Src.kept0 hz hb
      clear hx hy0 hz hb
      have k1 : W.cell? ⟨X, 1, none⟩ = some (.bool true) := B0.out.cell 1
      have k3 : W.cell? ⟨X, 3, none⟩ = some (.bool true) := B0.out.cell 3
      go_enter Try.func100, Try.ntmps100
      go_upto_region 1 with fail
      rw [← hW, ← hX]
      clear hW hX
      go_upto_region 2 with fail
      clear k1 k3
      refine wp_region_held_drew (S := fun w' => Blk w' X (chC (.slice xa xn xc) true (.slice ya yn yc) true (.slice za zn zc)) 112 ∧ Below W.heap.size W w') (by kernel_rfl) (⟨B0.out.drew, (Below.refl _ _).drew⟩) (fun hH => ?_)
      refine wpAnyH_take (i := 1) (v := .pointer (some ⟨X, 0, none⟩)) rfl (by kernel_rfl) (by kernel_rfl) (by kernel_rfl) (fun _ _ _ h => h) (Or.inl ⟨by rfl, fun w' _ => by go_simp⟩) hH ?_
      refine wpAnyH_take (i := 2) (v := .slice xa xn xc) rfl (by kernel_rfl) (by kernel_rfl) (by kernel_rfl) (fun _ _ _ h => h) (Or.inl ⟨by rfl, fun w' hw' => by have h2 : w'.cell? ⟨X, 0, none⟩ = some (.slice xa xn xc) := Blk.cell hw'.1 0; go_simp⟩) hH ?_
      refine wpAnyH_take (i := 4) (v := .pointer (some ⟨X, 2, none⟩)) rfl (by kernel_rfl) (by kernel_rfl) (by kernel_rfl) (fun _ _ _ h => h) (Or.inl ⟨by rfl, fun w' _ => by go_simp⟩) hH ?_
      refine wpAnyH_take (i := 5) (v := .slice ya yn yc) rfl (by kernel_rfl) (by kernel_rfl) (by kernel_rfl) (fun _ _ _ h => h) (Or.inl ⟨by rfl, fun w' hw' => by have h2 : w'.cell? ⟨X, 2, none⟩ = some (.slice ya yn yc) := Blk.cell hw'.1 2; go_simp⟩) hH ?_
      refine wpAnyH_take (i := 7) (v := .pointer (some ⟨X, 4, none⟩)) rfl (by kernel_rfl) (by kernel_rfl) (by kernel_rfl) (fun _ _ _ h => h) (Or.inl ⟨by rfl, fun w' _ => by go_simp⟩) hH ?_
      refine wpAnyH_take (i := 8) (v := .slice za zn zc) rfl (by kernel_rfl) (by kernel_rfl) (by kernel_rfl) (fun _ _ _ h => h) (Or.inl ⟨by rfl, fun w' hw' => by have h2 : w'.cell? ⟨X, 4, none⟩ = some (.slice za zn zc) := Blk.cell hw'.1 4; go_simp⟩) hH ?_
      refine wpAnyH_ready (rs := [0, 3]) (by kernel_rfl) (by simp) ?_
      refine AllReadyH.cons rfl (fun K hK => ?_) (AllReadyH.cons rfl (fun K hK => ?_) AllReadyH.nil)
      · go_simp
        have hB0 : Blk (W.alloc (.cells #[.int .u8 3] 5)).drew X (chC (.slice xa xn xc) true (.slice ya yn yc) true (.slice za zn zc)) 112 ∧ Below W.heap.size W (W.alloc (.cells #[.int .u8 3] 5)).drew := ⟨(hH.1.alloc _ : Blk _ _ _ _), (hH.2.alloc hH.2.size _ : Below _ _ _)⟩
        refine hK.out _ _ hB0 (fun h0 => ?_)
        clear hK K
        have SB0 : Src (W.alloc (.cells #[.int .u8 3] 5)).drew (.slice (some ⟨W.heap.size, 0, none⟩) 1 1) [3] := Src.kept (src_new W [3] 1) ((Chg.refl (fun _ => False) _).drew) (fun _ _ e => e)
        refine wpAnyH_ready (rs := [3]) (by kernel_rfl) (by simp) ?_
        refine AllReadyH.cons rfl (fun K hK => ?_) AllReadyH.nil
        go_simp
        refine Calls.mono (text_any (Src.kept0 HX.out h0.2) (by omega)) ?_
        rintro e q1 ⟨r1, rfl, m1⟩
        refine hK.out _ _ (⟨h0.1.keep0 (m1.2.1), h0.2.trans ((m1.2.1).mono h0.2.size)⟩) (fun h1 => ?_)
        clear hK K
        obtain ⟨b1, c1, hv⟩ := m1.1.form
        obtain ⟨n1, hn⟩ : ∃ nn : Nat, nn = ((numB xl.length ++ xl)).length := ⟨_, rfl⟩
        rw [← hn] at hv
        subst hv
        clear hn
        refine wpAnyH_ready (rs := [6]) (by kernel_rfl) (by simp) ?_
        refine AllReadyH.cons rfl (fun K hK => ?_) AllReadyH.nil
        go_simp
        refine Calls.mono (text_any (Src.kept0 HY.out h1.2) (by omega)) ?_
        rintro e q2 ⟨r2, rfl, m2⟩
        refine hK.out _ _ (⟨h1.1.keep0 (m2.2.1), h1.2.trans ((m2.2.1).mono h1.2.size)⟩) (fun h2 => ?_)
        clear hK K
        obtain ⟨b2, c2, hv⟩ := m2.1.form
        obtain ⟨n2, hn⟩ : ∃ nn : Nat, nn = ((numB yl.length ++ yl)).length := ⟨_, rfl⟩
        rw [← hn] at hv
        subst hv
        clear hn
        refine wpAnyH_ready (rs := [9]) (by kernel_rfl) (by simp) ?_
        refine AllReadyH.cons rfl (fun K hK => ?_) AllReadyH.nil
        go_simp
        refine Calls.mono (text_any (Src.kept0 HZ.out h2.2) (by omega)) ?_
        rintro e q3 ⟨r3, rfl, m3⟩
        refine hK.out _ _ (⟨h2.1.keep0 (m3.2.1), h2.2.trans ((m3.2.1).mono h2.2.size)⟩) (fun h3 => ?_)
        clear hK K
        obtain ⟨b3, c3, hv⟩ := m3.1.form
        obtain ⟨n3, hn⟩ : ∃ nn : Nat, nn = ((numB zl.length ++ zl)).length := ⟨_, rfl⟩
        rw [← hn] at hv
        subst hv
        clear hn
        have hsrc : ∀ i, i < 4 → Src q3 ((fun i => match i with | 0 => Value.slice (some ⟨W.heap.size, 0, none⟩) 1 1 | 1 => Value.slice b1 n1 c1 | 2 => Value.slice b2 n2 c2 | _ => Value.slice b3 n3 c3) i) ((fun i => match i with | 0 => [3] | 1 => (numB xl.length ++ xl) | 2 => (numB yl.length ++ yl) | _ => (numB zl.length ++ zl)) i) := by
          intro i hi
          match i, hi with
          | 0, _ => exact Src.kept0 (Src.kept0 (Src.kept0 (SB0) m1.2.1) m2.2.1) m3.2.1
          | 1, _ => exact Src.kept0 (Src.kept0 (m1.1.src) m2.2.1) m3.2.1
          | 2, _ => exact Src.kept0 (m2.1.src) m3.2.1
          | 3, _ => exact m3.1.src
        refine wpAnyH_ready (rs := [10]) (by kernel_rfl) (by simp) ?_
        refine AllReadyH.cons rfl (fun K hK => ?_) AllReadyH.nil
        go_simp
        refine hK.out _ _ (⟨h3.1.alloc _, h3.2.alloc h3.2.size _⟩) (fun hx => ?_)
        clear hK K
        refine wpAnyH_ready (rs := [11]) (by kernel_rfl) (by simp) ?_
        refine AllReadyH.cons rfl (fun K hK => ?_) AllReadyH.nil
        go_simp
        have PN := pieces_newY (cs := #[Value.slice (some ⟨W.heap.size, 0, none⟩) 1 1, Value.slice b1 n1 c1, Value.slice b2 n2 c2, Value.slice b3 n3 c3]) (t := 23) (fun i hi => by match i, hi with | 0, _ => rfl | 1, _ => rfl | 2, _ => rfl | 3, _ => rfl) hsrc
        refine Calls.mono (join_any PN (by decide) (by
          intro k hk
          match k, hk with | 0, _ => simp [flat]; try omega | 1, _ => simp [flat]; try omega | 2, _ => simp [flat]; try omega | 3, _ => simp [flat]; try omega | 4, _ => simp [flat]; try omega)) ?_
        rintro e wj ⟨vj, rfl, mj⟩
        refine hK.out _ _ (⟨hx.1.keep0 (mj.2.1), hx.2.trans ((mj.2.1).mono hx.2.size)⟩) (fun hy => ?_)
        clear hK K hsrc PN
        have F : Hid (Made W wj vj ([3] ++ ((numB xl.length ++ xl) ++ ((numB yl.length ++ yl) ++ (numB zl.length ++ zl))))) := by
          have e2 : ([3] : List Int) ++ ((numB xl.length ++ xl) ++ ((numB yl.length ++ yl) ++ (numB zl.length ++ zl))) = flat (fun i => match i with | 0 => [3] | 1 => (numB xl.length ++ xl) | 2 => (numB yl.length ++ yl) | _ => (numB zl.length ++ zl)) 4 := by simp [flat]
          rw [e2]
          exact Made.upY mj hx.2
        refine wpAnyH_ready (rs := [12]) (by kernel_rfl) (by simp) ?_
        refine AllReadyH.cons rfl (fun K hK => ?_) AllReadyH.nil
        go_simp
        refine hK.out _ _ hy (fun _ => ?_)
        clear hK K hx hy mj
        refine wpAnyH_done (by kernel_rfl) ?_ _
        go_wp2_with fail
        go_ret
        exact ⟨vj, rfl, by rw [EB.out]; exact Made.upY F.out HB.out⟩
      · go_simp
        refine Calls.mono (text_any (Src.kept0 HX.out hH.2) (by omega)) ?_
        rintro e q0 ⟨r0, rfl, m0⟩
        refine hK.out _ _ (⟨hH.1.keep0 (m0.2.1), hH.2.trans ((m0.2.1).mono hH.2.size)⟩) (fun h0 => ?_)
        clear hK K
        obtain ⟨b0, c0, hv⟩ := m0.1.form
        obtain ⟨n0, hn⟩ : ∃ nn : Nat, nn = ((numB xl.length ++ xl)).length := ⟨_, rfl⟩
        rw [← hn] at hv
        subst hv
        clear hn
        refine wpAnyH_ready (rs := [0, 6]) (by kernel_rfl) (by simp) ?_
        refine AllReadyH.cons rfl (fun K hK => ?_) (AllReadyH.cons rfl (fun K hK => ?_) AllReadyH.nil)
        · go_simp
          have hB1 : Blk (q0.alloc (.cells #[.int .u8 3] 5)) X (chC (.slice xa xn xc) true (.slice ya yn yc) true (.slice za zn zc)) 112 ∧ Below W.heap.size W (q0.alloc (.cells #[.int .u8 3] 5)) := ⟨(h0.1.alloc _ : Blk _ _ _ _), (h0.2.alloc h0.2.size _ : Below _ _ _)⟩
          refine hK.out _ _ hB1 (fun h1 => ?_)
          clear hK K
          have SB1 : Src (q0.alloc (.cells #[.int .u8 3] 5)) (.slice (some ⟨q0.heap.size, 0, none⟩) 1 1) [3] := src_new q0 [3] 1
          refine wpAnyH_ready (rs := [6]) (by kernel_rfl) (by simp) ?_
          refine AllReadyH.cons rfl (fun K hK => ?_) AllReadyH.nil
          go_simp
          refine Calls.mono (text_any (Src.kept0 HY.out h1.2) (by omega)) ?_
          rintro e q2 ⟨r2, rfl, m2⟩
          refine hK.out _ _ (⟨h1.1.keep0 (m2.2.1), h1.2.trans ((m2.2.1).mono h1.2.size)⟩) (fun h2 => ?_)
          clear hK K
          obtain ⟨b2, c2, hv⟩ := m2.1.form
          obtain ⟨n2, hn⟩ : ∃ nn : Nat, nn = ((numB yl.length ++ yl)).length := ⟨_, rfl⟩
          rw [← hn] at hv
          subst hv
          clear hn
          refine wpAnyH_ready (rs := [9]) (by kernel_rfl) (by simp) ?_
          refine AllReadyH.cons rfl (fun K hK => ?_) AllReadyH.nil
          go_simp
          refine Calls.mono (text_any (Src.kept0 HZ.out h2.2) (by omega)) ?_
          rintro e q3 ⟨r3, rfl, m3⟩
          refine hK.out _ _ (⟨h2.1.keep0 (m3.2.1), h2.2.trans ((m3.2.1).mono h2.2.size)⟩) (fun h3 => ?_)
          clear hK K
          obtain ⟨b3, c3, hv⟩ := m3.1.form
          obtain ⟨n3, hn⟩ : ∃ nn : Nat, nn = ((numB zl.length ++ zl)).length := ⟨_, rfl⟩
          rw [← hn] at hv
          subst hv
          clear hn
          have hsrc : ∀ i, i < 4 → Src q3 ((fun i => match i with | 0 => Value.slice (some ⟨q0.heap.size, 0, none⟩) 1 1 | 1 => Value.slice b0 n0 c0 | 2 => Value.slice b2 n2 c2 | _ => Value.slice b3 n3 c3) i) ((fun i => match i with | 0 => [3] | 1 => (numB xl.length ++ xl) | 2 => (numB yl.length ++ yl) | _ => (numB zl.length ++ zl)) i) := by
            intro i hi
            match i, hi with
            | 0, _ => exact Src.kept0 (Src.kept0 (SB1) m2.2.1) m3.2.1
            | 1, _ => exact Src.kept0 (Src.kept0 (Src.kept0 (m0.1.src) ((Below.refl _ _).alloc (Nat.le_refl _) _)) m2.2.1) m3.2.1
            | 2, _ => exact Src.kept0 (m2.1.src) m3.2.1
            | 3, _ => exact m3.1.src
          refine wpAnyH_ready (rs := [10]) (by kernel_rfl) (by simp) ?_
          refine AllReadyH.cons rfl (fun K hK => ?_) AllReadyH.nil
          go_simp
          refine hK.out _ _ (⟨h3.1.alloc _, h3.2.alloc h3.2.size _⟩) (fun hx => ?_)
          clear hK K
          refine wpAnyH_ready (rs := [11]) (by kernel_rfl) (by simp) ?_
          refine AllReadyH.cons rfl (fun K hK => ?_) AllReadyH.nil
          go_simp
          have PN := pieces_newY (cs := #[Value.slice (some ⟨q0.heap.size, 0, none⟩) 1 1, Value.slice b0 n0 c0, Value.slice b2 n2 c2, Value.slice b3 n3 c3]) (t := 23) (fun i hi => by match i, hi with | 0, _ => rfl | 1, _ => rfl | 2, _ => rfl | 3, _ => rfl) hsrc
          refine Calls.mono (join_any PN (by decide) (by
            intro k hk
            match k, hk with | 0, _ => simp [flat]; try omega | 1, _ => simp [flat]; try omega | 2, _ => simp [flat]; try omega | 3, _ => simp [flat]; try omega | 4, _ => simp [flat]; try omega)) ?_
          rintro e wj ⟨vj, rfl, mj⟩
          refine hK.out _ _ (⟨hx.1.keep0 (mj.2.1), hx.2.trans ((mj.2.1).mono hx.2.size)⟩) (fun hy => ?_)
          clear hK K hsrc PN
          have F : Hid (Made W wj vj ([3] ++ ((numB xl.length ++ xl) ++ ((numB yl.length ++ yl) ++ (numB zl.length ++ zl))))) := by
            have e2 : ([3] : List Int) ++ ((numB xl.length ++ xl) ++ ((numB yl.length ++ yl) ++ (numB zl.length ++ zl))) = flat (fun i => match i with | 0 => [3] | 1 => (numB xl.length ++ xl) | 2 => (numB yl.length ++ yl) | _ => (numB zl.length ++ zl)) 4 := by simp [flat]
            rw [e2]
            exact Made.upY mj hx.2
          refine wpAnyH_ready (rs := [12]) (by kernel_rfl) (by simp) ?_
          refine AllReadyH.cons rfl (fun K hK => ?_) AllReadyH.nil
          go_simp
          refine hK.out _ _ hy (fun _ => ?_)
          clear hK K hx hy mj
          refine wpAnyH_done (by kernel_rfl) ?_ _
          go_wp2_with fail
          go_ret
          exact ⟨vj, rfl, by rw [EB.out]; exact Made.upY F.out HB.out⟩
        · go_simp
          refine Calls.mono (text_any (Src.kept0 HY.out h0.2) (by omega)) ?_
          rintro e q1 ⟨r1, rfl, m1⟩
          refine hK.out _ _ (⟨h0.1.keep0 (m1.2.1), h0.2.trans ((m1.2.1).mono h0.2.size)⟩) (fun h1 => ?_)
          clear hK K
          obtain ⟨b1, c1, hv⟩ := m1.1.form
          obtain ⟨n1, hn⟩ : ∃ nn : Nat, nn = ((numB yl.length ++ yl)).length := ⟨_, rfl⟩
          rw [← hn] at hv
          subst hv
          clear hn
          refine wpAnyH_ready (rs := [0, 9]) (by kernel_rfl) (by simp) ?_
          refine AllReadyH.cons rfl (fun K hK => ?_) (AllReadyH.cons rfl (fun K hK => ?_) AllReadyH.nil)
          · go_simp
            have hB2 : Blk (q1.alloc (.cells #[.int .u8 3] 5)) X (chC (.slice xa xn xc) true (.slice ya yn yc) true (.slice za zn zc)) 112 ∧ Below W.heap.size W (q1.alloc (.cells #[.int .u8 3] 5)) := ⟨(h1.1.alloc _ : Blk _ _ _ _), (h1.2.alloc h1.2.size _ : Below _ _ _)⟩
            refine hK.out _ _ hB2 (fun h2 => ?_)
            clear hK K
            have SB2 : Src (q1.alloc (.cells #[.int .u8 3] 5)) (.slice (some ⟨q1.heap.size, 0, none⟩) 1 1) [3] := src_new q1 [3] 1
            refine wpAnyH_ready (rs := [9]) (by kernel_rfl) (by simp) ?_
            refine AllReadyH.cons rfl (fun K hK => ?_) AllReadyH.nil
            go_simp
            refine Calls.mono (text_any (Src.kept0 HZ.out h2.2) (by omega)) ?_
            rintro e q3 ⟨r3, rfl, m3⟩
            refine hK.out _ _ (⟨h2.1.keep0 (m3.2.1), h2.2.trans ((m3.2.1).mono h2.2.size)⟩) (fun h3 => ?_)
            clear hK K
            obtain ⟨b3, c3, hv⟩ := m3.1.form
            obtain ⟨n3, hn⟩ : ∃ nn : Nat, nn = ((numB zl.length ++ zl)).length := ⟨_, rfl⟩
            rw [← hn] at hv
            subst hv
            clear hn
            have hsrc : ∀ i, i < 4 → Src q3 ((fun i => match i with | 0 => Value.slice (some ⟨q1.heap.size, 0, none⟩) 1 1 | 1 => Value.slice b0 n0 c0 | 2 => Value.slice b1 n1 c1 | _ => Value.slice b3 n3 c3) i) ((fun i => match i with | 0 => [3] | 1 => (numB xl.length ++ xl) | 2 => (numB yl.length ++ yl) | _ => (numB zl.length ++ zl)) i) := by
              intro i hi
              match i, hi with
              | 0, _ => exact Src.kept0 (SB2) m3.2.1
              | 1, _ => exact Src.kept0 (Src.kept0 (Src.kept0 (m0.1.src) m1.2.1) ((Below.refl _ _).alloc (Nat.le_refl _) _)) m3.2.1
              | 2, _ => exact Src.kept0 (Src.kept0 (m1.1.src) ((Below.refl _ _).alloc (Nat.le_refl _) _)) m3.2.1
              | 3, _ => exact m3.1.src
            refine wpAnyH_ready (rs := [10]) (by kernel_rfl) (by simp) ?_
            refine AllReadyH.cons rfl (fun K hK => ?_) AllReadyH.nil
            go_simp
            refine hK.out _ _ (⟨h3.1.alloc _, h3.2.alloc h3.2.size _⟩) (fun hx => ?_)
            clear hK K
            refine wpAnyH_ready (rs := [11]) (by kernel_rfl) (by simp) ?_
            refine AllReadyH.cons rfl (fun K hK => ?_) AllReadyH.nil
            go_simp
            have PN := pieces_newY (cs := #[Value.slice (some ⟨q1.heap.size, 0, none⟩) 1 1, Value.slice b0 n0 c0, Value.slice b1 n1 c1, Value.slice b3 n3 c3]) (t := 23) (fun i hi => by match i, hi with | 0, _ => rfl | 1, _ => rfl | 2, _ => rfl | 3, _ => rfl) hsrc
            refine Calls.mono (join_any PN (by decide) (by
              intro k hk
              match k, hk with | 0, _ => simp [flat]; try omega | 1, _ => simp [flat]; try omega | 2, _ => simp [flat]; try omega | 3, _ => simp [flat]; try omega | 4, _ => simp [flat]; try omega)) ?_
            rintro e wj ⟨vj, rfl, mj⟩
            refine hK.out _ _ (⟨hx.1.keep0 (mj.2.1), hx.2.trans ((mj.2.1).mono hx.2.size)⟩) (fun hy => ?_)
            clear hK K hsrc PN
            have F : Hid (Made W wj vj ([3] ++ ((numB xl.length ++ xl) ++ ((numB yl.length ++ yl) ++ (numB zl.length ++ zl))))) := by
              have e2 : ([3] : List Int) ++ ((numB xl.length ++ xl) ++ ((numB yl.length ++ yl) ++ (numB zl.length ++ zl))) = flat (fun i => match i with | 0 => [3] | 1 => (numB xl.length ++ xl) | 2 => (numB yl.length ++ yl) | _ => (numB zl.length ++ zl)) 4 := by simp [flat]
              rw [e2]
              exact Made.upY mj hx.2
            refine wpAnyH_ready (rs := [12]) (by kernel_rfl) (by simp) ?_
            refine AllReadyH.cons rfl (fun K hK => ?_) AllReadyH.nil
            go_simp
            refine hK.out _ _ hy (fun _ => ?_)
            clear hK K hx hy mj
            refine wpAnyH_done (by kernel_rfl) ?_ _
            go_wp2_with fail
            go_ret
            exact ⟨vj, rfl, by rw [EB.out]; exact Made.upY F.out HB.out⟩
          · go_simp
            refine Calls.mono (text_any (Src.kept0 HZ.out h1.2) (by omega)) ?_
            rintro e q2 ⟨r2, rfl, m2⟩
            refine hK.out _ _ (⟨h1.1.keep0 (m2.2.1), h1.2.trans ((m2.2.1).mono h1.2.size)⟩) (fun h2 => ?_)
            clear hK K
            obtain ⟨b2, c2, hv⟩ := m2.1.form
            obtain ⟨n2, hn⟩ : ∃ nn : Nat, nn = ((numB zl.length ++ zl)).length := ⟨_, rfl⟩
            rw [← hn] at hv
            subst hv
            clear hn
            refine wpAnyH_ready (rs := [0]) (by kernel_rfl) (by simp) ?_
            refine AllReadyH.cons rfl (fun K hK => ?_) AllReadyH.nil
            go_simp
            have hB3 : Blk (q2.alloc (.cells #[.int .u8 3] 5)) X (chC (.slice xa xn xc) true (.slice ya yn yc) true (.slice za zn zc)) 112 ∧ Below W.heap.size W (q2.alloc (.cells #[.int .u8 3] 5)) := ⟨(h2.1.alloc _ : Blk _ _ _ _), (h2.2.alloc h2.2.size _ : Below _ _ _)⟩
            refine hK.out _ _ hB3 (fun h3 => ?_)
            clear hK K
            have SB3 : Src (q2.alloc (.cells #[.int .u8 3] 5)) (.slice (some ⟨q2.heap.size, 0, none⟩) 1 1) [3] := src_new q2 [3] 1
            have hsrc : ∀ i, i < 4 → Src (q2.alloc (.cells #[.int .u8 3] 5)) ((fun i => match i with | 0 => Value.slice (some ⟨q2.heap.size, 0, none⟩) 1 1 | 1 => Value.slice b0 n0 c0 | 2 => Value.slice b1 n1 c1 | _ => Value.slice b2 n2 c2) i) ((fun i => match i with | 0 => [3] | 1 => (numB xl.length ++ xl) | 2 => (numB yl.length ++ yl) | _ => (numB zl.length ++ zl)) i) := by
              intro i hi
              match i, hi with
              | 0, _ => exact SB3
              | 1, _ => exact Src.kept0 (Src.kept0 (Src.kept0 (m0.1.src) m1.2.1) m2.2.1) ((Below.refl _ _).alloc (Nat.le_refl _) _)
              | 2, _ => exact Src.kept0 (Src.kept0 (m1.1.src) m2.2.1) ((Below.refl _ _).alloc (Nat.le_refl _) _)
              | 3, _ => exact Src.kept0 (m2.1.src) ((Below.refl _ _).alloc (Nat.le_refl _) _)
            refine wpAnyH_ready (rs := [10]) (by kernel_rfl) (by simp) ?_
            refine AllReadyH.cons rfl (fun K hK => ?_) AllReadyH.nil
            go_simp
            refine hK.out _ _ (⟨h3.1.alloc _, h3.2.alloc h3.2.size _⟩) (fun hx => ?_)
            clear hK K
            refine wpAnyH_ready (rs := [11]) (by kernel_rfl) (by simp) ?_
            refine AllReadyH.cons rfl (fun K hK => ?_) AllReadyH.nil
            go_simp
            have PN := pieces_newY (cs := #[Value.slice (some ⟨q2.heap.size, 0, none⟩) 1 1, Value.slice b0 n0 c0, Value.slice b1 n1 c1, Value.slice b2 n2 c2]) (t := 23) (fun i hi => by match i, hi with | 0, _ => rfl | 1, _ => rfl | 2, _ => rfl | 3, _ => rfl) hsrc
            rw [World.size_alloc] at PN
            refine Calls.mono (join_any PN (by decide) (by
              intro k hk
              match k, hk with | 0, _ => simp [flat]; try omega | 1, _ => simp [flat]; try omega | 2, _ => simp [flat]; try omega | 3, _ => simp [flat]; try omega | 4, _ => simp [flat]; try omega)) ?_
            rintro e wj ⟨vj, rfl, mj⟩
            refine hK.out _ _ (⟨hx.1.keep0 (mj.2.1), hx.2.trans ((mj.2.1).mono hx.2.size)⟩) (fun hy => ?_)
            clear hK K hsrc PN
            have F : Hid (Made W wj vj ([3] ++ ((numB xl.length ++ xl) ++ ((numB yl.length ++ yl) ++ (numB zl.length ++ zl))))) := by
              have e2 : ([3] : List Int) ++ ((numB xl.length ++ xl) ++ ((numB yl.length ++ yl) ++ (numB zl.length ++ zl))) = flat (fun i => match i with | 0 => [3] | 1 => (numB xl.length ++ xl) | 2 => (numB yl.length ++ yl) | _ => (numB zl.length ++ zl)) 4 := by simp [flat]
              rw [e2]
              exact Made.upY mj hx.2
            refine wpAnyH_ready (rs := [12]) (by kernel_rfl) (by simp) ?_
            refine AllReadyH.cons rfl (fun K hK => ?_) AllReadyH.nil
            go_simp
            refine hK.out _ _ hy (fun _ => ?_)
            clear hK K hx hy mj
            refine wpAnyH_done (by kernel_rfl) ?_ _
            go_wp2_with fail
            go_ret
            exact ⟨vj, rfl, by rw [EB.out]; exact Made.upY F.out HB.out⟩
    | false =>
      have EB : Hid (Cg.bytes ⟨⟨xa, xn, xc, xl⟩, true, ⟨ya, yn, yc, yl⟩, false, ⟨za, zn, zc, zl⟩⟩ = [1] ++ ((numB xl.length ++ xl) ++ (numB yl.length ++ yl))) := by show _ = _; simp [Cg.bytes, Tx.bytes]
      show Calls Try.prog 100 #[.agg (chC (.slice xa xn xc) true (.slice ya yn yc) false (.slice za zn zc)).toArray] w _
      obtain ⟨W, hW⟩ : ∃ W, W = w.alloc (.cells (chC (.slice xa xn xc) true (.slice ya yn yc) false (.slice za zn zc)).toArray 112) := ⟨_, rfl⟩
      obtain ⟨X, hX⟩ : ∃ X, X = w.heap.size := ⟨_, rfl⟩
      have hb : Below w.heap.size w W := by rw [hW]; exact (Below.refl _ _).alloc (Nat.le_refl _) _
      have B0 : Hid (Blk W X (chC (.slice xa xn xc) true (.slice ya yn yc) false (.slice za zn zc)) 112) := by rw [hW, hX]; exact Blk.made w (chC (.slice xa xn xc) true (.slice ya yn yc) false (.slice za zn zc)) 112
      have HB : Hid _ := hb
      have HX : Hid (Src W (.slice xa xn xc) xl) := Src.kept0 hx hb
      have HY : Hid (Src W (.slice ya yn yc) yl) := Src.kept0 hy0 hb
      have HZ : Hid (Src W (.slice za zn zc) zl) := Src.kept0 hz hb
      clear hx hy0 hz hb
      have k1 : W.cell? ⟨X, 1, none⟩ = some (.bool true) := B0.out.cell 1
      have k3 : W.cell? ⟨X, 3, none⟩ = some (.bool false) := B0.out.cell 3
      go_enter Try.func100, Try.ntmps100
      go_upto_region 1 with fail
      rw [← hW, ← hX]
      clear hW hX
      go_upto_region 4 with fail
      clear k1 k3
      refine wp_region_held_drew (S := fun w' => Blk w' X (chC (.slice xa xn xc) true (.slice ya yn yc) false (.slice za zn zc)) 112 ∧ Below W.heap.size W w') (by kernel_rfl) (⟨B0.out.drew, (Below.refl _ _).drew⟩) (fun hH => ?_)
      refine wpAnyH_take (i := 1) (v := .pointer (some ⟨X, 0, none⟩)) rfl (by kernel_rfl) (by kernel_rfl) (by kernel_rfl) (fun _ _ _ h => h) (Or.inl ⟨by rfl, fun w' _ => by go_simp⟩) hH ?_
      refine wpAnyH_take (i := 2) (v := .slice xa xn xc) rfl (by kernel_rfl) (by kernel_rfl) (by kernel_rfl) (fun _ _ _ h => h) (Or.inl ⟨by rfl, fun w' hw' => by have h2 : w'.cell? ⟨X, 0, none⟩ = some (.slice xa xn xc) := Blk.cell hw'.1 0; go_simp⟩) hH ?_
      refine wpAnyH_take (i := 4) (v := .pointer (some ⟨X, 2, none⟩)) rfl (by kernel_rfl) (by kernel_rfl) (by kernel_rfl) (fun _ _ _ h => h) (Or.inl ⟨by rfl, fun w' _ => by go_simp⟩) hH ?_
      refine wpAnyH_take (i := 5) (v := .slice ya yn yc) rfl (by kernel_rfl) (by kernel_rfl) (by kernel_rfl) (fun _ _ _ h => h) (Or.inl ⟨by rfl, fun w' hw' => by have h2 : w'.cell? ⟨X, 2, none⟩ = some (.slice ya yn yc) := Blk.cell hw'.1 2; go_simp⟩) hH ?_
      refine wpAnyH_ready (rs := [0, 3]) (by kernel_rfl) (by simp) ?_
      refine AllReadyH.cons rfl (fun K hK => ?_) (AllReadyH.cons rfl (fun K hK => ?_) AllReadyH.nil)
      · go_simp
        have hB0 : Blk (W.alloc (.cells #[.int .u8 1] 5)).drew X (chC (.slice xa xn xc) true (.slice ya yn yc) false (.slice za zn zc)) 112 ∧ Below W.heap.size W (W.alloc (.cells #[.int .u8 1] 5)).drew := ⟨(hH.1.alloc _ : Blk _ _ _ _), (hH.2.alloc hH.2.size _ : Below _ _ _)⟩
        refine hK.out _ _ hB0 (fun h0 => ?_)
        clear hK K
        have SB0 : Src (W.alloc (.cells #[.int .u8 1] 5)).drew (.slice (some ⟨W.heap.size, 0, none⟩) 1 1) [1] := Src.kept (src_new W [1] 1) ((Chg.refl (fun _ => False) _).drew) (fun _ _ e => e)
        refine wpAnyH_ready (rs := [3]) (by kernel_rfl) (by simp) ?_
        refine AllReadyH.cons rfl (fun K hK => ?_) AllReadyH.nil
        go_simp
        refine Calls.mono (text_any (Src.kept0 HX.out h0.2) (by omega)) ?_
        rintro e q1 ⟨r1, rfl, m1⟩
        refine hK.out _ _ (⟨h0.1.keep0 (m1.2.1), h0.2.trans ((m1.2.1).mono h0.2.size)⟩) (fun h1 => ?_)
        clear hK K
        obtain ⟨b1, c1, hv⟩ := m1.1.form
        obtain ⟨n1, hn⟩ : ∃ nn : Nat, nn = ((numB xl.length ++ xl)).length := ⟨_, rfl⟩
        rw [← hn] at hv
        subst hv
        clear hn
        refine wpAnyH_ready (rs := [6]) (by kernel_rfl) (by simp) ?_
        refine AllReadyH.cons rfl (fun K hK => ?_) AllReadyH.nil
        go_simp
        refine Calls.mono (text_any (Src.kept0 HY.out h1.2) (by omega)) ?_
        rintro e q2 ⟨r2, rfl, m2⟩
        refine hK.out _ _ (⟨h1.1.keep0 (m2.2.1), h1.2.trans ((m2.2.1).mono h1.2.size)⟩) (fun h2 => ?_)
        clear hK K
        obtain ⟨b2, c2, hv⟩ := m2.1.form
        obtain ⟨n2, hn⟩ : ∃ nn : Nat, nn = ((numB yl.length ++ yl)).length := ⟨_, rfl⟩
        rw [← hn] at hv
        subst hv
        clear hn
        have hsrc : ∀ i, i < 3 → Src q2 ((fun i => match i with | 0 => Value.slice (some ⟨W.heap.size, 0, none⟩) 1 1 | 1 => Value.slice b1 n1 c1 | _ => Value.slice b2 n2 c2) i) ((fun i => match i with | 0 => [1] | 1 => (numB xl.length ++ xl) | _ => (numB yl.length ++ yl)) i) := by
          intro i hi
          match i, hi with
          | 0, _ => exact Src.kept0 (Src.kept0 (SB0) m1.2.1) m2.2.1
          | 1, _ => exact Src.kept0 (m1.1.src) m2.2.1
          | 2, _ => exact m2.1.src
        refine wpAnyH_ready (rs := [7]) (by kernel_rfl) (by simp) ?_
        refine AllReadyH.cons rfl (fun K hK => ?_) AllReadyH.nil
        go_simp
        refine hK.out _ _ (⟨h2.1.alloc _, h2.2.alloc h2.2.size _⟩) (fun hx => ?_)
        clear hK K
        refine wpAnyH_ready (rs := [8]) (by kernel_rfl) (by simp) ?_
        refine AllReadyH.cons rfl (fun K hK => ?_) AllReadyH.nil
        go_simp
        have PN := pieces_newY (cs := #[Value.slice (some ⟨W.heap.size, 0, none⟩) 1 1, Value.slice b1 n1 c1, Value.slice b2 n2 c2]) (t := 23) (fun i hi => by match i, hi with | 0, _ => rfl | 1, _ => rfl | 2, _ => rfl) hsrc
        refine Calls.mono (join_any PN (by decide) (by
          intro k hk
          match k, hk with | 0, _ => simp [flat]; try omega | 1, _ => simp [flat]; try omega | 2, _ => simp [flat]; try omega | 3, _ => simp [flat]; try omega)) ?_
        rintro e wj ⟨vj, rfl, mj⟩
        refine hK.out _ _ (⟨hx.1.keep0 (mj.2.1), hx.2.trans ((mj.2.1).mono hx.2.size)⟩) (fun hy => ?_)
        clear hK K hsrc PN
        have F : Hid (Made W wj vj ([1] ++ ((numB xl.length ++ xl) ++ (numB yl.length ++ yl)))) := by
          have e2 : ([1] : List Int) ++ ((numB xl.length ++ xl) ++ (numB yl.length ++ yl)) = flat (fun i => match i with | 0 => [1] | 1 => (numB xl.length ++ xl) | _ => (numB yl.length ++ yl)) 3 := by simp [flat]
          rw [e2]
          exact Made.upY mj hx.2
        refine wpAnyH_ready (rs := [9]) (by kernel_rfl) (by simp) ?_
        refine AllReadyH.cons rfl (fun K hK => ?_) AllReadyH.nil
        go_simp
        refine hK.out _ _ hy (fun _ => ?_)
        clear hK K hx hy mj
        refine wpAnyH_done (by kernel_rfl) ?_ _
        go_wp2_with fail
        go_ret
        exact ⟨vj, rfl, by rw [EB.out]; exact Made.upY F.out HB.out⟩
      · go_simp
        refine Calls.mono (text_any (Src.kept0 HX.out hH.2) (by omega)) ?_
        rintro e q0 ⟨r0, rfl, m0⟩
        refine hK.out _ _ (⟨hH.1.keep0 (m0.2.1), hH.2.trans ((m0.2.1).mono hH.2.size)⟩) (fun h0 => ?_)
        clear hK K
        obtain ⟨b0, c0, hv⟩ := m0.1.form
        obtain ⟨n0, hn⟩ : ∃ nn : Nat, nn = ((numB xl.length ++ xl)).length := ⟨_, rfl⟩
        rw [← hn] at hv
        subst hv
        clear hn
        refine wpAnyH_ready (rs := [0, 6]) (by kernel_rfl) (by simp) ?_
        refine AllReadyH.cons rfl (fun K hK => ?_) (AllReadyH.cons rfl (fun K hK => ?_) AllReadyH.nil)
        · go_simp
          have hB1 : Blk (q0.alloc (.cells #[.int .u8 1] 5)) X (chC (.slice xa xn xc) true (.slice ya yn yc) false (.slice za zn zc)) 112 ∧ Below W.heap.size W (q0.alloc (.cells #[.int .u8 1] 5)) := ⟨(h0.1.alloc _ : Blk _ _ _ _), (h0.2.alloc h0.2.size _ : Below _ _ _)⟩
          refine hK.out _ _ hB1 (fun h1 => ?_)
          clear hK K
          have SB1 : Src (q0.alloc (.cells #[.int .u8 1] 5)) (.slice (some ⟨q0.heap.size, 0, none⟩) 1 1) [1] := src_new q0 [1] 1
          refine wpAnyH_ready (rs := [6]) (by kernel_rfl) (by simp) ?_
          refine AllReadyH.cons rfl (fun K hK => ?_) AllReadyH.nil
          go_simp
          refine Calls.mono (text_any (Src.kept0 HY.out h1.2) (by omega)) ?_
          rintro e q2 ⟨r2, rfl, m2⟩
          refine hK.out _ _ (⟨h1.1.keep0 (m2.2.1), h1.2.trans ((m2.2.1).mono h1.2.size)⟩) (fun h2 => ?_)
          clear hK K
          obtain ⟨b2, c2, hv⟩ := m2.1.form
          obtain ⟨n2, hn⟩ : ∃ nn : Nat, nn = ((numB yl.length ++ yl)).length := ⟨_, rfl⟩
          rw [← hn] at hv
          subst hv
          clear hn
          have hsrc : ∀ i, i < 3 → Src q2 ((fun i => match i with | 0 => Value.slice (some ⟨q0.heap.size, 0, none⟩) 1 1 | 1 => Value.slice b0 n0 c0 | _ => Value.slice b2 n2 c2) i) ((fun i => match i with | 0 => [1] | 1 => (numB xl.length ++ xl) | _ => (numB yl.length ++ yl)) i) := by
            intro i hi
            match i, hi with
            | 0, _ => exact Src.kept0 (SB1) m2.2.1
            | 1, _ => exact Src.kept0 (Src.kept0 (m0.1.src) ((Below.refl _ _).alloc (Nat.le_refl _) _)) m2.2.1
            | 2, _ => exact m2.1.src
          refine wpAnyH_ready (rs := [7]) (by kernel_rfl) (by simp) ?_
          refine AllReadyH.cons rfl (fun K hK => ?_) AllReadyH.nil
          go_simp
          refine hK.out _ _ (⟨h2.1.alloc _, h2.2.alloc h2.2.size _⟩) (fun hx => ?_)
          clear hK K
          refine wpAnyH_ready (rs := [8]) (by kernel_rfl) (by simp) ?_
          refine AllReadyH.cons rfl (fun K hK => ?_) AllReadyH.nil
          go_simp
          have PN := pieces_newY (cs := #[Value.slice (some ⟨q0.heap.size, 0, none⟩) 1 1, Value.slice b0 n0 c0, Value.slice b2 n2 c2]) (t := 23) (fun i hi => by match i, hi with | 0, _ => rfl | 1, _ => rfl | 2, _ => rfl) hsrc
          refine Calls.mono (join_any PN (by decide) (by
            intro k hk
            match k, hk with | 0, _ => simp [flat]; try omega | 1, _ => simp [flat]; try omega | 2, _ => simp [flat]; try omega | 3, _ => simp [flat]; try omega)) ?_
          rintro e wj ⟨vj, rfl, mj⟩
          refine hK.out _ _ (⟨hx.1.keep0 (mj.2.1), hx.2.trans ((mj.2.1).mono hx.2.size)⟩) (fun hy => ?_)
          clear hK K hsrc PN
          have F : Hid (Made W wj vj ([1] ++ ((numB xl.length ++ xl) ++ (numB yl.length ++ yl)))) := by
            have e2 : ([1] : List Int) ++ ((numB xl.length ++ xl) ++ (numB yl.length ++ yl)) = flat (fun i => match i with | 0 => [1] | 1 => (numB xl.length ++ xl) | _ => (numB yl.length ++ yl)) 3 := by simp [flat]
            rw [e2]
            exact Made.upY mj hx.2
          refine wpAnyH_ready (rs := [9]) (by kernel_rfl) (by simp) ?_
          refine AllReadyH.cons rfl (fun K hK => ?_) AllReadyH.nil
          go_simp
          refine hK.out _ _ hy (fun _ => ?_)
          clear hK K hx hy mj
          refine wpAnyH_done (by kernel_rfl) ?_ _
          go_wp2_with fail
          go_ret
          exact ⟨vj, rfl, by rw [EB.out]; exact Made.upY F.out HB.out⟩
        · go_simp
          refine Calls.mono (text_any (Src.kept0 HY.out h0.2) (by omega)) ?_
          rintro e q1 ⟨r1, rfl, m1⟩
          refine hK.out _ _ (⟨h0.1.keep0 (m1.2.1), h0.2.trans ((m1.2.1).mono h0.2.size)⟩) (fun h1 => ?_)
          clear hK K
          obtain ⟨b1, c1, hv⟩ := m1.1.form
          obtain ⟨n1, hn⟩ : ∃ nn : Nat, nn = ((numB yl.length ++ yl)).length := ⟨_, rfl⟩
          rw [← hn] at hv
          subst hv
          clear hn
          refine wpAnyH_ready (rs := [0]) (by kernel_rfl) (by simp) ?_
          refine AllReadyH.cons rfl (fun K hK => ?_) AllReadyH.nil
          go_simp
          have hB2 : Blk (q1.alloc (.cells #[.int .u8 1] 5)) X (chC (.slice xa xn xc) true (.slice ya yn yc) false (.slice za zn zc)) 112 ∧ Below W.heap.size W (q1.alloc (.cells #[.int .u8 1] 5)) := ⟨(h1.1.alloc _ : Blk _ _ _ _), (h1.2.alloc h1.2.size _ : Below _ _ _)⟩
          refine hK.out _ _ hB2 (fun h2 => ?_)
          clear hK K
          have SB2 : Src (q1.alloc (.cells #[.int .u8 1] 5)) (.slice (some ⟨q1.heap.size, 0, none⟩) 1 1) [1] := src_new q1 [1] 1
          have hsrc : ∀ i, i < 3 → Src (q1.alloc (.cells #[.int .u8 1] 5)) ((fun i => match i with | 0 => Value.slice (some ⟨q1.heap.size, 0, none⟩) 1 1 | 1 => Value.slice b0 n0 c0 | _ => Value.slice b1 n1 c1) i) ((fun i => match i with | 0 => [1] | 1 => (numB xl.length ++ xl) | _ => (numB yl.length ++ yl)) i) := by
            intro i hi
            match i, hi with
            | 0, _ => exact SB2
            | 1, _ => exact Src.kept0 (Src.kept0 (m0.1.src) m1.2.1) ((Below.refl _ _).alloc (Nat.le_refl _) _)
            | 2, _ => exact Src.kept0 (m1.1.src) ((Below.refl _ _).alloc (Nat.le_refl _) _)
          refine wpAnyH_ready (rs := [7]) (by kernel_rfl) (by simp) ?_
          refine AllReadyH.cons rfl (fun K hK => ?_) AllReadyH.nil
          go_simp
          refine hK.out _ _ (⟨h2.1.alloc _, h2.2.alloc h2.2.size _⟩) (fun hx => ?_)
          clear hK K
          refine wpAnyH_ready (rs := [8]) (by kernel_rfl) (by simp) ?_
          refine AllReadyH.cons rfl (fun K hK => ?_) AllReadyH.nil
          go_simp
          have PN := pieces_newY (cs := #[Value.slice (some ⟨q1.heap.size, 0, none⟩) 1 1, Value.slice b0 n0 c0, Value.slice b1 n1 c1]) (t := 23) (fun i hi => by match i, hi with | 0, _ => rfl | 1, _ => rfl | 2, _ => rfl) hsrc
          rw [World.size_alloc] at PN
          refine Calls.mono (join_any PN (by decide) (by
            intro k hk
            match k, hk with | 0, _ => simp [flat]; try omega | 1, _ => simp [flat]; try omega | 2, _ => simp [flat]; try omega | 3, _ => simp [flat]; try omega)) ?_
          rintro e wj ⟨vj, rfl, mj⟩
          refine hK.out _ _ (⟨hx.1.keep0 (mj.2.1), hx.2.trans ((mj.2.1).mono hx.2.size)⟩) (fun hy => ?_)
          clear hK K hsrc PN
          have F : Hid (Made W wj vj ([1] ++ ((numB xl.length ++ xl) ++ (numB yl.length ++ yl)))) := by
            have e2 : ([1] : List Int) ++ ((numB xl.length ++ xl) ++ (numB yl.length ++ yl)) = flat (fun i => match i with | 0 => [1] | 1 => (numB xl.length ++ xl) | _ => (numB yl.length ++ yl)) 3 := by simp [flat]
            rw [e2]
            exact Made.upY mj hx.2
          refine wpAnyH_ready (rs := [9]) (by kernel_rfl) (by simp) ?_
          refine AllReadyH.cons rfl (fun K hK => ?_) AllReadyH.nil
          go_simp
          refine hK.out _ _ hy (fun _ => ?_)
          clear hK K hx hy mj
          refine wpAnyH_done (by kernel_rfl) ?_ _
          go_wp2_with fail
          go_ret
          exact ⟨vj, rfl, by rw [EB.out]; exact Made.upY F.out HB.out⟩
  | false =>
    cases has with
    | true =>
      have EB : Hid (Cg.bytes ⟨⟨xa, xn, xc, xl⟩, false, ⟨ya, yn, yc, yl⟩, true, ⟨za, zn, zc, zl⟩⟩ = [2] ++ ((numB xl.length ++ xl) ++ (numB zl.length ++ zl))) := by show _ = _; simp [Cg.bytes, Tx.bytes]
      show Calls Try.prog 100 #[.agg (chC (.slice xa xn xc) false (.slice ya yn yc) true (.slice za zn zc)).toArray] w _
      obtain ⟨W, hW⟩ : ∃ W, W = w.alloc (.cells (chC (.slice xa xn xc) false (.slice ya yn yc) true (.slice za zn zc)).toArray 112) := ⟨_, rfl⟩
      obtain ⟨X, hX⟩ : ∃ X, X = w.heap.size := ⟨_, rfl⟩
      have hb : Below w.heap.size w W := by rw [hW]; exact (Below.refl _ _).alloc (Nat.le_refl _) _
      have B0 : Hid (Blk W X (chC (.slice xa xn xc) false (.slice ya yn yc) true (.slice za zn zc)) 112) := by rw [hW, hX]; exact Blk.made w (chC (.slice xa xn xc) false (.slice ya yn yc) true (.slice za zn zc)) 112
      have HB : Hid _ := hb
      have HX : Hid (Src W (.slice xa xn xc) xl) := Src.kept0 hx hb
      have HY : Hid (Src W (.slice ya yn yc) yl) := Src.kept0 hy0 hb
      have HZ : Hid (Src W (.slice za zn zc) zl) := Src.kept0 hz hb
      clear hx hy0 hz hb
      have k1 : W.cell? ⟨X, 1, none⟩ = some (.bool false) := B0.out.cell 1
      have k3 : W.cell? ⟨X, 3, none⟩ = some (.bool true) := B0.out.cell 3
      go_enter Try.func100, Try.ntmps100
      go_upto_region 1 with fail
      rw [← hW, ← hX]
      clear hW hX
      go_upto_region 6 with fail
      clear k1 k3
      refine wp_region_held_drew (S := fun w' => Blk w' X (chC (.slice xa xn xc) false (.slice ya yn yc) true (.slice za zn zc)) 112 ∧ Below W.heap.size W w') (by kernel_rfl) (⟨B0.out.drew, (Below.refl _ _).drew⟩) (fun hH => ?_)
      refine wpAnyH_take (i := 1) (v := .pointer (some ⟨X, 0, none⟩)) rfl (by kernel_rfl) (by kernel_rfl) (by kernel_rfl) (fun _ _ _ h => h) (Or.inl ⟨by rfl, fun w' _ => by go_simp⟩) hH ?_
      refine wpAnyH_take (i := 2) (v := .slice xa xn xc) rfl (by kernel_rfl) (by kernel_rfl) (by kernel_rfl) (fun _ _ _ h => h) (Or.inl ⟨by rfl, fun w' hw' => by have h2 : w'.cell? ⟨X, 0, none⟩ = some (.slice xa xn xc) := Blk.cell hw'.1 0; go_simp⟩) hH ?_
      refine wpAnyH_take (i := 4) (v := .pointer (some ⟨X, 4, none⟩)) rfl (by kernel_rfl) (by kernel_rfl) (by kernel_rfl) (fun _ _ _ h => h) (Or.inl ⟨by rfl, fun w' _ => by go_simp⟩) hH ?_
      refine wpAnyH_take (i := 5) (v := .slice za zn zc) rfl (by kernel_rfl) (by kernel_rfl) (by kernel_rfl) (fun _ _ _ h => h) (Or.inl ⟨by rfl, fun w' hw' => by have h2 : w'.cell? ⟨X, 4, none⟩ = some (.slice za zn zc) := Blk.cell hw'.1 4; go_simp⟩) hH ?_
      refine wpAnyH_ready (rs := [0, 3]) (by kernel_rfl) (by simp) ?_
      refine AllReadyH.cons rfl (fun K hK => ?_) (AllReadyH.cons rfl (fun K hK => ?_) AllReadyH.nil)
      · go_simp
        have hB0 : Blk (W.alloc (.cells #[.int .u8 2] 5)).drew X (chC (.slice xa xn xc) false (.slice ya yn yc) true (.slice za zn zc)) 112 ∧ Below W.heap.size W (W.alloc (.cells #[.int .u8 2] 5)).drew := ⟨(hH.1.alloc _ : Blk _ _ _ _), (hH.2.alloc hH.2.size _ : Below _ _ _)⟩
        refine hK.out _ _ hB0 (fun h0 => ?_)
        clear hK K
        have SB0 : Src (W.alloc (.cells #[.int .u8 2] 5)).drew (.slice (some ⟨W.heap.size, 0, none⟩) 1 1) [2] := Src.kept (src_new W [2] 1) ((Chg.refl (fun _ => False) _).drew) (fun _ _ e => e)
        refine wpAnyH_ready (rs := [3]) (by kernel_rfl) (by simp) ?_
        refine AllReadyH.cons rfl (fun K hK => ?_) AllReadyH.nil
        go_simp
        refine Calls.mono (text_any (Src.kept0 HX.out h0.2) (by omega)) ?_
        rintro e q1 ⟨r1, rfl, m1⟩
        refine hK.out _ _ (⟨h0.1.keep0 (m1.2.1), h0.2.trans ((m1.2.1).mono h0.2.size)⟩) (fun h1 => ?_)
        clear hK K
        obtain ⟨b1, c1, hv⟩ := m1.1.form
        obtain ⟨n1, hn⟩ : ∃ nn : Nat, nn = ((numB xl.length ++ xl)).length := ⟨_, rfl⟩
        rw [← hn] at hv
        subst hv
        clear hn
        refine wpAnyH_ready (rs := [6]) (by kernel_rfl) (by simp) ?_
        refine AllReadyH.cons rfl (fun K hK => ?_) AllReadyH.nil
        go_simp
        refine Calls.mono (text_any (Src.kept0 HZ.out h1.2) (by omega)) ?_
        rintro e q2 ⟨r2, rfl, m2⟩
        refine hK.out _ _ (⟨h1.1.keep0 (m2.2.1), h1.2.trans ((m2.2.1).mono h1.2.size)⟩) (fun h2 => ?_)
        clear hK K
        obtain ⟨b2, c2, hv⟩ := m2.1.form
        obtain ⟨n2, hn⟩ : ∃ nn : Nat, nn = ((numB zl.length ++ zl)).length := ⟨_, rfl⟩
        rw [← hn] at hv
        subst hv
        clear hn
        have hsrc : ∀ i, i < 3 → Src q2 ((fun i => match i with | 0 => Value.slice (some ⟨W.heap.size, 0, none⟩) 1 1 | 1 => Value.slice b1 n1 c1 | _ => Value.slice b2 n2 c2) i) ((fun i => match i with | 0 => [2] | 1 => (numB xl.length ++ xl) | _ => (numB zl.length ++ zl)) i) := by
          intro i hi
          match i, hi with
          | 0, _ => exact Src.kept0 (Src.kept0 (SB0) m1.2.1) m2.2.1
          | 1, _ => exact Src.kept0 (m1.1.src) m2.2.1
          | 2, _ => exact m2.1.src
        refine wpAnyH_ready (rs := [7]) (by kernel_rfl) (by simp) ?_
        refine AllReadyH.cons rfl (fun K hK => ?_) AllReadyH.nil
        go_simp
        refine hK.out _ _ (⟨h2.1.alloc _, h2.2.alloc h2.2.size _⟩) (fun hx => ?_)
        clear hK K
        refine wpAnyH_ready (rs := [8]) (by kernel_rfl) (by simp) ?_
        refine AllReadyH.cons rfl (fun K hK => ?_) AllReadyH.nil
        go_simp
        have PN := pieces_newY (cs := #[Value.slice (some ⟨W.heap.size, 0, none⟩) 1 1, Value.slice b1 n1 c1, Value.slice b2 n2 c2]) (t := 23) (fun i hi => by match i, hi with | 0, _ => rfl | 1, _ => rfl | 2, _ => rfl) hsrc
        refine Calls.mono (join_any PN (by decide) (by
          intro k hk
          match k, hk with | 0, _ => simp [flat]; try omega | 1, _ => simp [flat]; try omega | 2, _ => simp [flat]; try omega | 3, _ => simp [flat]; try omega)) ?_
        rintro e wj ⟨vj, rfl, mj⟩
        refine hK.out _ _ (⟨hx.1.keep0 (mj.2.1), hx.2.trans ((mj.2.1).mono hx.2.size)⟩) (fun hy => ?_)
        clear hK K hsrc PN
        have F : Hid (Made W wj vj ([2] ++ ((numB xl.length ++ xl) ++ (numB zl.length ++ zl)))) := by
          have e2 : ([2] : List Int) ++ ((numB xl.length ++ xl) ++ (numB zl.length ++ zl)) = flat (fun i => match i with | 0 => [2] | 1 => (numB xl.length ++ xl) | _ => (numB zl.length ++ zl)) 3 := by simp [flat]
          rw [e2]
          exact Made.upY mj hx.2
        refine wpAnyH_ready (rs := [9]) (by kernel_rfl) (by simp) ?_
        refine AllReadyH.cons rfl (fun K hK => ?_) AllReadyH.nil
        go_simp
        refine hK.out _ _ hy (fun _ => ?_)
        clear hK K hx hy mj
        refine wpAnyH_done (by kernel_rfl) ?_ _
        go_wp2_with fail
        go_ret
        exact ⟨vj, rfl, by rw [EB.out]; exact Made.upY F.out HB.out⟩
      · go_simp
        refine Calls.mono (text_any (Src.kept0 HX.out hH.2) (by omega)) ?_
        rintro e q0 ⟨r0, rfl, m0⟩
        refine hK.out _ _ (⟨hH.1.keep0 (m0.2.1), hH.2.trans ((m0.2.1).mono hH.2.size)⟩) (fun h0 => ?_)
        clear hK K
        obtain ⟨b0, c0, hv⟩ := m0.1.form
        obtain ⟨n0, hn⟩ : ∃ nn : Nat, nn = ((numB xl.length ++ xl)).length := ⟨_, rfl⟩
        rw [← hn] at hv
        subst hv
        clear hn
        refine wpAnyH_ready (rs := [0, 6]) (by kernel_rfl) (by simp) ?_
        refine AllReadyH.cons rfl (fun K hK => ?_) (AllReadyH.cons rfl (fun K hK => ?_) AllReadyH.nil)
        · go_simp
          have hB1 : Blk (q0.alloc (.cells #[.int .u8 2] 5)) X (chC (.slice xa xn xc) false (.slice ya yn yc) true (.slice za zn zc)) 112 ∧ Below W.heap.size W (q0.alloc (.cells #[.int .u8 2] 5)) := ⟨(h0.1.alloc _ : Blk _ _ _ _), (h0.2.alloc h0.2.size _ : Below _ _ _)⟩
          refine hK.out _ _ hB1 (fun h1 => ?_)
          clear hK K
          have SB1 : Src (q0.alloc (.cells #[.int .u8 2] 5)) (.slice (some ⟨q0.heap.size, 0, none⟩) 1 1) [2] := src_new q0 [2] 1
          refine wpAnyH_ready (rs := [6]) (by kernel_rfl) (by simp) ?_
          refine AllReadyH.cons rfl (fun K hK => ?_) AllReadyH.nil
          go_simp
          refine Calls.mono (text_any (Src.kept0 HZ.out h1.2) (by omega)) ?_
          rintro e q2 ⟨r2, rfl, m2⟩
          refine hK.out _ _ (⟨h1.1.keep0 (m2.2.1), h1.2.trans ((m2.2.1).mono h1.2.size)⟩) (fun h2 => ?_)
          clear hK K
          obtain ⟨b2, c2, hv⟩ := m2.1.form
          obtain ⟨n2, hn⟩ : ∃ nn : Nat, nn = ((numB zl.length ++ zl)).length := ⟨_, rfl⟩
          rw [← hn] at hv
          subst hv
          clear hn
          have hsrc : ∀ i, i < 3 → Src q2 ((fun i => match i with | 0 => Value.slice (some ⟨q0.heap.size, 0, none⟩) 1 1 | 1 => Value.slice b0 n0 c0 | _ => Value.slice b2 n2 c2) i) ((fun i => match i with | 0 => [2] | 1 => (numB xl.length ++ xl) | _ => (numB zl.length ++ zl)) i) := by
            intro i hi
            match i, hi with
            | 0, _ => exact Src.kept0 (SB1) m2.2.1
            | 1, _ => exact Src.kept0 (Src.kept0 (m0.1.src) ((Below.refl _ _).alloc (Nat.le_refl _) _)) m2.2.1
            | 2, _ => exact m2.1.src
          refine wpAnyH_ready (rs := [7]) (by kernel_rfl) (by simp) ?_
          refine AllReadyH.cons rfl (fun K hK => ?_) AllReadyH.nil
          go_simp
          refine hK.out _ _ (⟨h2.1.alloc _, h2.2.alloc h2.2.size _⟩) (fun hx => ?_)
          clear hK K
          refine wpAnyH_ready (rs := [8]) (by kernel_rfl) (by simp) ?_
          refine AllReadyH.cons rfl (fun K hK => ?_) AllReadyH.nil
          go_simp
          have PN := pieces_newY (cs := #[Value.slice (some ⟨q0.heap.size, 0, none⟩) 1 1, Value.slice b0 n0 c0, Value.slice b2 n2 c2]) (t := 23) (fun i hi => by match i, hi with | 0, _ => rfl | 1, _ => rfl | 2, _ => rfl) hsrc
          refine Calls.mono (join_any PN (by decide) (by
            intro k hk
            match k, hk with | 0, _ => simp [flat]; try omega | 1, _ => simp [flat]; try omega | 2, _ => simp [flat]; try omega | 3, _ => simp [flat]; try omega)) ?_
          rintro e wj ⟨vj, rfl, mj⟩
          refine hK.out _ _ (⟨hx.1.keep0 (mj.2.1), hx.2.trans ((mj.2.1).mono hx.2.size)⟩) (fun hy => ?_)
          clear hK K hsrc PN
          have F : Hid (Made W wj vj ([2] ++ ((numB xl.length ++ xl) ++ (numB zl.length ++ zl)))) := by
            have e2 : ([2] : List Int) ++ ((numB xl.length ++ xl) ++ (numB zl.length ++ zl)) = flat (fun i => match i with | 0 => [2] | 1 => (numB xl.length ++ xl) | _ => (numB zl.length ++ zl)) 3 := by simp [flat]
            rw [e2]
            exact Made.upY mj hx.2
          refine wpAnyH_ready (rs := [9]) (by kernel_rfl) (by simp) ?_
          refine AllReadyH.cons rfl (fun K hK => ?_) AllReadyH.nil
          go_simp
          refine hK.out _ _ hy (fun _ => ?_)
          clear hK K hx hy mj
          refine wpAnyH_done (by kernel_rfl) ?_ _
          go_wp2_with fail
          go_ret
          exact ⟨vj, rfl, by rw [EB.out]; exact Made.upY F.out HB.out⟩
        · go_simp
          refine Calls.mono (text_any (Src.kept0 HZ.out h0.2) (by omega)) ?_
          rintro e q1 ⟨r1, rfl, m1⟩
          refine hK.out _ _ (⟨h0.1.keep0 (m1.2.1), h0.2.trans ((m1.2.1).mono h0.2.size)⟩) (fun h1 => ?_)
          clear hK K
          obtain ⟨b1, c1, hv⟩ := m1.1.form
          obtain ⟨n1, hn⟩ : ∃ nn : Nat, nn = ((numB zl.length ++ zl)).length := ⟨_, rfl⟩
          rw [← hn] at hv
          subst hv
          clear hn
          refine wpAnyH_ready (rs := [0]) (by kernel_rfl) (by simp) ?_
          refine AllReadyH.cons rfl (fun K hK => ?_) AllReadyH.nil
          go_simp
          have hB2 : Blk (q1.alloc (.cells #[.int .u8 2] 5)) X (chC (.slice xa xn xc) false (.slice ya yn yc) true (.slice za zn zc)) 112 ∧ Below W.heap.size W (q1.alloc (.cells #[.int .u8 2] 5)) := ⟨(h1.1.alloc _ : Blk _ _ _ _), (h1.2.alloc h1.2.size _ : Below _ _ _)⟩
          refine hK.out _ _ hB2 (fun h2 => ?_)
          clear hK K
          have SB2 : Src (q1.alloc (.cells #[.int .u8 2] 5)) (.slice (some ⟨q1.heap.size, 0, none⟩) 1 1) [2] := src_new q1 [2] 1
          have hsrc : ∀ i, i < 3 → Src (q1.alloc (.cells #[.int .u8 2] 5)) ((fun i => match i with | 0 => Value.slice (some ⟨q1.heap.size, 0, none⟩) 1 1 | 1 => Value.slice b0 n0 c0 | _ => Value.slice b1 n1 c1) i) ((fun i => match i with | 0 => [2] | 1 => (numB xl.length ++ xl) | _ => (numB zl.length ++ zl)) i) := by
            intro i hi
            match i, hi with
            | 0, _ => exact SB2
            | 1, _ => exact Src.kept0 (Src.kept0 (m0.1.src) m1.2.1) ((Below.refl _ _).alloc (Nat.le_refl _) _)
            | 2, _ => exact Src.kept0 (m1.1.src) ((Below.refl _ _).alloc (Nat.le_refl _) _)
          refine wpAnyH_ready (rs := [7]) (by kernel_rfl) (by simp) ?_
          refine AllReadyH.cons rfl (fun K hK => ?_) AllReadyH.nil
          go_simp
          refine hK.out _ _ (⟨h2.1.alloc _, h2.2.alloc h2.2.size _⟩) (fun hx => ?_)
          clear hK K
          refine wpAnyH_ready (rs := [8]) (by kernel_rfl) (by simp) ?_
          refine AllReadyH.cons rfl (fun K hK => ?_) AllReadyH.nil
          go_simp
          have PN := pieces_newY (cs := #[Value.slice (some ⟨q1.heap.size, 0, none⟩) 1 1, Value.slice b0 n0 c0, Value.slice b1 n1 c1]) (t := 23) (fun i hi => by match i, hi with | 0, _ => rfl | 1, _ => rfl | 2, _ => rfl) hsrc
          rw [World.size_alloc] at PN
          refine Calls.mono (join_any PN (by decide) (by
            intro k hk
            match k, hk with | 0, _ => simp [flat]; try omega | 1, _ => simp [flat]; try omega | 2, _ => simp [flat]; try omega | 3, _ => simp [flat]; try omega)) ?_
          rintro e wj ⟨vj, rfl, mj⟩
          refine hK.out _ _ (⟨hx.1.keep0 (mj.2.1), hx.2.trans ((mj.2.1).mono hx.2.size)⟩) (fun hy => ?_)
          clear hK K hsrc PN
          have F : Hid (Made W wj vj ([2] ++ ((numB xl.length ++ xl) ++ (numB zl.length ++ zl)))) := by
            have e2 : ([2] : List Int) ++ ((numB xl.length ++ xl) ++ (numB zl.length ++ zl)) = flat (fun i => match i with | 0 => [2] | 1 => (numB xl.length ++ xl) | _ => (numB zl.length ++ zl)) 3 := by simp [flat]
            rw [e2]
            exact Made.upY mj hx.2
          refine wpAnyH_ready (rs := [9]) (by kernel_rfl) (by simp) ?_
          refine AllReadyH.cons rfl (fun K hK => ?_) AllReadyH.nil
          go_simp
          refine hK.out _ _ hy (fun _ => ?_)
          clear hK K hx hy mj
          refine wpAnyH_done (by kernel_rfl) ?_ _
          go_wp2_with fail
          go_ret
          exact ⟨vj, rfl, by rw [EB.out]; exact Made.upY F.out HB.out⟩
    | false =>
      have EB : Hid (Cg.bytes ⟨⟨xa, xn, xc, xl⟩, false, ⟨ya, yn, yc, yl⟩, false, ⟨za, zn, zc, zl⟩⟩ = [0] ++ (numB xl.length ++ xl)) := by show _ = _; simp [Cg.bytes, Tx.bytes]
      show Calls Try.prog 100 #[.agg (chC (.slice xa xn xc) false (.slice ya yn yc) false (.slice za zn zc)).toArray] w _
      obtain ⟨W, hW⟩ : ∃ W, W = w.alloc (.cells (chC (.slice xa xn xc) false (.slice ya yn yc) false (.slice za zn zc)).toArray 112) := ⟨_, rfl⟩
      obtain ⟨X, hX⟩ : ∃ X, X = w.heap.size := ⟨_, rfl⟩
      have hb : Below w.heap.size w W := by rw [hW]; exact (Below.refl _ _).alloc (Nat.le_refl _) _
      have B0 : Hid (Blk W X (chC (.slice xa xn xc) false (.slice ya yn yc) false (.slice za zn zc)) 112) := by rw [hW, hX]; exact Blk.made w (chC (.slice xa xn xc) false (.slice ya yn yc) false (.slice za zn zc)) 112
      have HB : Hid _ := hb
      have HX : Hid (Src W (.slice xa xn xc) xl) := Src.kept0 hx hb
      have HY : Hid (Src W (.slice ya yn yc) yl) := Src.kept0 hy0 hb
      have HZ : Hid (Src W (.slice za zn zc) zl) := Src.kept0 hz hb
      clear hx hy0 hz hb
      have k1 : W.cell? ⟨X, 1, none⟩ = some (.bool false) := B0.out.cell 1
      have k3 : W.cell? ⟨X, 3, none⟩ = some (.bool false) := B0.out.cell 3
      go_enter Try.func100, Try.ntmps100
      go_upto_region 1 with fail
      rw [← hW, ← hX]
      clear hW hX
      have kx : (W.alloc (.cells #[.int .u8 0] 5)).cell? ⟨X, 0, none⟩ = some (.slice xa xn xc) := (B0.out.alloc _).cell 0
      go_wp2_with fail
      have S0 : Src (W.alloc (.cells #[.int .u8 0] 5)) (.slice (some ⟨W.heap.size, 0, none⟩) 1 1) [0] := src_new W [0] 1
      refine Calls.mono (text_any (Src.kept0 HX.out ((Below.refl _ _).alloc (Nat.le_refl _) _)) (by omega)) ?_
      rintro e q0 ⟨r0, rfl, m0⟩
      have BQ : Hid (Below W.heap.size W q0) := ((Below.refl _ _).alloc (Nat.le_refl _) _).trans (m0.2.1.mono (by simp))
      clear kx k1 k3
      obtain ⟨ta, tc, hv⟩ := m0.1.form
      obtain ⟨tn, hn⟩ : ∃ nn : Nat, nn = ((numB xl.length ++ xl)).length := ⟨_, rfl⟩
      rw [← hn] at hv
      subst hv
      clear hn
      have hsrc : ∀ i, i < 2 → Src q0 ((fun i => match i with | 0 => Value.slice (some ⟨W.heap.size, 0, none⟩) 1 1 | _ => Value.slice ta tn tc) i) ((fun i => match i with | 0 => [0] | _ => (numB xl.length ++ xl)) i) := by
        intro i hi
        match i, hi with
        | 0, _ => exact Src.kept0 S0 m0.2.1
        | 1, _ => exact m0.1.src
      have PN := pieces_newY (cs := #[Value.slice (some ⟨W.heap.size, 0, none⟩) 1 1, Value.slice ta tn tc]) (t := 23) (fun i hi => by match i, hi with | 0, _ => rfl | 1, _ => rfl) hsrc
      go_wp2_with fail
      refine Calls.mono (join_any PN (by decide) (by
        intro k hk
        match k, hk with | 0, _ => simp [flat]; try omega | 1, _ => simp [flat]; try omega | 2, _ => simp [flat]; try omega)) ?_
      rintro e wj ⟨vj, rfl, mj⟩
      have F : Hid (Made W wj vj ([0] ++ (numB xl.length ++ xl))) := by
        have e2 : ([0] : List Int) ++ (numB xl.length ++ xl) = flat (fun i => match i with | 0 => [0] | _ => (numB xl.length ++ xl)) 2 := by simp [flat]
        rw [e2]
        exact Made.upY mj (BQ.out.alloc BQ.out.size _)
      clear hsrc PN mj
      go_wp2_with fail
      go_ret
      exact ⟨vj, rfl, by rw [EB.out]; exact Made.upY F.out HB.out⟩
end Go.Proofs.Ytjmeaebehndheaa
