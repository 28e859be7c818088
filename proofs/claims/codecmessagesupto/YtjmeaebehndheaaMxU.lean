/-
  The reference writes spans and changes.
-/
import Derived.Test.YtjmeaebehndheaaMsV
import Derived.Test.YtjmeaebehndheaaJoin
import Derived.Test.YtjmeaebehndheaaPrX
namespace Go.Proofs.Ytjmeaebehndheaa
open Go.RowKit

theorem Made.upY {w W w' : World} {v : Value} {l : List Int} (h : Made W w' v l) (b : Below w.heap.size w W) : Made w w' v l :=
  ⟨h.1, b.trans (h.2.1.mono b.size), fun k hk => Nat.le_trans b.size (h.2.2 k hk)⟩
theorem pieces_newY {w : World} {n : Nat} {ls : Nat → List Int} {vs : Nat → Value} {cs : Array Value} {t : TypeId} (hc : ∀ i, i < n → cs[i]? = some (vs i)) (hs : ∀ i, i < n → Src w (vs i) (ls i)) : Pieces (w.alloc (.cells cs t)) w.heap.size n vs ls :=
  ⟨fun i hi => by rw [cell_of_row _ _ i cs t _ (heap_alloc_new _ _)]; exact hc i hi, fun i hi => (hs i hi).kept0 ((Below.refl _ _).alloc (Nat.le_refl _) _)⟩
def u64Y (x : Int) : Nat := (x % 18446744073709551616).toNat
theorem u64Y_lt (x : Int) : u64Y x < 18446744073709551616 := by unfold u64Y; omega
theorem u64Y_wrap (x : Int) : IntKind.wrap .u64 x = (u64Y x : Int) := by rw [IntKind.wrap_u64]; unfold u64Y; omega
theorem highY (x : Int) : high 1 (u64Y x) = [x % 256] := by
  have h : (((u64Y x % 256 : Nat)) : Int) = x % 256 := by unfold u64Y; omega
  simp only [high, List.nil_append, h]
theorem high1_any (w : World) (x : Int) :
    Calls Try.prog 49 #[.int .u64 (u64Y x : Nat), .int .i64 1] w fun e w' => ∃ v, e = .returned v ∧ Made w w' v [x % 256] := by
  have h := high_any w 1 (by decide) (u64Y x) (u64Y_lt x)
  rw [highY] at h
  exact h

theorem step_appY {ops : Array Oper} {o : Oper} {a : Act} {w w' : World} {K : Act → World → Prop} {Q : Exit → Act → World → Prop} {E : Prop} (hgd : o.guard = none) (s x : Operand)
    (ho : o.op = .call { callee := .builtin .append, args := #[s, x], argTypes := #[23, 23] }) {v u v' : Value} (hs : a.eval s = v) (hx : a.eval x = u) (hr : (Builtin.append_ #[23, 23] o.type #[v, u]).run Try.prog w = .ok v' w') (h : K (a.put o.dst v') w') :
    if Region.wanted o (yielded ops a.tmps) = true then Oper.wp Try.prog o a w K Q else E := by
  have hw : Region.wanted o (yielded ops a.tmps) = true := by simp [Region.wanted, hgd]
  rw [if_pos hw]
  unfold Oper.wp execOp
  simp only [ho, resolve, invoke, builtin, Sem.run_bind, Sem.run_pure, Result.andThen_ok, List.map_toArray, List.map_cons, List.map_nil, hs, hx, hr]
  exact h


set_option maxRecDepth 100000 in
set_option maxHeartbeats 8000000 in
theorem xSpanB_any {w : World} {o : Sp} (h1 : Src w o.lo.val o.lo.l) (h2 : Src w o.hi.val o.hi.l) (l1 : o.lo.l.length ≤ 1048576) (l2 : o.hi.l.length ≤ 1048576) :
    Calls Try.prog 98 #[.agg o.cells.toArray] w fun e w' => ∃ u, e = .returned u ∧ Made w w' u o.bytes := by
  obtain ⟨⟨la, ln, lc, ll⟩, ⟨ha, hn, hc, hl⟩, op⟩ := o
  simp only [Tx.val] at h1 h2 l1 l2
  have hL := h1
  have hH0 := h2
  clear h1 h2
  have t1 := numB_ten (n := ll.length) (by omega)
  have t2 := numB_ten (n := hl.length) (by omega)
  cases op with
  | true =>
    have EB : Hid (Sp.bytes ⟨⟨la, ln, lc, ll⟩, ⟨ha, hn, hc, hl⟩, true⟩ = [1] ++ (numB ll.length ++ ll)) := by show _ = _; simp [Sp.bytes, Tx.bytes]
    show Calls Try.prog 98 #[.agg (spC (.slice la ln lc) (.slice ha hn hc) true).toArray] w _
    obtain ⟨W, hW⟩ : ∃ W, W = w.alloc (.cells (spC (.slice la ln lc) (.slice ha hn hc) true).toArray 89) := ⟨_, rfl⟩
    obtain ⟨X, hX⟩ : ∃ X, X = w.heap.size := ⟨_, rfl⟩
    have hb : Below w.heap.size w W := by rw [hW]; exact (Below.refl _ _).alloc (Nat.le_refl _) _
    have B0 : Hid (Blk W X (spC (.slice la ln lc) (.slice ha hn hc) true) 89) := by rw [hW, hX]; exact Blk.made w (spC (.slice la ln lc) (.slice ha hn hc) true) 89
    have HB : Hid _ := hb
    have HL : Hid (Src W (.slice la ln lc) ll) := Src.kept0 hL hb
    have HH : Hid (Src W (.slice ha hn hc) hl) := Src.kept0 hH0 hb
    clear hL hH0 hb
    have k2 : W.cell? ⟨X, 2, none⟩ = some (.bool true) := B0.out.cell 2
    go_enter Try.func98, Try.ntmps98
    go_upto_region 1 with fail
    rw [← hW, ← hX]
    clear hW hX
    have kx : (W.alloc (.cells #[.int .u8 1] 5)).cell? ⟨X, 0, none⟩ = some (.slice la ln lc) := (B0.out.alloc _).cell 0
    go_wp2_with fail
    have S0 : Src (W.alloc (.cells #[.int .u8 1] 5)) (.slice (some ⟨W.heap.size, 0, none⟩) 1 1) [1] := src_new W [1] 1
    refine Calls.mono (text_any (Src.kept0 HL.out ((Below.refl _ _).alloc (Nat.le_refl _) _)) (by omega)) ?_
    rintro e q0 ⟨r0, rfl, m0⟩
    have BQ : Hid (Below W.heap.size W q0) := ((Below.refl _ _).alloc (Nat.le_refl _) _).trans (m0.2.1.mono (by simp))
    clear kx k2
    obtain ⟨ta, tc, hv⟩ := m0.1.form
    obtain ⟨tn, hn⟩ : ∃ nn : Nat, nn = ((numB ll.length ++ ll)).length := ⟨_, rfl⟩
    rw [← hn] at hv
    subst hv
    clear hn
    have hsrc : ∀ i, i < 2 → Src q0 ((fun i => match i with | 0 => Value.slice (some ⟨W.heap.size, 0, none⟩) 1 1 | _ => Value.slice ta tn tc) i) ((fun i => match i with | 0 => [1] | _ => (numB ll.length ++ ll)) i) := by
      intro i hi
      match i, hi with
      | 0, _ => exact Src.kept0 S0 m0.2.1
      | 1, _ => exact m0.1.src
    have PN := pieces_newY (cs := #[Value.slice (some ⟨W.heap.size, 0, none⟩) 1 1, Value.slice ta tn tc]) (t := 23) (fun i hi => by match i, hi with | 0, _ => rfl | 1, _ => rfl) hsrc
    go_wp2_with fail
    refine Calls.mono (join_any PN (by decide) (by
      intro k hk
      match k, hk with | 0, _ => simp [flat]; try omega | 1, _ => simp [flat]; try omega | 2, _ => simp [flat]; try omega)) ?_
    rintro e wj ⟨vj, rfl, mj⟩
    have F : Hid (Made W wj vj ([1] ++ (numB ll.length ++ ll))) := by
      have e2 : ([1] : List Int) ++ (numB ll.length ++ ll) = flat (fun i => match i with | 0 => [1] | _ => (numB ll.length ++ ll)) 2 := by simp [flat]
      rw [e2]
      exact Made.upY mj (BQ.out.alloc BQ.out.size _)
    clear hsrc PN mj
    go_wp2_with fail
    go_ret
    exact ⟨vj, rfl, by rw [EB.out]; exact Made.upY F.out HB.out⟩
  | false =>
    have EB : Hid (Sp.bytes ⟨⟨la, ln, lc, ll⟩, ⟨ha, hn, hc, hl⟩, false⟩ = [0] ++ ((numB ll.length ++ ll) ++ (numB hl.length ++ hl))) := by show _ = _; simp [Sp.bytes, Tx.bytes]
    show Calls Try.prog 98 #[.agg (spC (.slice la ln lc) (.slice ha hn hc) false).toArray] w _
    obtain ⟨W, hW⟩ : ∃ W, W = w.alloc (.cells (spC (.slice la ln lc) (.slice ha hn hc) false).toArray 89) := ⟨_, rfl⟩
    obtain ⟨X, hX⟩ : ∃ X, X = w.heap.size := ⟨_, rfl⟩
    have hb : Below w.heap.size w W := by rw [hW]; exact (Below.refl _ _).alloc (Nat.le_refl _) _
    have B0 : Hid (Blk W X (spC (.slice la ln lc) (.slice ha hn hc) false) 89) := by rw [hW, hX]; exact Blk.made w (spC (.slice la ln lc) (.slice ha hn hc) false) 89
    have HB : Hid _ := hb
    have HL : Hid (Src W (.slice la ln lc) ll) := Src.kept0 hL hb
    have HH : Hid (Src W (.slice ha hn hc) hl) := Src.kept0 hH0 hb
    clear hL hH0 hb
    have k2 : W.cell? ⟨X, 2, none⟩ = some (.bool false) := B0.out.cell 2
    go_enter Try.func98, Try.ntmps98
    go_upto_region 1 with fail
    rw [← hW, ← hX]
    clear hW hX
    go_upto_region 3 with fail
    clear k2
    refine wp_region_held_drew (S := fun w' => Blk w' X (spC (.slice la ln lc) (.slice ha hn hc) false) 89 ∧ Below W.heap.size W w') (by kernel_rfl) (⟨B0.out.drew, (Below.refl _ _).drew⟩) (fun hH => ?_)
    refine wpAnyH_take (i := 1) (v := .pointer (some ⟨X, 0, none⟩)) rfl (by kernel_rfl) (by kernel_rfl) (by kernel_rfl) (fun _ _ _ h => h) (Or.inl ⟨by rfl, fun w' _ => by go_simp⟩) hH ?_
    refine wpAnyH_take (i := 2) (v := .slice la ln lc) rfl (by kernel_rfl) (by kernel_rfl) (by kernel_rfl) (fun _ _ _ h => h) (Or.inl ⟨by rfl, fun w' hw' => by have h2 : w'.cell? ⟨X, 0, none⟩ = some (.slice la ln lc) := Blk.cell hw'.1 0; go_simp⟩) hH ?_
    refine wpAnyH_take (i := 4) (v := .pointer (some ⟨X, 1, none⟩)) rfl (by kernel_rfl) (by kernel_rfl) (by kernel_rfl) (fun _ _ _ h => h) (Or.inl ⟨by rfl, fun w' _ => by go_simp⟩) hH ?_
    refine wpAnyH_take (i := 5) (v := .slice ha hn hc) rfl (by kernel_rfl) (by kernel_rfl) (by kernel_rfl) (fun _ _ _ h => h) (Or.inl ⟨by rfl, fun w' hw' => by have h2 : w'.cell? ⟨X, 1, none⟩ = some (.slice ha hn hc) := Blk.cell hw'.1 1; go_simp⟩) hH ?_
    refine wpAnyH_ready (rs := [0, 3]) (by kernel_rfl) (by simp) ?_
    refine AllReadyH.cons rfl (fun K hK => ?_) (AllReadyH.cons rfl (fun K hK => ?_) AllReadyH.nil)
    · go_simp
      have hB0 : Blk (W.alloc (.cells #[.int .u8 0] 5)).drew X (spC (.slice la ln lc) (.slice ha hn hc) false) 89 ∧ Below W.heap.size W (W.alloc (.cells #[.int .u8 0] 5)).drew := ⟨(hH.1.alloc _ : Blk _ _ _ _), (hH.2.alloc hH.2.size _ : Below _ _ _)⟩
      refine hK.out _ _ hB0 (fun h0 => ?_)
      clear hK K
      have SB0 : Src (W.alloc (.cells #[.int .u8 0] 5)).drew (.slice (some ⟨W.heap.size, 0, none⟩) 1 1) [0] := Src.kept (src_new W [0] 1) ((Chg.refl (fun _ => False) _).drew) (fun _ _ e => e)
      refine wpAnyH_ready (rs := [3]) (by kernel_rfl) (by simp) ?_
      refine AllReadyH.cons rfl (fun K hK => ?_) AllReadyH.nil
      go_simp
      refine Calls.mono (text_any (Src.kept0 HL.out h0.2) (by omega)) ?_
      rintro e q1 ⟨r1, rfl, m1⟩
      refine hK.out _ _ (⟨h0.1.keep0 (m1.2.1), h0.2.trans ((m1.2.1).mono h0.2.size)⟩) (fun h1 => ?_)
      clear hK K
      obtain ⟨b1, c1, hv⟩ := m1.1.form
      obtain ⟨n1, hn⟩ : ∃ nn : Nat, nn = ((numB ll.length ++ ll)).length := ⟨_, rfl⟩
      rw [← hn] at hv
      subst hv
      clear hn
      refine wpAnyH_ready (rs := [6]) (by kernel_rfl) (by simp) ?_
      refine AllReadyH.cons rfl (fun K hK => ?_) AllReadyH.nil
      go_simp
      refine Calls.mono (text_any (Src.kept0 HH.out h1.2) (by omega)) ?_
      rintro e q2 ⟨r2, rfl, m2⟩
      refine hK.out _ _ (⟨h1.1.keep0 (m2.2.1), h1.2.trans ((m2.2.1).mono h1.2.size)⟩) (fun h2 => ?_)
      clear hK K
      obtain ⟨b2, c2, hv⟩ := m2.1.form
      obtain ⟨n2, hn⟩ : ∃ nn : Nat, nn = ((numB hl.length ++ hl)).length := ⟨_, rfl⟩
      rw [← hn] at hv
      subst hv
      clear hn
      have hsrc : ∀ i, i < 3 → Src q2 ((fun i => match i with | 0 => Value.slice (some ⟨W.heap.size, 0, none⟩) 1 1 | 1 => Value.slice b1 n1 c1 | _ => Value.slice b2 n2 c2) i) ((fun i => match i with | 0 => [0] | 1 => (numB ll.length ++ ll) | _ => (numB hl.length ++ hl)) i) := by
        intro i hi
        match i, hi with
        | 0, _ => exact Src.kept0 (Src.kept0 (SB0) m1.2.1) m2.2.1
        | 1, _ => exact Src.kept0 (m1.1.src) m2.2.1
        | 2, _ => exact m2.1.src
      refine wpAnyH_ready (rs := [7]) (by kernel_rfl) (by simp) ?_
      refine AllReadyH.cons rfl (fun K hK => ?_) AllReadyH.nil
      go_simp
      refine hK.out _ _ (⟨h2.1.alloc _, h2.2.alloc h2.2.size _⟩) (fun hx => ?_)
      clear hK K
      refine wpAnyH_ready (rs := [8]) (by kernel_rfl) (by simp) ?_
      refine AllReadyH.cons rfl (fun K hK => ?_) AllReadyH.nil
      go_simp
      have PN := pieces_newY (cs := #[Value.slice (some ⟨W.heap.size, 0, none⟩) 1 1, Value.slice b1 n1 c1, Value.slice b2 n2 c2]) (t := 23) (fun i hi => by match i, hi with | 0, _ => rfl | 1, _ => rfl | 2, _ => rfl) hsrc
      refine Calls.mono (join_any PN (by decide) (by
        intro k hk
        match k, hk with | 0, _ => simp [flat]; try omega | 1, _ => simp [flat]; try omega | 2, _ => simp [flat]; try omega | 3, _ => simp [flat]; try omega)) ?_
      rintro e wj ⟨vj, rfl, mj⟩
      refine hK.out _ _ (⟨hx.1.keep0 (mj.2.1), hx.2.trans ((mj.2.1).mono hx.2.size)⟩) (fun hy => ?_)
      clear hK K hsrc PN
      have F : Hid (Made W wj vj ([0] ++ ((numB ll.length ++ ll) ++ (numB hl.length ++ hl)))) := by
        have e2 : ([0] : List Int) ++ ((numB ll.length ++ ll) ++ (numB hl.length ++ hl)) = flat (fun i => match i with | 0 => [0] | 1 => (numB ll.length ++ ll) | _ => (numB hl.length ++ hl)) 3 := by simp [flat]
        rw [e2]
        exact Made.upY mj hx.2
      refine wpAnyH_ready (rs := [9]) (by kernel_rfl) (by simp) ?_
      refine AllReadyH.cons rfl (fun K hK => ?_) AllReadyH.nil
      go_simp
      refine hK.out _ _ hy (fun _ => ?_)
      clear hK K hx hy mj
      refine wpAnyH_done (by kernel_rfl) ?_ _
      go_wp2_with fail
      go_ret
      exact ⟨vj, rfl, by rw [EB.out]; exact Made.upY F.out HB.out⟩
    · go_simp
      refine Calls.mono (text_any (Src.kept0 HL.out hH.2) (by omega)) ?_
      rintro e q0 ⟨r0, rfl, m0⟩
      refine hK.out _ _ (⟨hH.1.keep0 (m0.2.1), hH.2.trans ((m0.2.1).mono hH.2.size)⟩) (fun h0 => ?_)
      clear hK K
      obtain ⟨b0, c0, hv⟩ := m0.1.form
      obtain ⟨n0, hn⟩ : ∃ nn : Nat, nn = ((numB ll.length ++ ll)).length := ⟨_, rfl⟩
      rw [← hn] at hv
      subst hv
      clear hn
      refine wpAnyH_ready (rs := [0, 6]) (by kernel_rfl) (by simp) ?_
      refine AllReadyH.cons rfl (fun K hK => ?_) (AllReadyH.cons rfl (fun K hK => ?_) AllReadyH.nil)
      · go_simp
        have hB1 : Blk (q0.alloc (.cells #[.int .u8 0] 5)) X (spC (.slice la ln lc) (.slice ha hn hc) false) 89 ∧ Below W.heap.size W (q0.alloc (.cells #[.int .u8 0] 5)) := ⟨(h0.1.alloc _ : Blk _ _ _ _), (h0.2.alloc h0.2.size _ : Below _ _ _)⟩
        refine hK.out _ _ hB1 (fun h1 => ?_)
        clear hK K
        have SB1 : Src (q0.alloc (.cells #[.int .u8 0] 5)) (.slice (some ⟨q0.heap.size, 0, none⟩) 1 1) [0] := src_new q0 [0] 1
        refine wpAnyH_ready (rs := [6]) (by kernel_rfl) (by simp) ?_
        refine AllReadyH.cons rfl (fun K hK => ?_) AllReadyH.nil
        go_simp
        refine Calls.mono (text_any (Src.kept0 HH.out h1.2) (by omega)) ?_
        rintro e q2 ⟨r2, rfl, m2⟩
        refine hK.out _ _ (⟨h1.1.keep0 (m2.2.1), h1.2.trans ((m2.2.1).mono h1.2.size)⟩) (fun h2 => ?_)
        clear hK K
        obtain ⟨b2, c2, hv⟩ := m2.1.form
        obtain ⟨n2, hn⟩ : ∃ nn : Nat, nn = ((numB hl.length ++ hl)).length := ⟨_, rfl⟩
        rw [← hn] at hv
        subst hv
        clear hn
        have hsrc : ∀ i, i < 3 → Src q2 ((fun i => match i with | 0 => Value.slice (some ⟨q0.heap.size, 0, none⟩) 1 1 | 1 => Value.slice b0 n0 c0 | _ => Value.slice b2 n2 c2) i) ((fun i => match i with | 0 => [0] | 1 => (numB ll.length ++ ll) | _ => (numB hl.length ++ hl)) i) := by
          intro i hi
          match i, hi with
          | 0, _ => exact Src.kept0 (SB1) m2.2.1
          | 1, _ => exact Src.kept0 (Src.kept0 (m0.1.src) ((Below.refl _ _).alloc (Nat.le_refl _) _)) m2.2.1
          | 2, _ => exact m2.1.src
        refine wpAnyH_ready (rs := [7]) (by kernel_rfl) (by simp) ?_
        refine AllReadyH.cons rfl (fun K hK => ?_) AllReadyH.nil
        go_simp
        refine hK.out _ _ (⟨h2.1.alloc _, h2.2.alloc h2.2.size _⟩) (fun hx => ?_)
        clear hK K
        refine wpAnyH_ready (rs := [8]) (by kernel_rfl) (by simp) ?_
        refine AllReadyH.cons rfl (fun K hK => ?_) AllReadyH.nil
        go_simp
        have PN := pieces_newY (cs := #[Value.slice (some ⟨q0.heap.size, 0, none⟩) 1 1, Value.slice b0 n0 c0, Value.slice b2 n2 c2]) (t := 23) (fun i hi => by match i, hi with | 0, _ => rfl | 1, _ => rfl | 2, _ => rfl) hsrc
        refine Calls.mono (join_any PN (by decide) (by
          intro k hk
          match k, hk with | 0, _ => simp [flat]; try omega | 1, _ => simp [flat]; try omega | 2, _ => simp [flat]; try omega | 3, _ => simp [flat]; try omega)) ?_
        rintro e wj ⟨vj, rfl, mj⟩
        refine hK.out _ _ (⟨hx.1.keep0 (mj.2.1), hx.2.trans ((mj.2.1).mono hx.2.size)⟩) (fun hy => ?_)
        clear hK K hsrc PN
        have F : Hid (Made W wj vj ([0] ++ ((numB ll.length ++ ll) ++ (numB hl.length ++ hl)))) := by
          have e2 : ([0] : List Int) ++ ((numB ll.length ++ ll) ++ (numB hl.length ++ hl)) = flat (fun i => match i with | 0 => [0] | 1 => (numB ll.length ++ ll) | _ => (numB hl.length ++ hl)) 3 := by simp [flat]
          rw [e2]
          exact Made.upY mj hx.2
        refine wpAnyH_ready (rs := [9]) (by kernel_rfl) (by simp) ?_
        refine AllReadyH.cons rfl (fun K hK => ?_) AllReadyH.nil
        go_simp
        refine hK.out _ _ hy (fun _ => ?_)
        clear hK K hx hy mj
        refine wpAnyH_done (by kernel_rfl) ?_ _
        go_wp2_with fail
        go_ret
        exact ⟨vj, rfl, by rw [EB.out]; exact Made.upY F.out HB.out⟩
      · go_simp
        refine Calls.mono (text_any (Src.kept0 HH.out h0.2) (by omega)) ?_
        rintro e q1 ⟨r1, rfl, m1⟩
        refine hK.out _ _ (⟨h0.1.keep0 (m1.2.1), h0.2.trans ((m1.2.1).mono h0.2.size)⟩) (fun h1 => ?_)
        clear hK K
        obtain ⟨b1, c1, hv⟩ := m1.1.form
        obtain ⟨n1, hn⟩ : ∃ nn : Nat, nn = ((numB hl.length ++ hl)).length := ⟨_, rfl⟩
        rw [← hn] at hv
        subst hv
        clear hn
        refine wpAnyH_ready (rs := [0]) (by kernel_rfl) (by simp) ?_
        refine AllReadyH.cons rfl (fun K hK => ?_) AllReadyH.nil
        go_simp
        have hB2 : Blk (q1.alloc (.cells #[.int .u8 0] 5)) X (spC (.slice la ln lc) (.slice ha hn hc) false) 89 ∧ Below W.heap.size W (q1.alloc (.cells #[.int .u8 0] 5)) := ⟨(h1.1.alloc _ : Blk _ _ _ _), (h1.2.alloc h1.2.size _ : Below _ _ _)⟩
        refine hK.out _ _ hB2 (fun h2 => ?_)
        clear hK K
        have SB2 : Src (q1.alloc (.cells #[.int .u8 0] 5)) (.slice (some ⟨q1.heap.size, 0, none⟩) 1 1) [0] := src_new q1 [0] 1
        have hsrc : ∀ i, i < 3 → Src (q1.alloc (.cells #[.int .u8 0] 5)) ((fun i => match i with | 0 => Value.slice (some ⟨q1.heap.size, 0, none⟩) 1 1 | 1 => Value.slice b0 n0 c0 | _ => Value.slice b1 n1 c1) i) ((fun i => match i with | 0 => [0] | 1 => (numB ll.length ++ ll) | _ => (numB hl.length ++ hl)) i) := by
          intro i hi
          match i, hi with
          | 0, _ => exact SB2
          | 1, _ => exact Src.kept0 (Src.kept0 (m0.1.src) m1.2.1) ((Below.refl _ _).alloc (Nat.le_refl _) _)
          | 2, _ => exact Src.kept0 (m1.1.src) ((Below.refl _ _).alloc (Nat.le_refl _) _)
        refine wpAnyH_ready (rs := [7]) (by kernel_rfl) (by simp) ?_
        refine AllReadyH.cons rfl (fun K hK => ?_) AllReadyH.nil
        go_simp
        refine hK.out _ _ (⟨h2.1.alloc _, h2.2.alloc h2.2.size _⟩) (fun hx => ?_)
        clear hK K
        refine wpAnyH_ready (rs := [8]) (by kernel_rfl) (by simp) ?_
        refine AllReadyH.cons rfl (fun K hK => ?_) AllReadyH.nil
        go_simp
        have PN := pieces_newY (cs := #[Value.slice (some ⟨q1.heap.size, 0, none⟩) 1 1, Value.slice b0 n0 c0, Value.slice b1 n1 c1]) (t := 23) (fun i hi => by match i, hi with | 0, _ => rfl | 1, _ => rfl | 2, _ => rfl) hsrc
        rw [World.size_alloc] at PN
        refine Calls.mono (join_any PN (by decide) (by
          intro k hk
          match k, hk with | 0, _ => simp [flat]; try omega | 1, _ => simp [flat]; try omega | 2, _ => simp [flat]; try omega | 3, _ => simp [flat]; try omega)) ?_
        rintro e wj ⟨vj, rfl, mj⟩
        refine hK.out _ _ (⟨hx.1.keep0 (mj.2.1), hx.2.trans ((mj.2.1).mono hx.2.size)⟩) (fun hy => ?_)
        clear hK K hsrc PN
        have F : Hid (Made W wj vj ([0] ++ ((numB ll.length ++ ll) ++ (numB hl.length ++ hl)))) := by
          have e2 : ([0] : List Int) ++ ((numB ll.length ++ ll) ++ (numB hl.length ++ hl)) = flat (fun i => match i with | 0 => [0] | 1 => (numB ll.length ++ ll) | _ => (numB hl.length ++ hl)) 3 := by simp [flat]
          rw [e2]
          exact Made.upY mj hx.2
        refine wpAnyH_ready (rs := [9]) (by kernel_rfl) (by simp) ?_
        refine AllReadyH.cons rfl (fun K hK => ?_) AllReadyH.nil
        go_simp
        refine hK.out _ _ hy (fun _ => ?_)
        clear hK K hx hy mj
        refine wpAnyH_done (by kernel_rfl) ?_ _
        go_wp2_with fail
        go_ret
        exact ⟨vj, rfl, by rw [EB.out]; exact Made.upY F.out HB.out⟩
end Go.Proofs.Ytjmeaebehndheaa
