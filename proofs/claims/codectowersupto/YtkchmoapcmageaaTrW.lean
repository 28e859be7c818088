/-
  The reference writes towers.
-/
import Derived.Test.YtkchmoapcmageaaTrC
import Derived.Test.YtkchmoapcmageaaJoin
import Derived.Test.YtkchmoapcmageaaRef
namespace Go.Proofs.Ytkchmoapcmageaa
open Go.RowKit

set_option maxHeartbeats 2000000 in
theorem xaddr_any {w : World} (z : List Int) (b : Int) (hz : z.length = 32) :
    Calls Try.prog 99 #[.agg (bs (z ++ [b])).toArray] w fun e w' => ∃ v, e = .returned v ∧ Made w w' v (z ++ [b]) := by
  have hr : (w.alloc (.cells (bs (z ++ [b])).toArray 33)).rangeAt w.heap.size 0 (bs z) := fun j u hu => by
    rw [Nat.zero_add, cell_of_row _ _ _ (bs (z ++ [b])).toArray 33 _ (heap_alloc_new _ _)]
    have hj := (List.getElem?_eq_some_iff.1 hu).1
    simp [bs_app, List.getElem?_append_left hj, hu]
  have hcb : (w.alloc (.cells (bs (z ++ [b])).toArray 33)).cell? ⟨w.heap.size, 32, none⟩ = some (.int .u8 b) := by
    rw [cell_of_row _ _ _ (bs (z ++ [b])).toArray 33 _ (heap_alloc_new _ _)]
    simp [bs, hz]
  have HR : Hid _ := hr
  have HB : Hid _ := hcb
  have keep : ∀ w1 w2 : World, Below w1.heap.size w1 w2 → (w1.rangeAt w.heap.size 0 (bs z) ∧ w1.cell? ⟨w.heap.size, 32, none⟩ = some (.int .u8 b)) → (w2.rangeAt w.heap.size 0 (bs z) ∧ w2.cell? ⟨w.heap.size, 32, none⟩ = some (.int .u8 b)) := fun w1 w2 bl h => ⟨rangeKept h.1 bl, by rw [bl.cell (World.block_lt_of_cell? _ _ h.2)]; exact h.2⟩
  have KEEP : Hid _ := keep
  clear hr hcb keep
  go_enter Try.func99, Try.ntmps99
  go_upto_region 1 with fail
  refine wp_region_held_drew (S := fun w' => w'.rangeAt w.heap.size 0 (bs z) ∧ w'.cell? ⟨w.heap.size, 32, none⟩ = some (.int .u8 b)) (by kernel_rfl) ⟨HR.out, HB.out⟩ (fun hH => ?_)
  refine wpAnyH_take (i := 0) (v := .pointer (some ⟨w.heap.size, 0, none⟩)) rfl (by kernel_rfl) (by kernel_rfl) (by kernel_rfl) (fun _ _ _ h => h) (Or.inl ⟨by rfl, fun w' _ => by go_simp⟩) hH ?_
  refine wpAnyH_take (i := 3) (v := .pointer (some ⟨w.heap.size, 32, none⟩)) rfl (by kernel_rfl) (by kernel_rfl) (by kernel_rfl) (fun _ _ _ h => h) (Or.inl ⟨by rfl, fun w' _ => by go_simp⟩) hH ?_
  refine wpAnyH_take (i := 1) (v := .agg (bs z).toArray) rfl (by kernel_rfl) (by kernel_rfl) (by kernel_rfl) (fun _ _ _ h => h) (yieldsIf_load_mid (by rfl) _ _ rfl w.heap.size 0 rfl _ _ (fun w h => h.1) Try.underlying31 rfl (by rw [Try.sz31, bs_len, hz])) hH ?_
  refine wpAnyH_take (i := 4) (v := .int .u8 b) rfl (by kernel_rfl) (by kernel_rfl) (by kernel_rfl) (fun _ _ _ h => h) (Or.inl ⟨by rfl, fun w' hw' => by have h2 := hw'.2; go_simp⟩) hH ?_
  refine wpAnyH_ready (rs := [2, 5]) (by kernel_rfl) (by simp) ?_
  refine AllReadyH.cons rfl (fun K hK => ?_) (AllReadyH.cons rfl (fun K hK => ?_) AllReadyH.nil)
  · go_simp
    refine (xsum_any z hz).mono ?_
    rintro e w2 ⟨v2, rfl, M2⟩
    refine hK.out _ _ (KEEP.out _ _ M2.2.1 hH) (fun h2 => ?_)
    clear hK K
    refine wpAnyH_ready (rs := [5]) (by kernel_rfl) (by simp) ?_
    refine AllReadyH.cons rfl (fun K hK => ?_) AllReadyH.nil
    go_simp
    refine hK.out _ _ (KEEP.out _ _ ((Below.refl _ _).alloc (Nat.le_refl _) _) h2) (fun h3 => ?_)
    clear hK K
    refine wpAnyH_ready (rs := [6]) (by kernel_rfl) (by simp) ?_
    refine AllReadyH.cons rfl (fun K hK => ?_) AllReadyH.nil
    refine step_app rfl (.tmp 5) (.tmp 8) rfl (v := v2) rfl rfl (Made.alloc M2 _).1 (src_new _ [b] 1) (by simp; omega) ?_
    intro v' w4 hv hch hat
    have R := Made.app (Made.alloc M2 _) hv hch hat
    have hbel : Below w.heap.size w w4 := ((Below.refl _ _).alloc (Nat.le_refl _) _).drew.trans (R.2.1.mono (by simp))
    refine hK.out _ _ ⟨fun j u hu => ?_, ?_⟩ (fun h4 => ?_)
    · exact (R.2.1.cell (World.block_lt_of_cell? _ _ (hH.1 j u hu))).trans (hH.1 j u hu)
    · exact (R.2.1.cell (World.block_lt_of_cell? _ _ hH.2)).trans hH.2
    clear hK K
    have FIN : Hid (Made w w4 v' (z ++ [b])) := ⟨R.1, hbel, fun k hk => by have := R.2.2 k hk; simp at this; omega⟩
    clear R hbel hv hch hat M2
    refine wpAnyH_ready (rs := [7]) (by kernel_rfl) (by simp) ?_
    refine AllReadyH.cons rfl (fun K hK => ?_) AllReadyH.nil
    go_simp
    refine hK.out _ _ h4 (fun _ => ?_)
    clear hK K
    refine wpAnyH_done (by kernel_rfl) ?_ _
    go_wp2_with fail
    go_ret
    exact ⟨_, rfl, FIN.out⟩
  · go_simp
    refine hK.out _ _ (KEEP.out _ _ ((Below.refl _ _).alloc (Nat.le_refl _) _) hH) (fun h2 => ?_)
    clear hK K
    refine wpAnyH_ready (rs := [2]) (by kernel_rfl) (by simp) ?_
    refine AllReadyH.cons rfl (fun K hK => ?_) AllReadyH.nil
    go_simp
    refine (xsum_any z hz).mono ?_
    rintro e w2 ⟨v2, rfl, M2⟩
    refine hK.out _ _ (KEEP.out _ _ M2.2.1 h2) (fun h3 => ?_)
    clear hK K
    refine wpAnyH_ready (rs := [6]) (by kernel_rfl) (by simp) ?_
    refine AllReadyH.cons rfl (fun K hK => ?_) AllReadyH.nil
    have S0 : Src ((w.alloc (.cells (bs (z ++ [b])).toArray 33)).alloc (.cells #[.int .u8 b] 5)).drew (.slice (some ⟨w.heap.size + 1, 0, none⟩) 1 1) [b] := by
      have := src_new (w.alloc (.cells (bs (z ++ [b])).toArray 33)) [b] 1
      rw [World.size_alloc] at this
      exact this
    refine step_app rfl (.tmp 5) (.tmp 8) rfl (v := v2) rfl rfl M2.1 (Src.kept0 S0 M2.2.1) (by rw [hz]; simp) ?_
    intro v' w4 hv hch hat
    have R := Made.app M2 hv hch hat
    have hbel : Below w.heap.size w w4 := (((Below.refl _ _).alloc (Nat.le_refl _) _).alloc (by simp) _).drew.trans (R.2.1.mono (by show _ ≤ ((w.alloc _).alloc _).heap.size; simp; omega))
    refine hK.out _ _ (KEEP.out _ _ R.2.1 h2) (fun h4 => ?_)
    clear hK K
    have FIN : Hid (Made w w4 v' (z ++ [b])) := ⟨R.1, hbel, fun k hk => by have : ((w.alloc (.cells (bs (z ++ [b])).toArray 33)).alloc (.cells #[.int .u8 b] 5)).heap.size ≤ k := R.2.2 k hk; simp at this; omega⟩
    clear R hbel hv hch hat M2
    refine wpAnyH_ready (rs := [7]) (by kernel_rfl) (by simp) ?_
    refine AllReadyH.cons rfl (fun K hK => ?_) AllReadyH.nil
    go_simp
    refine hK.out _ _ h4 (fun _ => ?_)
    clear hK K
    refine wpAnyH_done (by kernel_rfl) ?_ _
    go_wp2_with fail
    go_ret
    exact ⟨_, rfl, FIN.out⟩
theorem Made.upY {w W w' : World} {v : Value} {l : List Int} (h : Made W w' v l) (b : Below w.heap.size w W) : Made w w' v l :=
  ⟨h.1, b.trans (h.2.1.mono b.size), fun k hk => Nat.le_trans b.size (h.2.2 k hk)⟩
theorem pieces_newY {w : World} {n : Nat} {ls : Nat → List Int} {vs : Nat → Value} {cs : Array Value} {t : TypeId} (hc : ∀ i, i < n → cs[i]? = some (vs i)) (hs : ∀ i, i < n → Src w (vs i) (ls i)) : Pieces (w.alloc (.cells cs t)) w.heap.size n vs ls :=
  ⟨fun i hi => by rw [cell_of_row _ _ i cs t _ (heap_alloc_new _ _)]; exact hc i hi, fun i hi => (hs i hi).kept0 ((Below.refl _ _).alloc (Nat.le_refl _) _)⟩
def u64Y (x : Int) : Nat := (x % 18446744073709551616).toNat
theorem u64Y_lt (x : Int) : u64Y x < 18446744073709551616 := by unfold u64Y; omega
theorem u64Y_wrap (x : Int) : IntKind.wrap .u64 x = (u64Y x : Int) := by rw [IntKind.wrap_u64]; unfold u64Y; omega
theorem highY (x : Int) : high 1 (u64Y x) = [x % 256] := by
  have h : (((u64Y x % 256 : Nat)) : Int) = x % 256 := by unfold u64Y; omega
  simp only [high, List.nil_append, h]
theorem high1_any (w : World) (x : Int) :
    Calls Try.prog 49 #[.int .u64 (u64Y x : Nat), .int .i64 1] w fun e w' => ∃ v, e = .returned v ∧ Made w w' v [x % 256] := by
  have h := high_any w 1 (by decide) (u64Y x) (u64Y_lt x)
  rw [highY] at h
  exact h

theorem step_appY {ops : Array Oper} {o : Oper} {a : Act} {w w' : World} {K : Act → World → Prop} {Q : Exit → Act → World → Prop} {E : Prop} (hgd : o.guard = none) (s x : Operand)
    (ho : o.op = .call { callee := .builtin .append, args := #[s, x], argTypes := #[23, 23] }) {v u v' : Value} (hs : a.eval s = v) (hx : a.eval x = u) (hr : (Builtin.append_ #[23, 23] o.type #[v, u]).run Try.prog w = .ok v' w') (h : K (a.put o.dst v') w') :
    if Region.wanted o (yielded ops a.tmps) = true then Oper.wp Try.prog o a w K Q else E := by
  have hw : Region.wanted o (yielded ops a.tmps) = true := by simp [Region.wanted, hgd]
  rw [if_pos hw]
  unfold Oper.wp execOp
  simp only [ho, resolve, invoke, builtin, Sem.run_bind, Sem.run_pure, Result.andThen_ok, List.map_toArray, List.map_cons, List.map_nil, hs, hx, hr]
  exact h

theorem xaddrP_any {w : World} (z : List Int) (hz : z.length = 33) :
    Calls Try.prog 99 #[.agg (bs z).toArray] w fun e w' => ∃ v, e = .returned v ∧ Made w w' v z := by
  obtain ⟨x, b, rfl⟩ : ∃ x b, z = x ++ [b] := ⟨z.dropLast, z.getLast (by intro e; rw [e] at hz; cases hz), (List.dropLast_concat_getLast _).symm⟩
  exact xaddr_any x b (by simpa using hz)
theorem kidsB_recs (ks : Nat → Kd) : ∀ n, kidsB ks n = recsB (fun i => (ks i).bytes) n
  | 0 => rfl
  | n + 1 => by rw [kidsB, recsB, kidsB_recs ks n]

set_option maxRecDepth 100000 in
set_option maxHeartbeats 16000000 in
theorem xTower_any {w : World} {P : Tw} (hP : TwIn w (fun g => g < w.heap.size) P) (hl0 : P.kl.length ≤ 1048576) (hl : ∀ i, i < P.sn → (P.ks i).kl.length ≤ 1048576) :
    Calls Try.prog 40 #[.agg P.cells.toArray] w fun e w' => ∃ u, e = .returned u ∧ Made w w' u P.bytes := by
  obtain ⟨X, hX⟩ : ∃ X, X = w.heap.size := ⟨_, rfl⟩
  obtain ⟨W, hW⟩ : ∃ W, W = w.alloc (.cells P.cells.toArray 69) := ⟨_, rfl⟩
  have hb : Below w.heap.size w W := by rw [hW]; exact (Below.refl _ _).alloc (Nat.le_refl _) _
  have B0 : Hid (Blk W X P.cells 69) := by rw [hW, hX]; exact Blk.made _ _ _
  have HP : Hid (TwIn W (fun g => g < W.heap.size) P) := (hP.kept (Chg.of_below hb (fun _ => False)) (fun _ _ e => e)).mono (fun g e => Nat.lt_of_lt_of_le e hb.size)
  have HB : Hid _ := hb
  have HLK : Hid _ := hl
  have VL := hP.vl
  have SN := hP.sn
  have t1 := numB_ten (n := P.kl.length) (by omega)
  have t2 := numB_ten (n := P.sn) (by omega)
  have hwn : IntKind.wrap .u64 (P.sn : Int) = (P.sn : Int) := by rw [IntKind.wrap_u64]; omega
  have XL : Hid (X < W.heap.size) := B0.out.lt
  clear hP hb hl
  go_enter Try.func40, Try.ntmps40
  go_upto_region 1 with fail
  rw [← hW, ← hX]
  have HX : Hid _ := hX
  clear hW hX
  obtain ⟨W1, hW1⟩ : ∃ W1, W1 = W.alloc (.cells #[.int .u8 1] 5) := ⟨_, rfl⟩
  have LW : Hid (Below W.heap.size W W1) := by rw [hW1]; exact (Below.refl _ _).alloc (Nat.le_refl _) _
  have BW : Hid (Blk W1 X P.cells 69) := B0.out.keep0 LW.out
  have M1 : Hid (Made W W1 (.slice (some ⟨W.heap.size, 0, none⟩) 1 1) [1]) := by
    have b := LW.out
    rw [hW1] at b ⊢
    exact ⟨World.ownsRow_lit W #[.int .u8 1] 1 (Nat.zero_le _) (by unfold maxLen; omega) rfl, b, fun k hk => by simp [Value.ownBlock] at hk; omega⟩
  obtain ⟨hd, hhd⟩ : ∃ hd, hd = P.hd := ⟨_, rfl⟩
  have k0 : W1.cell? ⟨X, 0, none⟩ = some (.bool hd) := by rw [hhd]; exact BW.out.cell 0
  have HHD : Hid _ := hhd
  clear hhd
  go_upto_region 2 with fail
  rw [← hW1]
  clear hW1
  go_upto_if 9 with fail
  go_cut [3] from 6 (fun v wx => Hid (Made W wx v ([if P.hd then 1 else 0] ++ P.own)))
  case first =>
    cases hd with
    | true =>
      have F : Hid (Made W W1 (.slice (some ⟨W.heap.size, 0, none⟩) 1 1) ([if P.hd then 1 else 0] ++ P.own)) := by
        have e : [if P.hd then (1 : Int) else 0] ++ P.own = [1] := by simp [Tw.own, ← HHD.out]
        rw [e]
        exact M1.out
      go_wp2_with fail
      go_meet
      case rel => exact F.out
    | false =>
      have EB : Hid ([if P.hd then (1 : Int) else 0] ++ P.own = [0] ++ ((numB P.kl.length ++ P.kl) ++ P.vl)) := by show _ = _; simp [Tw.own, ← HHD.out]
      go_upto_region 3 with fail
      refine wp_region_held_drew (S := fun w' => Blk w' X P.cells 69 ∧ Below W.heap.size W w') (by kernel_rfl) (⟨BW.out.drew, LW.out.drew⟩) (fun hH => ?_)
      refine wpAnyH_take (i := 1) (v := .pointer (some ⟨X, 1, none⟩)) rfl (by kernel_rfl) (by kernel_rfl) (by kernel_rfl) (fun _ _ _ h => h) (Or.inl ⟨by rfl, fun w' _ => by go_simp⟩) hH ?_
      refine wpAnyH_take (i := 2) (v := .slice P.ka P.kn P.kc) rfl (by kernel_rfl) (by kernel_rfl) (by kernel_rfl) (fun _ _ _ h => h) (Or.inl ⟨by rfl, fun w' hw' => by have h2 : w'.cell? ⟨X, 1, none⟩ = some (.slice P.ka P.kn P.kc) := Blk.cell hw'.1 1; go_simp⟩) hH ?_
      refine wpAnyH_take (i := 4) (v := .pointer (some ⟨X, 2, none⟩)) rfl (by kernel_rfl) (by kernel_rfl) (by kernel_rfl) (fun _ _ _ h => h) (Or.inl ⟨by rfl, fun w' _ => by go_simp⟩) hH ?_
      refine wpAnyH_take (i := 5) (v := .agg (bs P.vl).toArray) rfl (by kernel_rfl) (by kernel_rfl) (by kernel_rfl) (fun _ _ _ h => h) (yieldsIf_load_mid (by rfl) 33 _ rfl X 2 (by kernel_rfl) (bs P.vl) _ (fun w' h => Blk.range h.1 P.vl_at) Try.underlying33 rfl (Try.addrSz P.vl VL)) hH ?_
      refine wpAnyH_ready (rs := [0, 3]) (by kernel_rfl) (by simp) ?_
      refine AllReadyH.cons rfl (fun K hK => ?_) (AllReadyH.cons rfl (fun K hK => ?_) AllReadyH.nil)
      · go_simp
        have hB0 : Blk (W1.alloc (.cells #[.int .u8 0] 5)).drew X P.cells 69 ∧ Below W.heap.size W (W1.alloc (.cells #[.int .u8 0] 5)).drew := ⟨(hH.1.alloc _ : Blk _ _ _ _), (hH.2.alloc hH.2.size _ : Below _ _ _)⟩
        refine hK.out _ _ hB0 (fun h0 => ?_)
        clear hK K
        have SB0 : Src (W1.alloc (.cells #[.int .u8 0] 5)).drew (.slice (some ⟨W1.heap.size, 0, none⟩) 1 1) [0] := Src.kept (src_new W1 [0] 1) ((Chg.refl (fun _ => False) _).drew) (fun _ _ e => e)
        refine wpAnyH_ready (rs := [3]) (by kernel_rfl) (by simp) ?_
        refine AllReadyH.cons rfl (fun K hK => ?_) AllReadyH.nil
        go_simp
        refine Calls.mono (text_any (HP.out.src.kept0 h0.2) (by omega)) ?_
        rintro e q1 ⟨r1, rfl, m1⟩
        refine hK.out _ _ (⟨h0.1.keep0 (m1.2.1), h0.2.trans ((m1.2.1).mono h0.2.size)⟩) (fun h1 => ?_)
        clear hK K
        obtain ⟨tb, tc, hv⟩ := m1.1.form
        obtain ⟨tn, hn⟩ : ∃ nn : Nat, nn = ((numB P.kl.length ++ P.kl)).length := ⟨_, rfl⟩
        rw [← hn] at hv
        subst hv
        have htL : tn ≤ 4200000 := by rw [hn]; first | omega | (simp; omega)
        clear hn
        refine wpAnyH_ready (rs := [6]) (by kernel_rfl) (by simp) ?_
        refine AllReadyH.cons rfl (fun K hK => ?_) AllReadyH.nil
        go_simp
        refine Calls.mono (xaddrP_any P.vl VL) ?_
        rintro e q2 ⟨r2, rfl, m2⟩
        refine hK.out _ _ (⟨h1.1.keep0 (m2.2.1), h1.2.trans ((m2.2.1).mono h1.2.size)⟩) (fun h2 => ?_)
        clear hK K
        obtain ⟨db, dc, hv⟩ := m2.1.form
        obtain ⟨dn, hn⟩ : ∃ nn : Nat, nn = (P.vl).length := ⟨_, rfl⟩
        rw [← hn] at hv
        subst hv
        have hdL : dn ≤ 4200000 := by rw [hn]; first | omega | (simp; omega)
        clear hn
        have hsrc : ∀ i, i < 3 → Src q2 ((fun i => match i with | 0 => Value.slice (some ⟨W1.heap.size, 0, none⟩) 1 1 | 1 => Value.slice tb tn tc | _ => Value.slice db dn dc) i) ((fun i => match i with | 0 => [0] | 1 => (numB P.kl.length ++ P.kl) | _ => P.vl) i) := by
          intro i hi
          match i, hi with
          | 0, _ => exact ((SB0).kept0 m1.2.1).kept0 m2.2.1
          | 1, _ => exact (m1.1.src).kept0 m2.2.1
          | 2, _ => exact m2.1.src
        refine wpAnyH_ready (rs := [7]) (by kernel_rfl) (by simp) ?_
        refine AllReadyH.cons rfl (fun K hK => ?_) AllReadyH.nil
        go_simp
        refine hK.out _ _ (⟨h2.1.alloc _, h2.2.alloc h2.2.size _⟩) (fun hx => ?_)
        clear hK K
        refine wpAnyH_ready (rs := [8]) (by kernel_rfl) (by simp) ?_
        refine AllReadyH.cons rfl (fun K hK => ?_) AllReadyH.nil
        go_simp
        have PN := pieces_newY (cs := #[Value.slice (some ⟨W1.heap.size, 0, none⟩) 1 1, Value.slice tb tn tc, Value.slice db dn dc]) (t := 23) (fun i hi => by match i, hi with | 0, _ => rfl | 1, _ => rfl | 2, _ => rfl) hsrc
        refine Calls.mono (join_any PN (by decide) (by
          intro k hk
          match k, hk with | 0, _ => simp [flat] | 1, _ => simp [flat] | 2, _ => simp [flat]; omega | 3, _ => simp [flat]; omega)) ?_
        rintro e wj ⟨vj, rfl, mj⟩
        refine hK.out _ _ (⟨hx.1.keep0 (mj.2.1), hx.2.trans ((mj.2.1).mono hx.2.size)⟩) (fun hy => ?_)
        clear hK K hsrc PN
        have F : Hid (Made W wj vj ([if P.hd then 1 else 0] ++ P.own)) := by
          rw [EB.out]
          have e2 : ([0] : List Int) ++ ((numB P.kl.length ++ P.kl) ++ P.vl) = flat (fun i => match i with | 0 => [0] | 1 => (numB P.kl.length ++ P.kl) | _ => P.vl) 3 := by simp [flat]
          rw [e2]
          exact Made.upY mj hx.2
        refine wpAnyH_ready (rs := [9]) (by kernel_rfl) (by simp) ?_
        refine AllReadyH.cons rfl (fun K hK => ?_) AllReadyH.nil
        go_simp
        refine hK.out _ _ hy (fun _ => ?_)
        clear hK K hx hy mj
        refine wpAnyH_done (by kernel_rfl) ?_ _
        go_wp2_with fail
        go_meet
        case rel => exact F.out
      · go_simp
        refine Calls.mono (text_any (HP.out.src.kept0 hH.2) (by omega)) ?_
        rintro e q0 ⟨r0, rfl, m0⟩
        refine hK.out _ _ (⟨hH.1.keep0 (m0.2.1), hH.2.trans ((m0.2.1).mono hH.2.size)⟩) (fun h0 => ?_)
        clear hK K
        obtain ⟨tb, tc, hv⟩ := m0.1.form
        obtain ⟨tn, hn⟩ : ∃ nn : Nat, nn = ((numB P.kl.length ++ P.kl)).length := ⟨_, rfl⟩
        rw [← hn] at hv
        subst hv
        have htL : tn ≤ 4200000 := by rw [hn]; first | omega | (simp; omega)
        clear hn
        refine wpAnyH_ready (rs := [0, 6]) (by kernel_rfl) (by simp) ?_
        refine AllReadyH.cons rfl (fun K hK => ?_) (AllReadyH.cons rfl (fun K hK => ?_) AllReadyH.nil)
        · go_simp
          have hB1 : Blk (q0.alloc (.cells #[.int .u8 0] 5)) X P.cells 69 ∧ Below W.heap.size W (q0.alloc (.cells #[.int .u8 0] 5)) := ⟨(h0.1.alloc _ : Blk _ _ _ _), (h0.2.alloc h0.2.size _ : Below _ _ _)⟩
          refine hK.out _ _ hB1 (fun h1 => ?_)
          clear hK K
          have SB1 : Src (q0.alloc (.cells #[.int .u8 0] 5)) (.slice (some ⟨q0.heap.size, 0, none⟩) 1 1) [0] := src_new q0 [0] 1
          refine wpAnyH_ready (rs := [6]) (by kernel_rfl) (by simp) ?_
          refine AllReadyH.cons rfl (fun K hK => ?_) AllReadyH.nil
          go_simp
          refine Calls.mono (xaddrP_any P.vl VL) ?_
          rintro e q2 ⟨r2, rfl, m2⟩
          refine hK.out _ _ (⟨h1.1.keep0 (m2.2.1), h1.2.trans ((m2.2.1).mono h1.2.size)⟩) (fun h2 => ?_)
          clear hK K
          obtain ⟨db, dc, hv⟩ := m2.1.form
          obtain ⟨dn, hn⟩ : ∃ nn : Nat, nn = (P.vl).length := ⟨_, rfl⟩
          rw [← hn] at hv
          subst hv
          have hdL : dn ≤ 4200000 := by rw [hn]; first | omega | (simp; omega)
          clear hn
          have hsrc : ∀ i, i < 3 → Src q2 ((fun i => match i with | 0 => Value.slice (some ⟨q0.heap.size, 0, none⟩) 1 1 | 1 => Value.slice tb tn tc | _ => Value.slice db dn dc) i) ((fun i => match i with | 0 => [0] | 1 => (numB P.kl.length ++ P.kl) | _ => P.vl) i) := by
            intro i hi
            match i, hi with
            | 0, _ => exact (SB1).kept0 m2.2.1
            | 1, _ => exact ((m0.1.src).kept0 ((Below.refl _ _).alloc (Nat.le_refl _) _)).kept0 m2.2.1
            | 2, _ => exact m2.1.src
          refine wpAnyH_ready (rs := [7]) (by kernel_rfl) (by simp) ?_
          refine AllReadyH.cons rfl (fun K hK => ?_) AllReadyH.nil
          go_simp
          refine hK.out _ _ (⟨h2.1.alloc _, h2.2.alloc h2.2.size _⟩) (fun hx => ?_)
          clear hK K
          refine wpAnyH_ready (rs := [8]) (by kernel_rfl) (by simp) ?_
          refine AllReadyH.cons rfl (fun K hK => ?_) AllReadyH.nil
          go_simp
          have PN := pieces_newY (cs := #[Value.slice (some ⟨q0.heap.size, 0, none⟩) 1 1, Value.slice tb tn tc, Value.slice db dn dc]) (t := 23) (fun i hi => by match i, hi with | 0, _ => rfl | 1, _ => rfl | 2, _ => rfl) hsrc
          refine Calls.mono (join_any PN (by decide) (by
            intro k hk
            match k, hk with | 0, _ => simp [flat] | 1, _ => simp [flat] | 2, _ => simp [flat]; omega | 3, _ => simp [flat]; omega)) ?_
          rintro e wj ⟨vj, rfl, mj⟩
          refine hK.out _ _ (⟨hx.1.keep0 (mj.2.1), hx.2.trans ((mj.2.1).mono hx.2.size)⟩) (fun hy => ?_)
          clear hK K hsrc PN
          have F : Hid (Made W wj vj ([if P.hd then 1 else 0] ++ P.own)) := by
            rw [EB.out]
            have e2 : ([0] : List Int) ++ ((numB P.kl.length ++ P.kl) ++ P.vl) = flat (fun i => match i with | 0 => [0] | 1 => (numB P.kl.length ++ P.kl) | _ => P.vl) 3 := by simp [flat]
            rw [e2]
            exact Made.upY mj hx.2
          refine wpAnyH_ready (rs := [9]) (by kernel_rfl) (by simp) ?_
          refine AllReadyH.cons rfl (fun K hK => ?_) AllReadyH.nil
          go_simp
          refine hK.out _ _ hy (fun _ => ?_)
          clear hK K hx hy mj
          refine wpAnyH_done (by kernel_rfl) ?_ _
          go_wp2_with fail
          go_meet
          case rel => exact F.out
        · go_simp
          refine Calls.mono (xaddrP_any P.vl VL) ?_
          rintro e q1 ⟨r1, rfl, m1⟩
          refine hK.out _ _ (⟨h0.1.keep0 (m1.2.1), h0.2.trans ((m1.2.1).mono h0.2.size)⟩) (fun h1 => ?_)
          clear hK K
          obtain ⟨db, dc, hv⟩ := m1.1.form
          obtain ⟨dn, hn⟩ : ∃ nn : Nat, nn = (P.vl).length := ⟨_, rfl⟩
          rw [← hn] at hv
          subst hv
          have hdL : dn ≤ 4200000 := by rw [hn]; first | omega | (simp; omega)
          clear hn
          refine wpAnyH_ready (rs := [0]) (by kernel_rfl) (by simp) ?_
          refine AllReadyH.cons rfl (fun K hK => ?_) AllReadyH.nil
          go_simp
          have hB2 : Blk (q1.alloc (.cells #[.int .u8 0] 5)) X P.cells 69 ∧ Below W.heap.size W (q1.alloc (.cells #[.int .u8 0] 5)) := ⟨(h1.1.alloc _ : Blk _ _ _ _), (h1.2.alloc h1.2.size _ : Below _ _ _)⟩
          refine hK.out _ _ hB2 (fun h2 => ?_)
          clear hK K
          have SB2 : Src (q1.alloc (.cells #[.int .u8 0] 5)) (.slice (some ⟨q1.heap.size, 0, none⟩) 1 1) [0] := src_new q1 [0] 1
          have hsrc : ∀ i, i < 3 → Src (q1.alloc (.cells #[.int .u8 0] 5)) ((fun i => match i with | 0 => Value.slice (some ⟨q1.heap.size, 0, none⟩) 1 1 | 1 => Value.slice tb tn tc | _ => Value.slice db dn dc) i) ((fun i => match i with | 0 => [0] | 1 => (numB P.kl.length ++ P.kl) | _ => P.vl) i) := by
            intro i hi
            match i, hi with
            | 0, _ => exact SB2
            | 1, _ => exact ((m0.1.src).kept0 m1.2.1).kept0 ((Below.refl _ _).alloc (Nat.le_refl _) _)
            | 2, _ => exact (m1.1.src).kept0 ((Below.refl _ _).alloc (Nat.le_refl _) _)
          refine wpAnyH_ready (rs := [7]) (by kernel_rfl) (by simp) ?_
          refine AllReadyH.cons rfl (fun K hK => ?_) AllReadyH.nil
          go_simp
          refine hK.out _ _ (⟨h2.1.alloc _, h2.2.alloc h2.2.size _⟩) (fun hx => ?_)
          clear hK K
          refine wpAnyH_ready (rs := [8]) (by kernel_rfl) (by simp) ?_
          refine AllReadyH.cons rfl (fun K hK => ?_) AllReadyH.nil
          go_simp
          have PN := pieces_newY (cs := #[Value.slice (some ⟨q1.heap.size, 0, none⟩) 1 1, Value.slice tb tn tc, Value.slice db dn dc]) (t := 23) (fun i hi => by match i, hi with | 0, _ => rfl | 1, _ => rfl | 2, _ => rfl) hsrc
          rw [World.size_alloc] at PN
          refine Calls.mono (join_any PN (by decide) (by
            intro k hk
            match k, hk with | 0, _ => simp [flat] | 1, _ => simp [flat] | 2, _ => simp [flat]; omega | 3, _ => simp [flat]; omega)) ?_
          rintro e wj ⟨vj, rfl, mj⟩
          refine hK.out _ _ (⟨hx.1.keep0 (mj.2.1), hx.2.trans ((mj.2.1).mono hx.2.size)⟩) (fun hy => ?_)
          clear hK K hsrc PN
          have F : Hid (Made W wj vj ([if P.hd then 1 else 0] ++ P.own)) := by
            rw [EB.out]
            have e2 : ([0] : List Int) ++ ((numB P.kl.length ++ P.kl) ++ P.vl) = flat (fun i => match i with | 0 => [0] | 1 => (numB P.kl.length ++ P.kl) | _ => P.vl) 3 := by simp [flat]
            rw [e2]
            exact Made.upY mj hx.2
          refine wpAnyH_ready (rs := [9]) (by kernel_rfl) (by simp) ?_
          refine AllReadyH.cons rfl (fun K hK => ?_) AllReadyH.nil
          go_simp
          refine hK.out _ _ hy (fun _ => ?_)
          clear hK K hx hy mj
          refine wpAnyH_done (by kernel_rfl) ?_ _
          go_wp2_with fail
          go_meet
          case rel => exact F.out
  case rest =>
    obtain ⟨M0, hM0⟩ : ∃ M0, M0 = [if P.hd then (1 : Int) else 0] ++ P.own := ⟨_, rfl⟩
    have LM0 : M0.length ≤ 1100000 := by
      rw [hM0]
      unfold Tw.own
      split <;> simp <;> omega
    have hcut2 := hcut.out
    rw [← hM0] at hcut2
    have HM0 : Hid _ := hM0
    clear hM0 hcut k0 M1 BW LW
    obtain ⟨va, vc, hvf⟩ := hcut2.1.form
    obtain ⟨vn, hvn⟩ : ∃ vn, vn = M0.length := ⟨_, rfl⟩
    rw [← hvn] at hvf
    subst hvf
    have MJ : Hid _ := hcut2
    have k3 : wc.cell? ⟨X, 35, none⟩ = some (.slice P.sa P.sn P.sc) := by rw [(B0.out.keep0 MJ.out.2.1).cell]; exact P.ks_at VL
    clear hcut2 hvn
    go_wp2_with fail
    refine Calls.mono (num_any P.sn (by omega) _) ?_
    rintro e w5 ⟨nv, rfl, mn⟩
    obtain ⟨na, nc, hnf⟩ := mn.1.form
    obtain ⟨nn, hnn⟩ : ∃ nn, nn = (numB P.sn).length := ⟨_, rfl⟩
    rw [← hnn] at hnf
    subst hnf
    have MN : Hid _ := mn
    have OV : Hid _ := MJ.out.1.kept (Chg.of_below mn.2.1 (fun _ => False)) (fun _ _ e => e)
    have B5 : Hid (Below W.heap.size W w5) := MJ.out.2.1.trans (mn.2.1.mono MJ.out.2.1.size)
    clear mn hnn k3
    go_upto_region 5 with (refine wpList_app rfl (.tmp 19) (.tmp 24) rfl (v := .slice va vn vc) (u := .slice na nn nc) rfl rfl OV.out MN.out.1.src (by omega) ?_; intro v9 w9 o9 c9 at9; have M9 : Hid (Made W w9 v9 (M0 ++ numB P.sn)) := Made.app (w := W) ⟨OV.out, B5.out, MJ.out.2.2⟩ o9 c9 at9; clear o9 c9 at9)
    obtain ⟨M1, hM1⟩ : ∃ M1, M1 = M0 ++ numB P.sn := ⟨_, rfl⟩
    rw [← hM1] at M9
    have LM1 : M1.length ≤ 1100010 := by rw [hM1]; simp; omega
    have HM1 : Hid _ := hM1
    have k6 : w9.cell? ⟨X, 35, none⟩ = some (.slice P.sa P.sn P.sc) := by rw [(B0.out.keep0 M9.out.2.1).cell]; exact P.ks_at VL
    clear hM1 MN OV B5 MJ
    go_wp2_with fail
    clear k6
    go_loopw [3, 29] (fun v i wr => ∃ j : Nat, j ≤ P.sn ∧ i = .int .i64 j ∧ Hid (Made W wr v (M1 ++ recsB (fun i => (P.ks i).bytes) j))) (fun _ i _ => P.sn - (intOf i).toNat)
    case atStart => exact ⟨0, Nat.zero_le _, rfl, by have h9 := M9.out; rw [show M1 ++ recsB (fun i => (P.ks i).bytes) 0 = M1 by simp [recsB]]; exact h9⟩
    case round =>
      obtain ⟨j, hj, rfl, hid⟩ := hrel
      have HB1 : Hid _ := hid.out
      clear hid
      by_cases hlt : j < P.sn
      · obtain ⟨k, hk⟩ : ∃ k, k = P.ks j := ⟨_, rfl⟩
        obtain ⟨g, o, hsa, hav, hrg⟩ := HP.out.row j hlt
        have kin := HP.out.kid j hlt
        have hrg : W.rangeAt g (o + j * 68) k.cells := by rw [hk]; exact hrg
        rw [← hk] at kin
        have hix := ix_at Try.underlying67 Try.elem67 Try.so112 (c := P.sc) hsa hlt
        have RG : Hid (wr.rangeAt g (o + j * 68) k.cells) := rangeAt_kept hrg (Chg.of_below HB1.out.2.1 (fun _ => False)) (fun e => e)
        have HKK : Hid _ := hk
        have A1 := kin.ct
        have AD := kin.ad
        have LB := kin.lb
        have KL := HLK.out j hlt
        rw [← hk] at KL
        have KS : Hid _ := kin.src
        have n1' := numB_ten A1
        have n2' := numB_ten (n := k.kl.length) (by omega)
        have hwk := u64Y_wrap k.lv
        have KB : (recsB (fun i => (P.ks i).bytes) j).length ≤ j * 1048700 := recsB_len j (fun i hi => by have q := HP.out.kid i (by omega); have e1 := numB_ten q.ct; have q2 := HLK.out i (by omega); have e2 := numB_ten (n := (P.ks i).kl.length) (by omega); simp only [Kd.bytes, List.length_append, List.length_singleton, q.ad, q.lb]; omega)
        clear hrg hk hsa hav kin
        go_upto_region 8 with (first
          | refine wpList_load_mid rfl 112 (.tmp 31) rfl g (o + j * 68) rfl k.cells _ RG.out Try.underlying112 rfl (k.szF AD LB) ?_
          | (refine wpList_store_part rfl 112 (.tmp 5) (.tmp 32) rfl wr.heap.size 0 k.cells rfl rfl (t := 112) ⟨heap_alloc_new _ _⟩ (by simp [Kd.cells, bs, AD, LB]) (k.szF AD LB) (k.one) ?_; intro wB hw8 hc8; rw [splice_all _ _ (by simp [Kd.cells, bs, AD, LB])] at hw8; have c8 : Chg (fun _ => False) wr wB := ((Chg.refl (fun _ => False) wr).alloc _).trans hc8 (fun i e => .inr (by omega)); have BK : Hid _ := hw8; have CB : Hid _ := c8; clear hw8 hc8 c8))
        obtain ⟨Lj, hLj⟩ : ∃ Lj, Lj = M1 ++ recsB (fun i => (P.ks i).bytes) j := ⟨_, rfl⟩
        have LLj : Lj.length ≤ M1.length + j * 1048700 := by rw [hLj, List.length_append]; omega
        have MB : Hid (Made W wB u3 Lj) := by rw [hLj]; exact ⟨HB1.out.1.kept CB.out (fun _ _ e => e), HB1.out.2.1.trans (CB.out.below HB1.out.2.1.size (fun _ e => e.elim)), HB1.out.2.2⟩
        have GT : Hid (∀ q, u3.ownBlock = some q → q < wr.heap.size) := fun q hq => HB1.out.1.lt hq
        have HLJ : Hid _ := hLj
        clear hLj hix HB1 RG CB
        refine wp_region_held_drew (S := fun w' => Blk w' wr.heap.size k.cells 112 ∧ Below W.heap.size W w') (by kernel_rfl) (⟨BK.out.drew, MB.out.2.1.drew⟩) (fun hH => ?_)
        refine wpAnyH_take (i := 0) (v := u3) rfl (by kernel_rfl) (by kernel_rfl) (by kernel_rfl) (fun _ _ _ h => h) (Or.inl ⟨by rfl, fun w' _ => by go_simp⟩) hH ?_
        refine wpAnyH_take (i := 1) (v := .pointer (some ⟨wr.heap.size, 0, none⟩)) rfl (by kernel_rfl) (by kernel_rfl) (by kernel_rfl) (fun _ _ _ h => h) (Or.inl ⟨by rfl, fun w' _ => by go_simp⟩) hH ?_
        refine wpAnyH_take (i := 2) (v := .int .i64 k.lv) rfl (by kernel_rfl) (by kernel_rfl) (by kernel_rfl) (fun _ _ _ h => h) (Or.inl ⟨by rfl, fun w' hw' => by have h2 : w'.cell? ⟨wr.heap.size, 0, none⟩ = some (.int .i64 k.lv) := Blk.cell hw'.1 0; go_simp⟩) hH ?_
        refine wpAnyH_take (i := 3) (v := .int .u64 (u64Y k.lv : Nat)) rfl (by kernel_rfl) (by kernel_rfl) (by kernel_rfl) (fun _ _ _ h => h) (Or.inl ⟨by rfl, fun w' _ => by go_simp⟩) hH ?_
        refine wpAnyH_take (i := 5) (v := .pointer (some ⟨wr.heap.size, 1, none⟩)) rfl (by kernel_rfl) (by kernel_rfl) (by kernel_rfl) (fun _ _ _ h => h) (Or.inl ⟨by rfl, fun w' _ => by go_simp⟩) hH ?_
        refine wpAnyH_take (i := 6) (v := .slice k.ka k.kn k.kc) rfl (by kernel_rfl) (by kernel_rfl) (by kernel_rfl) (fun _ _ _ h => h) (Or.inl ⟨by rfl, fun w' hw' => by have h2 : w'.cell? ⟨wr.heap.size, 1, none⟩ = some (.slice k.ka k.kn k.kc) := Blk.cell hw'.1 1; go_simp⟩) hH ?_
        refine wpAnyH_take (i := 8) (v := .pointer (some ⟨wr.heap.size, 2, none⟩)) rfl (by kernel_rfl) (by kernel_rfl) (by kernel_rfl) (fun _ _ _ h => h) (Or.inl ⟨by rfl, fun w' _ => by go_simp⟩) hH ?_
        refine wpAnyH_take (i := 9) (v := .int .u64 k.ct) rfl (by kernel_rfl) (by kernel_rfl) (by kernel_rfl) (fun _ _ _ h => h) (Or.inl ⟨by rfl, fun w' hw' => by have h2 : w'.cell? ⟨wr.heap.size, 2, none⟩ = some (.int .u64 k.ct) := Blk.cell hw'.1 2; go_simp⟩) hH ?_
        refine wpAnyH_take (i := 11) (v := .pointer (some ⟨wr.heap.size, 3, none⟩)) rfl (by kernel_rfl) (by kernel_rfl) (by kernel_rfl) (fun _ _ _ h => h) (Or.inl ⟨by rfl, fun w' _ => by go_simp⟩) hH ?_
        refine wpAnyH_take (i := 12) (v := .agg (bs k.ad).toArray) rfl (by kernel_rfl) (by kernel_rfl) (by kernel_rfl) (fun _ _ _ h => h) (yieldsIf_load_mid (by rfl) _ _ rfl wr.heap.size 3 (by kernel_rfl) _ _ (fun w' hw' => Blk.range hw'.1 k.ad_at) Try.underlying33 rfl (Try.addrSz k.ad AD)) hH ?_
        refine wpAnyH_take (i := 14) (v := .pointer (some ⟨wr.heap.size, 36, none⟩)) rfl (by kernel_rfl) (by kernel_rfl) (by kernel_rfl) (fun _ _ _ h => h) (Or.inl ⟨by rfl, fun w' _ => by go_simp⟩) hH ?_
        refine wpAnyH_take (i := 15) (v := .agg (bs k.lb).toArray) rfl (by kernel_rfl) (by kernel_rfl) (by kernel_rfl) (fun _ _ _ h => h) (yieldsIf_load_mid (by rfl) _ _ rfl wr.heap.size 36 (by kernel_rfl) _ _ (fun w' hw' => Blk.range hw'.1 (k.lb_at AD)) Try.underlying31 rfl (Try.sumSz' k.lb LB)) hH ?_
        refine wpAnyH_ready (rs := [4]) (by kernel_rfl) (by simp) ?_
        refine AllReadyH.cons rfl (fun K hK => ?_) AllReadyH.nil
        go_simp
        refine Calls.mono (high1_any _ k.lv) ?_
        rintro e q0 ⟨r0, rfl, m0⟩
        refine hK.out _ _ (⟨hH.1.keep0 (m0.2.1), hH.2.trans ((m0.2.1).mono hH.2.size)⟩) (fun h0 => ?_)
        clear hK K
        obtain ⟨b0, c0, hv⟩ := m0.1.form
        obtain ⟨n0, hn⟩ : ∃ nn : Nat, nn = ([k.lv % 256]).length := ⟨_, rfl⟩
        rw [← hn] at hv
        subst hv
        clear hn
        refine wpAnyH_ready (rs := [7]) (by kernel_rfl) (by simp) ?_
        refine AllReadyH.cons rfl (fun K hK => ?_) AllReadyH.nil
        go_simp
        refine Calls.mono (text_any (Src.kept0 KS.out h0.2) (by omega)) ?_
        rintro e q1 ⟨r1, rfl, m1⟩
        refine hK.out _ _ (⟨h0.1.keep0 (m1.2.1), h0.2.trans ((m1.2.1).mono h0.2.size)⟩) (fun h1 => ?_)
        clear hK K
        obtain ⟨b1, c1, hv⟩ := m1.1.form
        obtain ⟨n1, hn⟩ : ∃ nn : Nat, nn = ((numB k.kl.length ++ k.kl)).length := ⟨_, rfl⟩
        rw [← hn] at hv
        subst hv
        clear hn
        refine wpAnyH_ready (rs := [10]) (by kernel_rfl) (by simp) ?_
        refine AllReadyH.cons rfl (fun K hK => ?_) AllReadyH.nil
        go_simp
        refine Calls.mono (num_any k.ct A1 _) ?_
        rintro e q2 ⟨r2, rfl, m2⟩
        refine hK.out _ _ (⟨h1.1.keep0 (m2.2.1), h1.2.trans ((m2.2.1).mono h1.2.size)⟩) (fun h2 => ?_)
        clear hK K
        obtain ⟨b2, c2, hv⟩ := m2.1.form
        obtain ⟨n2, hn⟩ : ∃ nn : Nat, nn = (numB k.ct).length := ⟨_, rfl⟩
        rw [← hn] at hv
        subst hv
        clear hn
        refine wpAnyH_ready (rs := [13]) (by kernel_rfl) (by simp) ?_
        refine AllReadyH.cons rfl (fun K hK => ?_) AllReadyH.nil
        go_simp
        refine Calls.mono (xaddrP_any k.ad AD) ?_
        rintro e q3 ⟨r3, rfl, m3⟩
        refine hK.out _ _ (⟨h2.1.keep0 (m3.2.1), h2.2.trans ((m3.2.1).mono h2.2.size)⟩) (fun h3 => ?_)
        clear hK K
        obtain ⟨b3, c3, hv⟩ := m3.1.form
        obtain ⟨n3, hn⟩ : ∃ nn : Nat, nn = (k.ad).length := ⟨_, rfl⟩
        rw [← hn] at hv
        subst hv
        clear hn
        refine wpAnyH_ready (rs := [16]) (by kernel_rfl) (by simp) ?_
        refine AllReadyH.cons rfl (fun K hK => ?_) AllReadyH.nil
        go_simp
        refine Calls.mono (xsum_any k.lb LB) ?_
        rintro e q4 ⟨r4, rfl, m4⟩
        refine hK.out _ _ (⟨h3.1.keep0 (m4.2.1), h3.2.trans ((m4.2.1).mono h3.2.size)⟩) (fun h4 => ?_)
        clear hK K
        obtain ⟨b4, c4, hv⟩ := m4.1.form
        obtain ⟨n4, hn⟩ : ∃ nn : Nat, nn = (k.lb).length := ⟨_, rfl⟩
        rw [← hn] at hv
        subst hv
        clear hn
        have hsrc : ∀ i, i < 5 → Src q4 ((fun i => match i with | 0 => Value.slice b0 n0 c0 | 1 => Value.slice b1 n1 c1 | 2 => Value.slice b2 n2 c2 | 3 => Value.slice b3 n3 c3 | _ => Value.slice b4 n4 c4) i) ((fun i => match i with | 0 => [k.lv % 256] | 1 => (numB k.kl.length ++ k.kl) | 2 => numB k.ct | 3 => k.ad | _ => k.lb) i) := by
          intro i hi
          match i, hi with
          | 0, _ => exact ((((m0.1.src).kept0 m1.2.1).kept0 m2.2.1).kept0 m3.2.1).kept0 m4.2.1
          | 1, _ => exact (((m1.1.src).kept0 m2.2.1).kept0 m3.2.1).kept0 m4.2.1
          | 2, _ => exact ((m2.1.src).kept0 m3.2.1).kept0 m4.2.1
          | 3, _ => exact (m3.1.src).kept0 m4.2.1
          | 4, _ => exact m4.1.src
        refine wpAnyH_ready (rs := [17]) (by kernel_rfl) (by simp) ?_
        refine AllReadyH.cons rfl (fun K hK => ?_) AllReadyH.nil
        go_simp
        refine hK.out _ _ (⟨h4.1.alloc _, h4.2.alloc h4.2.size _⟩) (fun hx => ?_)
        clear hK K
        refine wpAnyH_ready (rs := [18]) (by kernel_rfl) (by simp) ?_
        refine AllReadyH.cons rfl (fun K hK => ?_) AllReadyH.nil
        go_simp
        refine Calls.mono (join_any (pieces_newY (fun i hi => by match i, hi with | 0, _ => rfl | 1, _ => rfl | 2, _ => rfl | 3, _ => rfl | 4, _ => rfl) hsrc) (by decide) (by
          intro k hk
          match k, hk with | 0, _ => simp [flat]; try omega | 1, _ => simp [flat]; try omega | 2, _ => simp [flat]; try omega | 3, _ => simp [flat]; try omega | 4, _ => simp [flat]; try omega | 5, _ => simp [flat]; try omega)) ?_
        rintro e wj ⟨vj, rfl, mj⟩
        have e2 : flat (fun i => match i with | 0 => [k.lv % 256] | 1 => (numB k.kl.length ++ k.kl) | 2 => numB k.ct | 3 => k.ad | _ => k.lb) 5 = [k.lv % 256] ++ (numB k.kl.length ++ k.kl) ++ numB k.ct ++ k.ad ++ k.lb := by simp [flat]
        rw [e2] at mj
        refine hK.out _ _ (⟨hx.1.keep0 (mj.2.1), hx.2.trans ((mj.2.1).mono hx.2.size)⟩) (fun hy => ?_)
        clear hK K hsrc e2
        have ov : Own wj u3 Lj := ((((((((show Own wB.drew u3 Lj from MB.out.1)).kept (Chg.of_below m0.2.1 (fun _ => False)) (fun _ _ e => e)).kept (Chg.of_below m1.2.1 (fun _ => False)) (fun _ _ e => e)).kept (Chg.of_below m2.2.1 (fun _ => False)) (fun _ _ e => e)).kept (Chg.of_below m3.2.1 (fun _ => False)) (fun _ _ e => e)).kept (Chg.of_below m4.2.1 (fun _ => False)) (fun _ _ e => e)).alloc _).kept (Chg.of_below mj.2.1 (fun _ => False)) (fun _ _ e => e)
        obtain ⟨v9, w9, hr9, o9, c9, at9⟩ := run_app wj 23 ov mj.1.src (by simp; omega)
        have mN := Made.app (w := W) ⟨ov, hy.2, MB.out.2.2⟩ o9 c9 at9
        have HR9 : Hid _ := hr9
        have s9 : Blk w9 wr.heap.size k.cells 112 ∧ Below W.heap.size W w9 := ⟨hy.1.keep c9 (fun e => by have := GT.out _ e.symm; omega), mN.2.1⟩
        have FN : Hid (Made W w9 v9 (M1 ++ recsB (fun i => (P.ks i).bytes) (j + 1))) := by
          have e : M1 ++ recsB (fun i => (P.ks i).bytes) (j + 1) = Lj ++ ([k.lv % 256] ++ (numB k.kl.length ++ k.kl) ++ numB k.ct ++ k.ad ++ k.lb) := by
            rw [HLJ.out, recsB, ← HKK.out, Kd.bytes]
            simp
          rw [e]
          exact mN
        refine wpAnyH_ready (rs := [19]) (by kernel_rfl) (by simp) ?_
        refine AllReadyH.cons rfl (fun K hK => ?_) AllReadyH.nil
        refine step_appY rfl (.tmp 33) (.tmp 51) rfl (v := u3) (u := vj) (by kernel_rfl) (by kernel_rfl) HR9.out ?_
        refine hK.out _ _ s9 (fun hz => ?_)
        clear hK K
        refine wpAnyH_ready (rs := [20]) (by kernel_rfl) (by simp) ?_
        refine AllReadyH.cons rfl (fun K hK => ?_) AllReadyH.nil
        go_simp
        refine hK.out _ _ hz (fun _ => ?_)
        clear hK K hH h0 h1 h2 h3 h4 hx hy hz m0 m1 m2 m3 m4 mj ov hr9 o9 c9 at9 mN s9
        refine wpAnyH_done (by kernel_rfl) ?_ _
        go_wp2_with fail
        go_roundw
        case rel => exact ⟨j + 1, by omega, by go_num, FN.out⟩
        case measure => simp [intOf]; omega
      · have hjn : j = P.sn := by omega
        subst hjn
        have F : Hid (Made w wr u3 P.bytes) := by
          have e : P.bytes = M1 ++ recsB (fun i => (P.ks i).bytes) P.sn := by
            rw [Tw.bytes, kidsB_recs, HM1.out, HM0.out]
          rw [e]
          exact Made.upY HB1.out HB.out
        go_wp2_with fail
        go_ret
        exact ⟨_, rfl, F.out⟩
end Go.Proofs.Ytkchmoapcmageaa
