/-
  The reference writes pages.
-/
import Derived.Test.YtfkjgfelgiogeaaPgI
import Derived.Test.YtfkjgfelgiogeaaJoin
namespace Go.Proofs.Ytfkjgfelgiogeaa
open Go.RowKit

theorem Made.upY {w W w' : World} {v : Value} {l : List Int} (h : Made W w' v l) (b : Below w.heap.size w W) : Made w w' v l :=
  ⟨h.1, b.trans (h.2.1.mono b.size), fun k hk => Nat.le_trans b.size (h.2.2 k hk)⟩
theorem pieces_newY {w : World} {n : Nat} {ls : Nat → List Int} {vs : Nat → Value} {cs : Array Value} {t : TypeId} (hc : ∀ i, i < n → cs[i]? = some (vs i)) (hs : ∀ i, i < n → Src w (vs i) (ls i)) : Pieces (w.alloc (.cells cs t)) w.heap.size n vs ls :=
  ⟨fun i hi => by rw [cell_of_row _ _ i cs t _ (heap_alloc_new _ _)]; exact hc i hi, fun i hi => (hs i hi).kept0 ((Below.refl _ _).alloc (Nat.le_refl _) _)⟩
theorem xaddrY {w : World} (x : List Int) (hx : x.length = 33) :
    Calls Try.prog 98 #[.agg (bs x).toArray] w fun e w' => ∃ v, e = .returned v ∧ Made w w' v x := by
  obtain ⟨z, b, rfl⟩ : ∃ z b, x = z ++ [b] := ⟨x.take 32, x[32], by
    have e := List.take_append_getElem (l := x) (i := 32) (by omega)
    rw [e, List.take_of_length_le (by omega)]⟩
  exact xaddr_any z b (by simp at hx; omega)
theorem step_appY {ops : Array Oper} {o : Oper} {a : Act} {w w' : World} {K : Act → World → Prop} {Q : Exit → Act → World → Prop} {E : Prop} (hgd : o.guard = none) (s x : Operand)
    (ho : o.op = .call { callee := .builtin .append, args := #[s, x], argTypes := #[23, 23] }) {v u v' : Value} (hs : a.eval s = v) (hx : a.eval x = u) (hr : (Builtin.append_ #[23, 23] o.type #[v, u]).run Try.prog w = .ok v' w') (h : K (a.put o.dst v') w') :
    if Region.wanted o (yielded ops a.tmps) = true then Oper.wp Try.prog o a w K Q else E := by
  have hw : Region.wanted o (yielded ops a.tmps) = true := by simp [Region.wanted, hgd]
  rw [if_pos hw]
  unfold Oper.wp execOp
  simp only [ho, resolve, invoke, builtin, Sem.run_bind, Sem.run_pure, Result.andThen_ok, List.map_toArray, List.map_cons, List.map_nil, hs, hx, hr]
  exact h
theorem Pk.x_atY (k : Pk) : (k.cells.drop 1).take (bs k.x).length = bs k.x := by simp [Pk.cells, leafC, bs_app]
theorem Pk.y_atY (k : Pk) (h : k.x.length = 33) : (k.cells.drop 34).take (bs k.y).length = bs k.y := by
  have h1 : (bs k.x).length = 33 := by rw [bs_len, h]
  show ((bs (k.x ++ k.y)).drop 33).take _ = _
  rw [bs_app, List.drop_append, h1, List.drop_of_length_le (l := bs k.x) (by omega)]
  simp
theorem wrap64 (n : Nat) (h : n ≤ 9223372036854775807) : IntKind.wrap .u64 (n : Int) = (n : Int) := by rw [IntKind.wrap_u64]; omega

set_option maxRecDepth 100000 in
set_option maxHeartbeats 16000000 in
theorem xPage_any {w : World} {P : Pg} (hP : PgIn w (fun g => g < w.heap.size) P) (hF : PgSm P) :
    Calls Try.prog 39 #[.agg P.cells.toArray] w fun e w' => ∃ u, e = .returned u ∧ Made w w' u P.bytesI := by
  obtain ⟨X, hX⟩ : ∃ X, X = w.heap.size := ⟨_, rfl⟩
  obtain ⟨W, hW⟩ : ∃ W, W = w.alloc (.cells P.cells.toArray 51) := ⟨_, rfl⟩
  have hb : Below w.heap.size w W := by rw [hW]; exact (Below.refl _ _).alloc (Nat.le_refl _) _
  have B0 : Hid (Blk W X P.cells 51) := by rw [hW, hX]; exact Blk.made _ _ _
  have HP : Hid (PgIn W (fun g => g < W.heap.size) P) := hP.keep0 hb
  have HB : Hid _ := hb
  have LA := hP.la
  have SE := hP.se
  have SZ := hP.sz
  have MN := hF.mn
  have VN := hF.vn
  have PN := hF.pn
  obtain ⟨U, hU⟩ : ∃ U, U = u64 P.wi := ⟨_, rfl⟩
  have UL : U < 18446744073709551616 := by rw [hU]; exact u64_lt _
  have hwu : IntKind.wrap .u64 P.wi = (U : Int) := by rw [hU, IntKind.wrap_u64]; unfold u64; omega
  have hwm := wrap64 P.mn (by omega)
  have hwv := wrap64 P.vn (by omega)
  have hwp := wrap64 P.pn (by omega)
  have HU : Hid _ := hU
  have t1 := numB_ten LA
  have t2 := numB_ten UL
  have t3 := numB_ten SE
  have t4 := numB_ten (n := P.mn) (by omega)
  have t5 := numB_ten (n := P.vn) (by omega)
  have t6 := numB_ten SZ
  have t7 := numB_ten (n := P.pn) (by omega)
  have XL : Hid (X < W.heap.size) := B0.out.lt
  clear hP hF hb hU
  go_enter Try.func39, Try.ntmps39
  go_upto_region 1 with fail
  rw [← hW, ← hX]
  have HX : Hid _ := hX
  clear hW hX
  refine wp_region_held_drew (S := fun w' => Below W.heap.size W w') (by kernel_rfl) ((Below.refl _ _).drew) (fun hH => ?_)
  refine wpAnyH_take (i := 0) (v := .pointer (some ⟨X, 0, none⟩)) rfl (by kernel_rfl) (by kernel_rfl) (by kernel_rfl) (fun _ _ _ h => h) (Or.inl ⟨by rfl, fun w' _ => by go_simp⟩) hH ?_
  refine wpAnyH_take (i := 1) (v := .int .u64 P.la) rfl (by kernel_rfl) (by kernel_rfl) (by kernel_rfl) (fun _ _ _ h => h) (Or.inl ⟨by rfl, fun w' hw' => by have h2 : w'.cell? ⟨X, 0, none⟩ = some (.int .u64 P.la) := Blk.cell (Blk.keep0 B0.out hw') 0; go_simp⟩) hH ?_
  refine wpAnyH_take (i := 3) (v := .pointer (some ⟨X, 1, none⟩)) rfl (by kernel_rfl) (by kernel_rfl) (by kernel_rfl) (fun _ _ _ h => h) (Or.inl ⟨by rfl, fun w' _ => by go_simp⟩) hH ?_
  refine wpAnyH_take (i := 4) (v := .int .i64 P.wi) rfl (by kernel_rfl) (by kernel_rfl) (by kernel_rfl) (fun _ _ _ h => h) (Or.inl ⟨by rfl, fun w' hw' => by have h2 : w'.cell? ⟨X, 1, none⟩ = some (.int .i64 P.wi) := Blk.cell (Blk.keep0 B0.out hw') 1; go_simp⟩) hH ?_
  refine wpAnyH_take (i := 5) (v := .int .u64 (U : Int)) rfl (by kernel_rfl) (by kernel_rfl) (by kernel_rfl) (fun _ _ _ h => h) (Or.inl ⟨by rfl, fun w' _ => by go_simp⟩) hH ?_
  refine wpAnyH_take (i := 7) (v := .pointer (some ⟨X, 2, none⟩)) rfl (by kernel_rfl) (by kernel_rfl) (by kernel_rfl) (fun _ _ _ h => h) (Or.inl ⟨by rfl, fun w' _ => by go_simp⟩) hH ?_
  refine wpAnyH_take (i := 8) (v := .int .u64 P.se) rfl (by kernel_rfl) (by kernel_rfl) (by kernel_rfl) (fun _ _ _ h => h) (Or.inl ⟨by rfl, fun w' hw' => by have h2 : w'.cell? ⟨X, 2, none⟩ = some (.int .u64 P.se) := Blk.cell (Blk.keep0 B0.out hw') 2; go_simp⟩) hH ?_
  refine wpAnyH_take (i := 10) (v := .pointer (some ⟨X, 3, none⟩)) rfl (by kernel_rfl) (by kernel_rfl) (by kernel_rfl) (fun _ _ _ h => h) (Or.inl ⟨by rfl, fun w' _ => by go_simp⟩) hH ?_
  refine wpAnyH_take (i := 11) (v := .slice P.ma P.mn P.mc) rfl (by kernel_rfl) (by kernel_rfl) (by kernel_rfl) (fun _ _ _ h => h) (Or.inl ⟨by rfl, fun w' hw' => by have h2 : w'.cell? ⟨X, 3, none⟩ = some (.slice P.ma P.mn P.mc) := Blk.cell (Blk.keep0 B0.out hw') 3; go_simp⟩) hH ?_
  refine wpAnyH_take (i := 12) (v := .int .i64 (P.mn : Int)) rfl (by kernel_rfl) (by kernel_rfl) (by kernel_rfl) (fun _ _ _ h => h) (Or.inl ⟨by rfl, fun w' _ => by go_simp⟩) hH ?_
  refine wpAnyH_take (i := 13) (v := .int .u64 (P.mn : Int)) rfl (by kernel_rfl) (by kernel_rfl) (by kernel_rfl) (fun _ _ _ h => h) (Or.inl ⟨by rfl, fun w' _ => by go_simp⟩) hH ?_
  refine wpAnyH_ready (rs := [2]) (by kernel_rfl) (by simp) ?_
  refine AllReadyH.cons rfl (fun K hK => ?_) AllReadyH.nil
  go_simp
  refine Calls.mono (num_any P.la LA _) ?_
  rintro e q0 ⟨r0, rfl, m0⟩
  refine hK.out _ _ (hH.trans ((m0.2.1).mono hH.size)) (fun h0 => ?_)
  clear hK K
  obtain ⟨b0, c0, hv⟩ := m0.1.form
  obtain ⟨n0, hn⟩ : ∃ nn : Nat, nn = (numB P.la).length := ⟨_, rfl⟩
  rw [← hn] at hv
  subst hv
  clear hn
  refine wpAnyH_ready (rs := [6]) (by kernel_rfl) (by simp) ?_
  refine AllReadyH.cons rfl (fun K hK => ?_) AllReadyH.nil
  go_simp
  refine Calls.mono (num_any U UL _) ?_
  rintro e q1 ⟨r1, rfl, m1⟩
  refine hK.out _ _ (h0.trans ((m1.2.1).mono h0.size)) (fun h1 => ?_)
  clear hK K
  obtain ⟨b1, c1, hv⟩ := m1.1.form
  obtain ⟨n1, hn⟩ : ∃ nn : Nat, nn = (numB U).length := ⟨_, rfl⟩
  rw [← hn] at hv
  subst hv
  clear hn
  refine wpAnyH_ready (rs := [9]) (by kernel_rfl) (by simp) ?_
  refine AllReadyH.cons rfl (fun K hK => ?_) AllReadyH.nil
  go_simp
  refine Calls.mono (num_any P.se SE _) ?_
  rintro e q2 ⟨r2, rfl, m2⟩
  refine hK.out _ _ (h1.trans ((m2.2.1).mono h1.size)) (fun h2 => ?_)
  clear hK K
  obtain ⟨b2, c2, hv⟩ := m2.1.form
  obtain ⟨n2, hn⟩ : ∃ nn : Nat, nn = (numB P.se).length := ⟨_, rfl⟩
  rw [← hn] at hv
  subst hv
  clear hn
  refine wpAnyH_ready (rs := [14]) (by kernel_rfl) (by simp) ?_
  refine AllReadyH.cons rfl (fun K hK => ?_) AllReadyH.nil
  go_simp
  refine Calls.mono (num_any P.mn (by omega) _) ?_
  rintro e q3 ⟨r3, rfl, m3⟩
  refine hK.out _ _ (h2.trans ((m3.2.1).mono h2.size)) (fun h3 => ?_)
  clear hK K
  obtain ⟨b3, c3, hv⟩ := m3.1.form
  obtain ⟨n3, hn⟩ : ∃ nn : Nat, nn = (numB P.mn).length := ⟨_, rfl⟩
  rw [← hn] at hv
  subst hv
  clear hn
  have hsrc : ∀ i, i < 4 → Src q3 ((fun i => match i with | 0 => Value.slice b0 n0 c0 | 1 => Value.slice b1 n1 c1 | 2 => Value.slice b2 n2 c2 | _ => Value.slice b3 n3 c3) i) ((fun i => match i with | 0 => numB P.la | 1 => numB U | 2 => numB P.se | _ => numB P.mn) i) := by
    intro i hi
    match i, hi with
    | 0, _ => exact (((m0.1.src).kept0 m1.2.1).kept0 m2.2.1).kept0 m3.2.1
    | 1, _ => exact ((m1.1.src).kept0 m2.2.1).kept0 m3.2.1
    | 2, _ => exact (m2.1.src).kept0 m3.2.1
    | 3, _ => exact m3.1.src
  refine wpAnyH_ready (rs := [15]) (by kernel_rfl) (by simp) ?_
  refine AllReadyH.cons rfl (fun K hK => ?_) AllReadyH.nil
  go_simp
  refine hK.out _ _ (h3.alloc h3.size _) (fun hx => ?_)
  clear hK K
  refine wpAnyH_ready (rs := [16]) (by kernel_rfl) (by simp) ?_
  refine AllReadyH.cons rfl (fun K hK => ?_) AllReadyH.nil
  go_simp
  refine Calls.mono (join_any (pieces_newY (fun i hi => by match i, hi with | 0, _ => rfl | 1, _ => rfl | 2, _ => rfl | 3, _ => rfl) hsrc) (by decide) (by
    intro k hk
    match k, hk with | 0, _ => simp [flat]; try omega | 1, _ => simp [flat]; try omega | 2, _ => simp [flat]; try omega | 3, _ => simp [flat]; try omega | 4, _ => simp [flat]; try omega)) ?_
  rintro e wj ⟨vj, rfl, mj⟩
  have e2 : flat (fun i => match i with | 0 => numB P.la | 1 => numB U | 2 => numB P.se | _ => numB P.mn) 4 = numB P.la ++ numB U ++ numB P.se ++ numB P.mn := by simp [flat]
  rw [e2] at mj
  refine hK.out _ _ (hx.trans ((mj.2.1).mono hx.size)) (fun hy => ?_)
  clear hK K hsrc e2
  have MJ : Hid (Made W wj vj (numB P.la ++ numB U ++ numB P.se ++ numB P.mn)) := Made.upY mj (hx.mono (Nat.le_refl _))
  clear mj
  refine wpAnyH_ready (rs := [17]) (by kernel_rfl) (by simp) ?_
  refine AllReadyH.cons rfl (fun K hK => ?_) AllReadyH.nil
  go_simp
  refine hK.out _ _ hy (fun _ => ?_)
  clear hK K hH h0 h1 h2 h3 hx hy m0 m1 m2 m3
  refine wpAnyH_done (by kernel_rfl) ?_ _
  obtain ⟨M0, hM0⟩ : ∃ M0, M0 = numB P.la ++ numB U ++ numB P.se ++ numB P.mn := ⟨_, rfl⟩
  rw [← hM0] at MJ
  have LM0 : M0.length ≤ 40 := by rw [hM0]; simp; omega
  have HM0 : Hid _ := hM0
  clear hM0 hwu hwm
  have k3 : wj.cell? ⟨X, 3, none⟩ = some (.slice P.ma P.mn P.mc) := (B0.out.keep0 MJ.out.2.1).cell 3
  go_wp2_with fail
  go_loopw [3, 30] (fun v i wr => ∃ j : Nat, j ≤ P.mn ∧ i = .int .i64 j ∧ Hid (Made W wr v (M0 ++ recsB P.mBI j))) (fun _ i _ => P.mn - (intOf i).toNat)
  case atStart => exact ⟨0, Nat.zero_le _, rfl, by have h9 := MJ.out; rw [show M0 ++ recsB P.mBI 0 = M0 by simp [recsB]]; exact h9⟩
  case round =>
    obtain ⟨j, hj, rfl, hid⟩ := hrel
    have HB1 : Hid _ := hid.out
    clear hid
    by_cases hlt : j < P.mn
    · obtain ⟨k, hk⟩ : ∃ k, k = P.ms j := ⟨_, rfl⟩
      obtain ⟨g, o, hsa, hav, hrg⟩ := HP.out.mrow j hlt
      have kin := HP.out.em j hlt
      have hrg : W.rangeAt g (o + j * 2) k.cells := by rw [hk]; exact hrg
      rw [← hk] at kin
      have hix := ix_at Try.underlying45 Try.elem45 Try.so124 (c := P.mc) hsa hlt
      have RG : Hid (wr.rangeAt g (o + j * 2) k.cells) := rangeAt_kept hrg (Chg.of_below HB1.out.2.1 (fun _ => False)) (fun e => e)
      have HKK : Hid _ := hk
      have A1 := kin.1
      have n1' := numB_ten A1
      obtain ⟨V, hV⟩ : ∃ V, V = u64 k.us := ⟨_, rfl⟩
      have VL : V < 18446744073709551616 := by rw [hV]; exact u64_lt _
      have hwk : IntKind.wrap .u64 k.us = (V : Int) := by rw [hV, IntKind.wrap_u64]; unfold u64; omega
      have n2' := numB_ten VL
      have HV : Hid _ := hV
      clear hV
      have KB : (recsB P.mBI j).length ≤ j * 20 := recsB_len j (fun i hi => by have q1 := (HP.out.em i (by omega)).1; have e1 := numB_ten q1; have e2 := numB_ten (u64_lt (P.ms i).us); simp only [Pg.mBI, Mk.bytesI, List.length_append]; omega)
      clear hrg hk hsa hav kin
      go_upto_region 5 with (first
        | refine wpList_load_mid rfl 112 (.tmp 32) rfl g (o + j * 2) rfl k.cells _ RG.out Try.underlying112 rfl (Try.mkSz k) ?_
        | (refine wpList_store_part rfl 112 (.tmp 5) (.tmp 33) rfl wr.heap.size 0 k.cells rfl rfl (t := 112) ⟨heap_alloc_new _ _⟩ (by simp [Mk.cells]) (Try.mkSz k) (k.one) ?_; intro wB hw8 hc8; rw [splice_all _ _ (by simp [Mk.cells])] at hw8; have c8 : Chg (fun _ => False) wr wB := ((Chg.refl (fun _ => False) wr).alloc _).trans hc8 (fun i e => .inr (by omega)); have BK : Hid _ := hw8; have CB : Hid _ := c8; clear hw8 hc8 c8))
      obtain ⟨Lj, hLj⟩ : ∃ Lj, Lj = M0 ++ recsB P.mBI j := ⟨_, rfl⟩
      have LLj : Lj.length ≤ M0.length + j * 20 := by rw [hLj, List.length_append]; omega
      have MB : Hid (Made W wB u3 Lj) := by rw [hLj]; exact ⟨HB1.out.1.kept CB.out (fun _ _ e => e), HB1.out.2.1.trans (CB.out.below HB1.out.2.1.size (fun _ e => e.elim)), HB1.out.2.2⟩
      have GT : Hid (∀ q, u3.ownBlock = some q → q < wr.heap.size) := fun q hq => HB1.out.1.lt hq
      have HLJ : Hid _ := hLj
      clear hLj hix HB1 RG CB
      refine wp_region_held_drew (S := fun w' => Blk w' wr.heap.size k.cells 112 ∧ Below W.heap.size W w') (by kernel_rfl) (⟨BK.out.drew, MB.out.2.1.drew⟩) (fun hH => ?_)
      refine wpAnyH_take (i := 0) (v := u3) rfl (by kernel_rfl) (by kernel_rfl) (by kernel_rfl) (fun _ _ _ h => h) (Or.inl ⟨by rfl, fun w' _ => by go_simp⟩) hH ?_
      refine wpAnyH_take (i := 1) (v := .pointer (some ⟨wr.heap.size, 0, none⟩)) rfl (by kernel_rfl) (by kernel_rfl) (by kernel_rfl) (fun _ _ _ h => h) (Or.inl ⟨by rfl, fun w' _ => by go_simp⟩) hH ?_
      refine wpAnyH_take (i := 2) (v := .int .u64 k.se) rfl (by kernel_rfl) (by kernel_rfl) (by kernel_rfl) (fun _ _ _ h => h) (Or.inl ⟨by rfl, fun w' hw' => by have h2 : w'.cell? ⟨wr.heap.size, 0, none⟩ = some (.int .u64 k.se) := Blk.cell hw'.1 0; go_simp⟩) hH ?_
      refine wpAnyH_take (i := 4) (v := .pointer (some ⟨wr.heap.size, 1, none⟩)) rfl (by kernel_rfl) (by kernel_rfl) (by kernel_rfl) (fun _ _ _ h => h) (Or.inl ⟨by rfl, fun w' _ => by go_simp⟩) hH ?_
      refine wpAnyH_take (i := 5) (v := .int .i64 k.us) rfl (by kernel_rfl) (by kernel_rfl) (by kernel_rfl) (fun _ _ _ h => h) (Or.inl ⟨by rfl, fun w' hw' => by have h2 : w'.cell? ⟨wr.heap.size, 1, none⟩ = some (.int .i64 k.us) := Blk.cell hw'.1 1; go_simp⟩) hH ?_
      refine wpAnyH_take (i := 6) (v := .int .u64 (V : Int)) rfl (by kernel_rfl) (by kernel_rfl) (by kernel_rfl) (fun _ _ _ h => h) (Or.inl ⟨by rfl, fun w' _ => by go_simp⟩) hH ?_
      refine wpAnyH_ready (rs := [3]) (by kernel_rfl) (by simp) ?_
      refine AllReadyH.cons rfl (fun K hK => ?_) AllReadyH.nil
      go_simp
      refine Calls.mono (num_any k.se A1 _) ?_
      rintro e q0 ⟨r0, rfl, m0⟩
      refine hK.out _ _ (⟨hH.1.keep0 (m0.2.1), hH.2.trans ((m0.2.1).mono hH.2.size)⟩) (fun h0 => ?_)
      clear hK K
      obtain ⟨b0, c0, hv⟩ := m0.1.form
      obtain ⟨n0, hn⟩ : ∃ nn : Nat, nn = (numB k.se).length := ⟨_, rfl⟩
      rw [← hn] at hv
      subst hv
      clear hn
      refine wpAnyH_ready (rs := [7]) (by kernel_rfl) (by simp) ?_
      refine AllReadyH.cons rfl (fun K hK => ?_) AllReadyH.nil
      go_simp
      refine Calls.mono (num_any V VL _) ?_
      rintro e q1 ⟨r1, rfl, m1⟩
      refine hK.out _ _ (⟨h0.1.keep0 (m1.2.1), h0.2.trans ((m1.2.1).mono h0.2.size)⟩) (fun h1 => ?_)
      clear hK K
      obtain ⟨b1, c1, hv⟩ := m1.1.form
      obtain ⟨n1, hn⟩ : ∃ nn : Nat, nn = (numB V).length := ⟨_, rfl⟩
      rw [← hn] at hv
      subst hv
      clear hn
      have hsrc : ∀ i, i < 2 → Src q1 ((fun i => match i with | 0 => Value.slice b0 n0 c0 | _ => Value.slice b1 n1 c1) i) ((fun i => match i with | 0 => numB k.se | _ => numB V) i) := by
        intro i hi
        match i, hi with
        | 0, _ => exact (m0.1.src).kept0 m1.2.1
        | 1, _ => exact m1.1.src
      refine wpAnyH_ready (rs := [8]) (by kernel_rfl) (by simp) ?_
      refine AllReadyH.cons rfl (fun K hK => ?_) AllReadyH.nil
      go_simp
      refine hK.out _ _ (⟨h1.1.alloc _, h1.2.alloc h1.2.size _⟩) (fun hx => ?_)
      clear hK K
      refine wpAnyH_ready (rs := [9]) (by kernel_rfl) (by simp) ?_
      refine AllReadyH.cons rfl (fun K hK => ?_) AllReadyH.nil
      go_simp
      refine Calls.mono (join_any (pieces_newY (fun i hi => by match i, hi with | 0, _ => rfl | 1, _ => rfl) hsrc) (by decide) (by
        intro k hk
        match k, hk with | 0, _ => simp [flat]; try omega | 1, _ => simp [flat]; try omega | 2, _ => simp [flat]; try omega)) ?_
      rintro e wj ⟨vj, rfl, mj⟩
      have e2 : flat (fun i => match i with | 0 => numB k.se | _ => numB V) 2 = numB k.se ++ numB V := by simp [flat]
      rw [e2] at mj
      refine hK.out _ _ (⟨hx.1.keep0 (mj.2.1), hx.2.trans ((mj.2.1).mono hx.2.size)⟩) (fun hy => ?_)
      clear hK K hsrc e2
      have ov : Own wj u3 Lj := (((((show Own wB.drew u3 Lj from MB.out.1)).kept (Chg.of_below m0.2.1 (fun _ => False)) (fun _ _ e => e)).kept (Chg.of_below m1.2.1 (fun _ => False)) (fun _ _ e => e)).alloc _).kept (Chg.of_below mj.2.1 (fun _ => False)) (fun _ _ e => e)
      obtain ⟨v9, w9, hr9, o9, c9, at9⟩ := run_app wj 23 ov mj.1.src (by simp; omega)
      have mN := Made.app (w := W) ⟨ov, hy.2, MB.out.2.2⟩ o9 c9 at9
      have HR9 : Hid _ := hr9
      have s9 : Blk w9 wr.heap.size k.cells 112 ∧ Below W.heap.size W w9 := ⟨hy.1.keep c9 (fun e => by have := GT.out _ e.symm; omega), mN.2.1⟩
      have FN : Hid (Made W w9 v9 (M0 ++ recsB P.mBI (j + 1))) := by
        have e : M0 ++ recsB P.mBI (j + 1) = Lj ++ (numB k.se ++ numB V) := by
          rw [HLJ.out, recsB, Pg.mBI, ← HKK.out, Mk.bytesI, ← HV.out]
          simp
        rw [e]
        exact mN
      refine wpAnyH_ready (rs := [10]) (by kernel_rfl) (by simp) ?_
      refine AllReadyH.cons rfl (fun K hK => ?_) AllReadyH.nil
      refine step_appY rfl (.tmp 34) (.tmp 43) rfl (v := u3) (u := vj) (by kernel_rfl) (by kernel_rfl) HR9.out ?_
      refine hK.out _ _ s9 (fun hz => ?_)
      clear hK K
      refine wpAnyH_ready (rs := [11]) (by kernel_rfl) (by simp) ?_
      refine AllReadyH.cons rfl (fun K hK => ?_) AllReadyH.nil
      go_simp
      refine hK.out _ _ hz (fun _ => ?_)
      clear hK K hH h0 h1 hx hy hz m0 m1 mj ov hr9 o9 c9 at9 mN s9
      refine wpAnyH_done (by kernel_rfl) ?_ _
      go_wp2_with fail
      go_roundw
      case rel => exact ⟨j + 1, by omega, by go_num, FN.out⟩
      case measure => simp [intOf]; omega
    · have hjn : j = P.mn := by omega
      subst hjn
      have KB : (recsB P.mBI P.mn).length ≤ P.mn * 20 := recsB_len _ (fun i hi => by have q1 := (HP.out.em i (by omega)).1; have e1 := numB_ten q1; have e2 := numB_ten (u64_lt (P.ms i).us); simp only [Pg.mBI, Mk.bytesI, List.length_append]; omega)
      have k4 : wr.cell? ⟨X, 4, none⟩ = some (.slice P.va P.vn P.vc) := (B0.out.keep0 HB1.out.2.1).cell 4
      have LQ : (M0 ++ recsB P.mBI P.mn).length ≤ 21000000 := by simp; omega
      go_wp2_with fail
      refine Calls.mono (num_any P.vn (by omega) _) ?_
      rintro e w5 ⟨r5, rfl, m5⟩
      have MV : Hid (Made W w5 u3 (M0 ++ recsB P.mBI P.mn)) := ⟨HB1.out.1.kept (Chg.of_below m5.2.1 (fun _ => False)) (fun _ _ e => e), HB1.out.2.1.trans (m5.2.1.mono HB1.out.2.1.size), HB1.out.2.2⟩
      have SR : Hid _ := m5.1.src
      have k5 : w5.cell? ⟨X, 4, none⟩ = some (.slice P.va P.vn P.vc) := (B0.out.keep0 MV.out.2.1).cell 4
      clear m5 HB1 KB k4
      go_upto_region 8 with (refine wpList_app rfl (.tmp 46) (.tmp 51) rfl (v := u3) rfl rfl MV.out.1 SR.out (by omega) ?_; intro v6 w6 hv hch hat; have R6 : Hid _ := Made.app MV.out hv hch hat; clear hv hch hat)
      have k6 : w6.cell? ⟨X, 4, none⟩ = some (.slice P.va P.vn P.vc) := (B0.out.keep0 R6.out.2.1).cell 4
      obtain ⟨M1, hM1⟩ : ∃ M1, M1 = M0 ++ recsB P.mBI P.mn ++ numB P.vn := ⟨_, rfl⟩
      rw [← hM1] at R6
      have LM1 : M1.length ≤ 21000010 := by rw [hM1, List.length_append]; omega
      have HM1 : Hid _ := hM1
      clear hM1 MV SR k5 LQ
      go_wp2_with fail
      go_loopw [3, 56] (fun v i wr => ∃ j : Nat, j ≤ P.vn ∧ i = .int .i64 j ∧ Hid (Made W wr v (M1 ++ recsB P.vB j))) (fun _ i _ => P.vn - (intOf i).toNat)
      case atStart => exact ⟨0, Nat.zero_le _, rfl, by have h9 := R6.out; rw [show M1 ++ recsB P.vB 0 = M1 by simp [recsB]]; exact h9⟩
      case round =>
        obtain ⟨j, hj, rfl, hid⟩ := hrel
        have HB1 : Hid _ := hid.out
        clear hid
        by_cases hlt : j < P.vn
        · obtain ⟨k, hk⟩ : ∃ k, k = P.vs j := ⟨_, rfl⟩
          obtain ⟨g, o, hsa, hav, hrg⟩ := HP.out.vrow j hlt
          have kin := HP.out.vk j hlt
          have hrg : W.rangeAt g (o + j * 67) k.cells := by rw [hk]; exact hrg
          rw [← hk] at kin
          have hix := ix_at Try.underlying46 Try.elem46 Try.so128 (c := P.vc) hsa hlt
          have RG : Hid (wr.rangeAt g (o + j * 67) k.cells) := rangeAt_kept hrg (Chg.of_below HB1.out.2.1 (fun _ => False)) (fun e => e)
          have HKK : Hid _ := hk
          have A1 := kin.1
          have A2 := kin.2.1
          have A3 := kin.2.2.1
          have A4 := kin.2.2.2
          have n1' := numB_ten A1
          have n2' := numB_ten A3
          have KB : (recsB P.vB j).length ≤ j * 85 := recsB_len j (fun i hi => by have q1 := HP.out.vk i (by omega); have e1 := numB_ten q1.1; have e2 := numB_ten q1.2.2.1; have e3 := q1.2.1; have e4 := q1.2.2.2; simp only [Pg.vB, Vs.bytes, List.length_append]; omega)
          clear hrg hk hsa hav kin
          go_upto_region 11 with (first
            | refine wpList_load_mid rfl 116 (.tmp 58) rfl g (o + j * 67) rfl k.cells _ RG.out Try.underlying116 rfl (Try.vsSz k A2 A4) ?_
            | (refine wpList_store_part rfl 116 (.tmp 7) (.tmp 59) rfl wr.heap.size 0 k.cells rfl rfl (t := 116) ⟨heap_alloc_new _ _⟩ (by simp [Vs.cells, vsC, bs, A2, A4]) (Try.vsSz k A2 A4) (vsC_one _ _ _ _) ?_; intro wB hw8 hc8; rw [splice_all _ _ (by simp [Vs.cells, vsC, bs, A2, A4])] at hw8; have c8 : Chg (fun _ => False) wr wB := ((Chg.refl (fun _ => False) wr).alloc _).trans hc8 (fun i e => .inr (by omega)); have BK : Hid _ := hw8; have CB : Hid _ := c8; clear hw8 hc8 c8))
          obtain ⟨Lj, hLj⟩ : ∃ Lj, Lj = M1 ++ recsB P.vB j := ⟨_, rfl⟩
          have LLj : Lj.length ≤ M1.length + j * 85 := by rw [hLj, List.length_append]; omega
          have MB : Hid (Made W wB u3 Lj) := by rw [hLj]; exact ⟨HB1.out.1.kept CB.out (fun _ _ e => e), HB1.out.2.1.trans (CB.out.below HB1.out.2.1.size (fun _ e => e.elim)), HB1.out.2.2⟩
          have GT : Hid (∀ q, u3.ownBlock = some q → q < wr.heap.size) := fun q hq => HB1.out.1.lt hq
          have HLJ : Hid _ := hLj
          clear hLj hix HB1 RG CB
          refine wp_region_held_drew (S := fun w' => Blk w' wr.heap.size k.cells 116 ∧ Below W.heap.size W w') (by kernel_rfl) (⟨BK.out.drew, MB.out.2.1.drew⟩) (fun hH => ?_)
          refine wpAnyH_take (i := 0) (v := u3) rfl (by kernel_rfl) (by kernel_rfl) (by kernel_rfl) (fun _ _ _ h => h) (Or.inl ⟨by rfl, fun w' _ => by go_simp⟩) hH ?_
          refine wpAnyH_take (i := 1) (v := .pointer (some ⟨wr.heap.size, 0, none⟩)) rfl (by kernel_rfl) (by kernel_rfl) (by kernel_rfl) (fun _ _ _ h => h) (Or.inl ⟨by rfl, fun w' _ => by go_simp⟩) hH ?_
          refine wpAnyH_take (i := 2) (v := .int .u64 k.n) rfl (by kernel_rfl) (by kernel_rfl) (by kernel_rfl) (fun _ _ _ h => h) (Or.inl ⟨by rfl, fun w' hw' => by have h2 : w'.cell? ⟨wr.heap.size, 0, none⟩ = some (.int .u64 k.n) := Blk.cell hw'.1 0; go_simp⟩) hH ?_
          refine wpAnyH_take (i := 4) (v := .pointer (some ⟨wr.heap.size, 1, none⟩)) rfl (by kernel_rfl) (by kernel_rfl) (by kernel_rfl) (fun _ _ _ h => h) (Or.inl ⟨by rfl, fun w' _ => by go_simp⟩) hH ?_
          refine wpAnyH_take (i := 5) (v := .pointer (some ⟨wr.heap.size, 1, none⟩)) rfl (by kernel_rfl) (by kernel_rfl) (by kernel_rfl) (fun _ _ _ h => h) (Or.inl ⟨by rfl, fun w' _ => by go_simp⟩) hH ?_
          refine wpAnyH_take (i := 6) (v := .agg (bs k.x).toArray) rfl (by kernel_rfl) (by kernel_rfl) (by kernel_rfl) (fun _ _ _ h => h) (yieldsIf_load_mid (by rfl) _ _ rfl wr.heap.size 1 (by kernel_rfl) _ _ (fun w' hw' => Blk.range hw'.1 (k.x_at)) Try.underlying33 rfl (Try.addrSz k.x A2)) hH ?_
          refine wpAnyH_take (i := 8) (v := .pointer (some ⟨wr.heap.size, 1, none⟩)) rfl (by kernel_rfl) (by kernel_rfl) (by kernel_rfl) (fun _ _ _ h => h) (Or.inl ⟨by rfl, fun w' _ => by go_simp⟩) hH ?_
          refine wpAnyH_take (i := 9) (v := .pointer (some ⟨wr.heap.size, 34, none⟩)) rfl (by kernel_rfl) (by kernel_rfl) (by kernel_rfl) (fun _ _ _ h => h) (Or.inl ⟨by rfl, fun w' _ => by go_simp⟩) hH ?_
          refine wpAnyH_take (i := 10) (v := .int .u64 k.c) rfl (by kernel_rfl) (by kernel_rfl) (by kernel_rfl) (fun _ _ _ h => h) (Or.inl ⟨by rfl, fun w' hw' => by have h2 : w'.cell? ⟨wr.heap.size, 34, none⟩ = some (.int .u64 k.c) := (by rw [Blk.cell hw'.1]; exact k.c_at A2); go_simp⟩) hH ?_
          refine wpAnyH_take (i := 12) (v := .pointer (some ⟨wr.heap.size, 1, none⟩)) rfl (by kernel_rfl) (by kernel_rfl) (by kernel_rfl) (fun _ _ _ h => h) (Or.inl ⟨by rfl, fun w' _ => by go_simp⟩) hH ?_
          refine wpAnyH_take (i := 13) (v := .pointer (some ⟨wr.heap.size, 35, none⟩)) rfl (by kernel_rfl) (by kernel_rfl) (by kernel_rfl) (fun _ _ _ h => h) (Or.inl ⟨by rfl, fun w' _ => by go_simp⟩) hH ?_
          refine wpAnyH_take (i := 14) (v := .agg (bs k.y).toArray) rfl (by kernel_rfl) (by kernel_rfl) (by kernel_rfl) (fun _ _ _ h => h) (yieldsIf_load_mid (by rfl) _ _ rfl wr.heap.size 35 (by kernel_rfl) _ _ (fun w' hw' => Blk.range hw'.1 (k.y_at A2)) Try.underlying31 rfl (Try.sumSz' k.y A4)) hH ?_
          refine wpAnyH_ready (rs := [3]) (by kernel_rfl) (by simp) ?_
          refine AllReadyH.cons rfl (fun K hK => ?_) AllReadyH.nil
          go_simp
          refine Calls.mono (num_any k.n A1 _) ?_
          rintro e q0 ⟨r0, rfl, m0⟩
          refine hK.out _ _ (⟨hH.1.keep0 (m0.2.1), hH.2.trans ((m0.2.1).mono hH.2.size)⟩) (fun h0 => ?_)
          clear hK K
          obtain ⟨b0, c0, hv⟩ := m0.1.form
          obtain ⟨n0, hn⟩ : ∃ nn : Nat, nn = (numB k.n).length := ⟨_, rfl⟩
          rw [← hn] at hv
          subst hv
          clear hn
          refine wpAnyH_ready (rs := [7]) (by kernel_rfl) (by simp) ?_
          refine AllReadyH.cons rfl (fun K hK => ?_) AllReadyH.nil
          go_simp
          refine Calls.mono (xaddrY k.x A2) ?_
          rintro e q1 ⟨r1, rfl, m1⟩
          refine hK.out _ _ (⟨h0.1.keep0 (m1.2.1), h0.2.trans ((m1.2.1).mono h0.2.size)⟩) (fun h1 => ?_)
          clear hK K
          obtain ⟨b1, c1, hv⟩ := m1.1.form
          obtain ⟨n1, hn⟩ : ∃ nn : Nat, nn = (k.x).length := ⟨_, rfl⟩
          rw [← hn] at hv
          subst hv
          clear hn
          refine wpAnyH_ready (rs := [11]) (by kernel_rfl) (by simp) ?_
          refine AllReadyH.cons rfl (fun K hK => ?_) AllReadyH.nil
          go_simp
          refine Calls.mono (num_any k.c A3 _) ?_
          rintro e q2 ⟨r2, rfl, m2⟩
          refine hK.out _ _ (⟨h1.1.keep0 (m2.2.1), h1.2.trans ((m2.2.1).mono h1.2.size)⟩) (fun h2 => ?_)
          clear hK K
          obtain ⟨b2, c2, hv⟩ := m2.1.form
          obtain ⟨n2, hn⟩ : ∃ nn : Nat, nn = (numB k.c).length := ⟨_, rfl⟩
          rw [← hn] at hv
          subst hv
          clear hn
          refine wpAnyH_ready (rs := [15]) (by kernel_rfl) (by simp) ?_
          refine AllReadyH.cons rfl (fun K hK => ?_) AllReadyH.nil
          go_simp
          refine Calls.mono (xsum_any k.y A4) ?_
          rintro e q3 ⟨r3, rfl, m3⟩
          refine hK.out _ _ (⟨h2.1.keep0 (m3.2.1), h2.2.trans ((m3.2.1).mono h2.2.size)⟩) (fun h3 => ?_)
          clear hK K
          obtain ⟨b3, c3, hv⟩ := m3.1.form
          obtain ⟨n3, hn⟩ : ∃ nn : Nat, nn = (k.y).length := ⟨_, rfl⟩
          rw [← hn] at hv
          subst hv
          clear hn
          have hsrc : ∀ i, i < 4 → Src q3 ((fun i => match i with | 0 => Value.slice b0 n0 c0 | 1 => Value.slice b1 n1 c1 | 2 => Value.slice b2 n2 c2 | _ => Value.slice b3 n3 c3) i) ((fun i => match i with | 0 => numB k.n | 1 => k.x | 2 => numB k.c | _ => k.y) i) := by
            intro i hi
            match i, hi with
            | 0, _ => exact (((m0.1.src).kept0 m1.2.1).kept0 m2.2.1).kept0 m3.2.1
            | 1, _ => exact ((m1.1.src).kept0 m2.2.1).kept0 m3.2.1
            | 2, _ => exact (m2.1.src).kept0 m3.2.1
            | 3, _ => exact m3.1.src
          refine wpAnyH_ready (rs := [16]) (by kernel_rfl) (by simp) ?_
          refine AllReadyH.cons rfl (fun K hK => ?_) AllReadyH.nil
          go_simp
          refine hK.out _ _ (⟨h3.1.alloc _, h3.2.alloc h3.2.size _⟩) (fun hx => ?_)
          clear hK K
          refine wpAnyH_ready (rs := [17]) (by kernel_rfl) (by simp) ?_
          refine AllReadyH.cons rfl (fun K hK => ?_) AllReadyH.nil
          go_simp
          refine Calls.mono (join_any (pieces_newY (fun i hi => by match i, hi with | 0, _ => rfl | 1, _ => rfl | 2, _ => rfl | 3, _ => rfl) hsrc) (by decide) (by
            intro k hk
            match k, hk with | 0, _ => simp [flat]; try omega | 1, _ => simp [flat]; try omega | 2, _ => simp [flat]; try omega | 3, _ => simp [flat]; try omega | 4, _ => simp [flat]; try omega)) ?_
          rintro e wj ⟨vj, rfl, mj⟩
          have e2 : flat (fun i => match i with | 0 => numB k.n | 1 => k.x | 2 => numB k.c | _ => k.y) 4 = numB k.n ++ k.x ++ numB k.c ++ k.y := by simp [flat]
          rw [e2] at mj
          refine hK.out _ _ (⟨hx.1.keep0 (mj.2.1), hx.2.trans ((mj.2.1).mono hx.2.size)⟩) (fun hy => ?_)
          clear hK K hsrc e2
          have ov : Own wj u3 Lj := (((((((show Own wB.drew u3 Lj from MB.out.1)).kept (Chg.of_below m0.2.1 (fun _ => False)) (fun _ _ e => e)).kept (Chg.of_below m1.2.1 (fun _ => False)) (fun _ _ e => e)).kept (Chg.of_below m2.2.1 (fun _ => False)) (fun _ _ e => e)).kept (Chg.of_below m3.2.1 (fun _ => False)) (fun _ _ e => e)).alloc _).kept (Chg.of_below mj.2.1 (fun _ => False)) (fun _ _ e => e)
          obtain ⟨v9, w9, hr9, o9, c9, at9⟩ := run_app wj 23 ov mj.1.src (by simp; omega)
          have mN := Made.app (w := W) ⟨ov, hy.2, MB.out.2.2⟩ o9 c9 at9
          have HR9 : Hid _ := hr9
          have s9 : Blk w9 wr.heap.size k.cells 116 ∧ Below W.heap.size W w9 := ⟨hy.1.keep c9 (fun e => by have := GT.out _ e.symm; omega), mN.2.1⟩
          have FN : Hid (Made W w9 v9 (M1 ++ recsB P.vB (j + 1))) := by
            have e : M1 ++ recsB P.vB (j + 1) = Lj ++ (numB k.n ++ k.x ++ numB k.c ++ k.y) := by
              rw [HLJ.out, recsB, Pg.vB, ← HKK.out, Vs.bytes]
              simp
            rw [e]
            exact mN
          refine wpAnyH_ready (rs := [18]) (by kernel_rfl) (by simp) ?_
          refine AllReadyH.cons rfl (fun K hK => ?_) AllReadyH.nil
          refine step_appY rfl (.tmp 60) (.tmp 77) rfl (v := u3) (u := vj) (by kernel_rfl) (by kernel_rfl) HR9.out ?_
          refine hK.out _ _ s9 (fun hz => ?_)
          clear hK K
          refine wpAnyH_ready (rs := [19]) (by kernel_rfl) (by simp) ?_
          refine AllReadyH.cons rfl (fun K hK => ?_) AllReadyH.nil
          go_simp
          refine hK.out _ _ hz (fun _ => ?_)
          clear hK K hH h0 h1 h2 h3 hx hy hz m0 m1 m2 m3 mj ov hr9 o9 c9 at9 mN s9
          refine wpAnyH_done (by kernel_rfl) ?_ _
          go_wp2_with fail
          go_roundw
          case rel => exact ⟨j + 1, by omega, by go_num, FN.out⟩
          case measure => simp [intOf]; omega
        · have hjn : j = P.vn := by omega
          subst hjn
          have KB : (recsB P.vB P.vn).length ≤ P.vn * 85 := recsB_len _ (fun i hi => by have q1 := HP.out.vk i (by omega); have e1 := numB_ten q1.1; have e2 := numB_ten q1.2.2.1; have e3 := q1.2.1; have e4 := q1.2.2.2; simp only [Pg.vB, Vs.bytes, List.length_append]; omega)
          obtain ⟨Lj, hLj⟩ : ∃ Lj, Lj = M1 ++ recsB P.vB P.vn := ⟨_, rfl⟩
          have LLj : Lj.length ≤ 110200000 := by rw [hLj, List.length_append]; omega
          rw [← hLj] at HB1
          have HLJ : Hid _ := hLj
          have OB := HB1.out.1
          have FB : Hid _ := HB1.out.2.2
          clear hLj KB
          go_upto_region 13 with fail
          refine wp_region_held_drew (S := fun w' => Below W.heap.size W w') (by kernel_rfl) (HB1.out.2.1.drew) (fun hH => ?_)
          refine wpAnyH_take (i := 0) (v := u3) rfl (by kernel_rfl) (by kernel_rfl) (by kernel_rfl) (fun _ _ _ h => h) (Or.inl ⟨by rfl, fun w' _ => by go_simp⟩) hH ?_
          refine wpAnyH_take (i := 1) (v := .pointer (some ⟨X, 5, none⟩)) rfl (by kernel_rfl) (by kernel_rfl) (by kernel_rfl) (fun _ _ _ h => h) (Or.inl ⟨by rfl, fun w' _ => by go_simp⟩) hH ?_
          refine wpAnyH_take (i := 2) (v := .pointer (some ⟨X, 5, none⟩)) rfl (by kernel_rfl) (by kernel_rfl) (by kernel_rfl) (fun _ _ _ h => h) (Or.inl ⟨by rfl, fun w' _ => by go_simp⟩) hH ?_
          refine wpAnyH_take (i := 3) (v := .int .u64 P.sz) rfl (by kernel_rfl) (by kernel_rfl) (by kernel_rfl) (fun _ _ _ h => h) (Or.inl ⟨by rfl, fun w' hw' => by have h2 : w'.cell? ⟨X, 5, none⟩ = some (.int .u64 P.sz) := Blk.cell (Blk.keep0 B0.out hw') 5; go_simp⟩) hH ?_
          refine wpAnyH_take (i := 5) (v := .pointer (some ⟨X, 5, none⟩)) rfl (by kernel_rfl) (by kernel_rfl) (by kernel_rfl) (fun _ _ _ h => h) (Or.inl ⟨by rfl, fun w' _ => by go_simp⟩) hH ?_
          refine wpAnyH_take (i := 6) (v := .pointer (some ⟨X, 6, none⟩)) rfl (by kernel_rfl) (by kernel_rfl) (by kernel_rfl) (fun _ _ _ h => h) (Or.inl ⟨by rfl, fun w' _ => by go_simp⟩) hH ?_
          refine wpAnyH_take (i := 7) (v := .slice P.pa P.pn P.pc) rfl (by kernel_rfl) (by kernel_rfl) (by kernel_rfl) (fun _ _ _ h => h) (Or.inl ⟨by rfl, fun w' hw' => by have h2 : w'.cell? ⟨X, 6, none⟩ = some (.slice P.pa P.pn P.pc) := Blk.cell (Blk.keep0 B0.out hw') 6; go_simp⟩) hH ?_
          refine wpAnyH_take (i := 8) (v := .int .i64 (P.pn : Int)) rfl (by kernel_rfl) (by kernel_rfl) (by kernel_rfl) (fun _ _ _ h => h) (Or.inl ⟨by rfl, fun w' _ => by go_simp⟩) hH ?_
          refine wpAnyH_take (i := 9) (v := .int .u64 (P.pn : Int)) rfl (by kernel_rfl) (by kernel_rfl) (by kernel_rfl) (fun _ _ _ h => h) (Or.inl ⟨by rfl, fun w' _ => by go_simp⟩) hH ?_
          refine wpAnyH_ready (rs := [4]) (by kernel_rfl) (by simp) ?_
          refine AllReadyH.cons rfl (fun K hK => ?_) AllReadyH.nil
          go_simp
          refine Calls.mono (num_any P.sz SZ _) ?_
          rintro e q0 ⟨r0, rfl, m0⟩
          refine hK.out _ _ (hH.trans ((m0.2.1).mono hH.size)) (fun h0 => ?_)
          clear hK K
          obtain ⟨b0, c0, hv⟩ := m0.1.form
          obtain ⟨n0, hn⟩ : ∃ nn : Nat, nn = (numB P.sz).length := ⟨_, rfl⟩
          rw [← hn] at hv
          subst hv
          clear hn
          refine wpAnyH_ready (rs := [10]) (by kernel_rfl) (by simp) ?_
          refine AllReadyH.cons rfl (fun K hK => ?_) AllReadyH.nil
          go_simp
          refine Calls.mono (num_any P.pn (by omega) _) ?_
          rintro e q1 ⟨r1, rfl, m1⟩
          refine hK.out _ _ (h0.trans ((m1.2.1).mono h0.size)) (fun h1 => ?_)
          clear hK K
          obtain ⟨b1, c1, hv⟩ := m1.1.form
          obtain ⟨n1, hn⟩ : ∃ nn : Nat, nn = (numB P.pn).length := ⟨_, rfl⟩
          rw [← hn] at hv
          subst hv
          clear hn
          have hsrc : ∀ i, i < 2 → Src q1 ((fun i => match i with | 0 => Value.slice b0 n0 c0 | _ => Value.slice b1 n1 c1) i) ((fun i => match i with | 0 => numB P.sz | _ => numB P.pn) i) := by
            intro i hi
            match i, hi with
            | 0, _ => exact (m0.1.src).kept0 m1.2.1
            | 1, _ => exact m1.1.src
          refine wpAnyH_ready (rs := [11]) (by kernel_rfl) (by simp) ?_
          refine AllReadyH.cons rfl (fun K hK => ?_) AllReadyH.nil
          go_simp
          refine hK.out _ _ (h1.alloc h1.size _) (fun hx => ?_)
          clear hK K
          refine wpAnyH_ready (rs := [12]) (by kernel_rfl) (by simp) ?_
          refine AllReadyH.cons rfl (fun K hK => ?_) AllReadyH.nil
          go_simp
          refine Calls.mono (join_any (pieces_newY (fun i hi => by match i, hi with | 0, _ => rfl | 1, _ => rfl) hsrc) (by decide) (by
            intro k hk
            match k, hk with | 0, _ => simp [flat]; try omega | 1, _ => simp [flat]; try omega | 2, _ => simp [flat]; try omega)) ?_
          rintro e wj ⟨vj, rfl, mj⟩
          have e2 : flat (fun i => match i with | 0 => numB P.sz | _ => numB P.pn) 2 = numB P.sz ++ numB P.pn := by simp [flat]
          rw [e2] at mj
          refine hK.out _ _ (hx.trans ((mj.2.1).mono hx.size)) (fun hy => ?_)
          clear hK K hsrc e2
          have ov : Own wj u3 Lj := (((((show Own wr.drew u3 Lj from OB)).kept (Chg.of_below m0.2.1 (fun _ => False)) (fun _ _ e => e)).kept (Chg.of_below m1.2.1 (fun _ => False)) (fun _ _ e => e)).alloc _).kept (Chg.of_below mj.2.1 (fun _ => False)) (fun _ _ e => e)
          obtain ⟨v9, w9, hr9, o9, c9, at9⟩ := run_app wj 23 ov mj.1.src (by simp; omega)
          have mN := Made.app (w := W) ⟨ov, hy, FB.out⟩ o9 c9 at9
          have HR9 : Hid _ := hr9
          have R7 : Hid (Made W w9 v9 (Lj ++ (numB P.sz ++ numB P.pn))) := mN
          refine wpAnyH_ready (rs := [13]) (by kernel_rfl) (by simp) ?_
          refine AllReadyH.cons rfl (fun K hK => ?_) AllReadyH.nil
          refine step_appY rfl (.tmp 80) (.tmp 92) rfl (v := u3) (u := vj) (by kernel_rfl) (by kernel_rfl) HR9.out ?_
          refine hK.out _ _ mN.2.1 (fun hz => ?_)
          clear hK K
          refine wpAnyH_ready (rs := [14]) (by kernel_rfl) (by simp) ?_
          refine AllReadyH.cons rfl (fun K hK => ?_) AllReadyH.nil
          go_simp
          refine hK.out _ _ hz (fun _ => ?_)
          clear hK K hH h0 h1 hx hy hz m0 m1 mj ov hr9 o9 c9 at9 mN OB HB1
          refine wpAnyH_done (by kernel_rfl) ?_ _
          obtain ⟨M2, hM2⟩ : ∃ M2, M2 = Lj ++ (numB P.sz ++ numB P.pn) := ⟨_, rfl⟩
          rw [← hM2] at R7
          have LM2 : M2.length ≤ 110200020 := by rw [hM2]; simp; omega
          have HM2 : Hid _ := hM2
          clear hM2
          have k7 : w9.cell? ⟨X, 6, none⟩ = some (.slice P.pa P.pn P.pc) := (B0.out.keep0 R7.out.2.1).cell 6
          go_wp2_with fail
          go_loopw [3, 98] (fun v i wr => ∃ j : Nat, j ≤ P.pn ∧ i = .int .i64 j ∧ Hid (Made W wr v (M2 ++ recsB P.pB j))) (fun _ i _ => P.pn - (intOf i).toNat)
          case atStart => exact ⟨0, Nat.zero_le _, rfl, by have h9 := R7.out; rw [show M2 ++ recsB P.pB 0 = M2 by simp [recsB]]; exact h9⟩
          case round =>
            obtain ⟨j, hj, rfl, hid⟩ := hrel
            have HB1 : Hid _ := hid.out
            clear hid
            by_cases hlt : j < P.pn
            · obtain ⟨k, hk⟩ : ∃ k, k = P.ps j := ⟨_, rfl⟩
              obtain ⟨g, o, hsa, hav, hrg⟩ := HP.out.prow j hlt
              have kin := HP.out.pk j hlt
              have hrg : W.rangeAt g (o + j * 66) k.cells := by rw [hk]; exact hrg
              rw [← hk] at kin
              have hix := ix_at Try.underlying47 Try.elem47 Try.so130 (c := P.pc) hsa hlt
              have RG : Hid (wr.rangeAt g (o + j * 66) k.cells) := rangeAt_kept hrg (Chg.of_below HB1.out.2.1 (fun _ => False)) (fun e => e)
              have HKK : Hid _ := hk
              have A1 := kin.1
              have A2 := kin.2.1
              have A4 := kin.2.2
              have n1' := numB_ten A1
              have KB : (recsB P.pB j).length ≤ j * 75 := recsB_len j (fun i hi => by have q1 := HP.out.pk i (by omega); have e1 := numB_ten q1.1; have e3 := q1.2.1; have e4 := q1.2.2; simp only [Pg.pB, Pk.bytes, List.length_append]; omega)
              clear hrg hk hsa hav kin
              go_upto_region 17 with (first
                | refine wpList_load_mid rfl 129 (.tmp 100) rfl g (o + j * 66) rfl k.cells _ RG.out Try.underlying129 rfl (Try.pkSz k A2 A4) ?_
                | (refine wpList_store_part rfl 129 (.tmp 9) (.tmp 101) rfl wr.heap.size 0 k.cells rfl rfl (t := 129) ⟨heap_alloc_new _ _⟩ (by simp [Pk.cells, leafC, bs, A2, A4]) (Try.pkSz k A2 A4) (leafC_one _ _) ?_; intro wB hw8 hc8; rw [splice_all _ _ (by simp [Pk.cells, leafC, bs, A2, A4])] at hw8; have c8 : Chg (fun _ => False) wr wB := ((Chg.refl (fun _ => False) wr).alloc _).trans hc8 (fun i e => .inr (by omega)); have BK : Hid _ := hw8; have CB : Hid _ := c8; clear hw8 hc8 c8))
              obtain ⟨Lj, hLj⟩ : ∃ Lj, Lj = M2 ++ recsB P.pB j := ⟨_, rfl⟩
              have LLj : Lj.length ≤ M2.length + j * 75 := by rw [hLj, List.length_append]; omega
              have MB : Hid (Made W wB u3 Lj) := by rw [hLj]; exact ⟨HB1.out.1.kept CB.out (fun _ _ e => e), HB1.out.2.1.trans (CB.out.below HB1.out.2.1.size (fun _ e => e.elim)), HB1.out.2.2⟩
              have GT : Hid (∀ q, u3.ownBlock = some q → q < wr.heap.size) := fun q hq => HB1.out.1.lt hq
              have HLJ : Hid _ := hLj
              clear hLj hix HB1 RG CB
              refine wp_region_held_drew (S := fun w' => Blk w' wr.heap.size k.cells 129 ∧ Below W.heap.size W w') (by kernel_rfl) (⟨BK.out.drew, MB.out.2.1.drew⟩) (fun hH => ?_)
              refine wpAnyH_take (i := 0) (v := u3) rfl (by kernel_rfl) (by kernel_rfl) (by kernel_rfl) (fun _ _ _ h => h) (Or.inl ⟨by rfl, fun w' _ => by go_simp⟩) hH ?_
              refine wpAnyH_take (i := 1) (v := .pointer (some ⟨wr.heap.size, 0, none⟩)) rfl (by kernel_rfl) (by kernel_rfl) (by kernel_rfl) (fun _ _ _ h => h) (Or.inl ⟨by rfl, fun w' _ => by go_simp⟩) hH ?_
              refine wpAnyH_take (i := 2) (v := .int .u64 k.n) rfl (by kernel_rfl) (by kernel_rfl) (by kernel_rfl) (fun _ _ _ h => h) (Or.inl ⟨by rfl, fun w' hw' => by have h2 : w'.cell? ⟨wr.heap.size, 0, none⟩ = some (.int .u64 k.n) := Blk.cell hw'.1 0; go_simp⟩) hH ?_
              refine wpAnyH_take (i := 4) (v := .pointer (some ⟨wr.heap.size, 1, none⟩)) rfl (by kernel_rfl) (by kernel_rfl) (by kernel_rfl) (fun _ _ _ h => h) (Or.inl ⟨by rfl, fun w' _ => by go_simp⟩) hH ?_
              refine wpAnyH_take (i := 5) (v := .pointer (some ⟨wr.heap.size, 1, none⟩)) rfl (by kernel_rfl) (by kernel_rfl) (by kernel_rfl) (fun _ _ _ h => h) (Or.inl ⟨by rfl, fun w' _ => by go_simp⟩) hH ?_
              refine wpAnyH_take (i := 6) (v := .agg (bs k.x).toArray) rfl (by kernel_rfl) (by kernel_rfl) (by kernel_rfl) (fun _ _ _ h => h) (yieldsIf_load_mid (by rfl) _ _ rfl wr.heap.size 1 (by kernel_rfl) _ _ (fun w' hw' => Blk.range hw'.1 (k.x_atY)) Try.underlying33 rfl (Try.addrSz k.x A2)) hH ?_
              refine wpAnyH_take (i := 8) (v := .pointer (some ⟨wr.heap.size, 1, none⟩)) rfl (by kernel_rfl) (by kernel_rfl) (by kernel_rfl) (fun _ _ _ h => h) (Or.inl ⟨by rfl, fun w' _ => by go_simp⟩) hH ?_
              refine wpAnyH_take (i := 9) (v := .pointer (some ⟨wr.heap.size, 34, none⟩)) rfl (by kernel_rfl) (by kernel_rfl) (by kernel_rfl) (fun _ _ _ h => h) (Or.inl ⟨by rfl, fun w' _ => by go_simp⟩) hH ?_
              refine wpAnyH_take (i := 10) (v := .agg (bs k.y).toArray) rfl (by kernel_rfl) (by kernel_rfl) (by kernel_rfl) (fun _ _ _ h => h) (yieldsIf_load_mid (by rfl) _ _ rfl wr.heap.size 34 (by kernel_rfl) _ _ (fun w' hw' => Blk.range hw'.1 (k.y_atY A2)) Try.underlying31 rfl (Try.sumSz' k.y A4)) hH ?_
              refine wpAnyH_ready (rs := [3]) (by kernel_rfl) (by simp) ?_
              refine AllReadyH.cons rfl (fun K hK => ?_) AllReadyH.nil
              go_simp
              refine Calls.mono (num_any k.n A1 _) ?_
              rintro e q0 ⟨r0, rfl, m0⟩
              refine hK.out _ _ (⟨hH.1.keep0 (m0.2.1), hH.2.trans ((m0.2.1).mono hH.2.size)⟩) (fun h0 => ?_)
              clear hK K
              obtain ⟨b0, c0, hv⟩ := m0.1.form
              obtain ⟨n0, hn⟩ : ∃ nn : Nat, nn = (numB k.n).length := ⟨_, rfl⟩
              rw [← hn] at hv
              subst hv
              clear hn
              refine wpAnyH_ready (rs := [7]) (by kernel_rfl) (by simp) ?_
              refine AllReadyH.cons rfl (fun K hK => ?_) AllReadyH.nil
              go_simp
              refine Calls.mono (xaddrY k.x A2) ?_
              rintro e q1 ⟨r1, rfl, m1⟩
              refine hK.out _ _ (⟨h0.1.keep0 (m1.2.1), h0.2.trans ((m1.2.1).mono h0.2.size)⟩) (fun h1 => ?_)
              clear hK K
              obtain ⟨b1, c1, hv⟩ := m1.1.form
              obtain ⟨n1, hn⟩ : ∃ nn : Nat, nn = (k.x).length := ⟨_, rfl⟩
              rw [← hn] at hv
              subst hv
              clear hn
              refine wpAnyH_ready (rs := [11]) (by kernel_rfl) (by simp) ?_
              refine AllReadyH.cons rfl (fun K hK => ?_) AllReadyH.nil
              go_simp
              refine Calls.mono (xsum_any k.y A4) ?_
              rintro e q2 ⟨r2, rfl, m2⟩
              refine hK.out _ _ (⟨h1.1.keep0 (m2.2.1), h1.2.trans ((m2.2.1).mono h1.2.size)⟩) (fun h2 => ?_)
              clear hK K
              obtain ⟨b2, c2, hv⟩ := m2.1.form
              obtain ⟨n2, hn⟩ : ∃ nn : Nat, nn = (k.y).length := ⟨_, rfl⟩
              rw [← hn] at hv
              subst hv
              clear hn
              have hsrc : ∀ i, i < 3 → Src q2 ((fun i => match i with | 0 => Value.slice b0 n0 c0 | 1 => Value.slice b1 n1 c1 | _ => Value.slice b2 n2 c2) i) ((fun i => match i with | 0 => numB k.n | 1 => k.x | _ => k.y) i) := by
                intro i hi
                match i, hi with
                | 0, _ => exact ((m0.1.src).kept0 m1.2.1).kept0 m2.2.1
                | 1, _ => exact (m1.1.src).kept0 m2.2.1
                | 2, _ => exact m2.1.src
              refine wpAnyH_ready (rs := [12]) (by kernel_rfl) (by simp) ?_
              refine AllReadyH.cons rfl (fun K hK => ?_) AllReadyH.nil
              go_simp
              refine hK.out _ _ (⟨h2.1.alloc _, h2.2.alloc h2.2.size _⟩) (fun hx => ?_)
              clear hK K
              refine wpAnyH_ready (rs := [13]) (by kernel_rfl) (by simp) ?_
              refine AllReadyH.cons rfl (fun K hK => ?_) AllReadyH.nil
              go_simp
              refine Calls.mono (join_any (pieces_newY (fun i hi => by match i, hi with | 0, _ => rfl | 1, _ => rfl | 2, _ => rfl) hsrc) (by decide) (by
                intro k hk
                match k, hk with | 0, _ => simp [flat]; try omega | 1, _ => simp [flat]; try omega | 2, _ => simp [flat]; try omega | 3, _ => simp [flat]; try omega)) ?_
              rintro e wj ⟨vj, rfl, mj⟩
              have e2 : flat (fun i => match i with | 0 => numB k.n | 1 => k.x | _ => k.y) 3 = numB k.n ++ k.x ++ k.y := by simp [flat]
              rw [e2] at mj
              refine hK.out _ _ (⟨hx.1.keep0 (mj.2.1), hx.2.trans ((mj.2.1).mono hx.2.size)⟩) (fun hy => ?_)
              clear hK K hsrc e2
              have ov : Own wj u3 Lj := ((((((show Own wB.drew u3 Lj from MB.out.1)).kept (Chg.of_below m0.2.1 (fun _ => False)) (fun _ _ e => e)).kept (Chg.of_below m1.2.1 (fun _ => False)) (fun _ _ e => e)).kept (Chg.of_below m2.2.1 (fun _ => False)) (fun _ _ e => e)).alloc _).kept (Chg.of_below mj.2.1 (fun _ => False)) (fun _ _ e => e)
              obtain ⟨v9, w9, hr9, o9, c9, at9⟩ := run_app wj 23 ov mj.1.src (by simp; omega)
              have mN := Made.app (w := W) ⟨ov, hy.2, MB.out.2.2⟩ o9 c9 at9
              have HR9 : Hid _ := hr9
              have s9 : Blk w9 wr.heap.size k.cells 129 ∧ Below W.heap.size W w9 := ⟨hy.1.keep c9 (fun e => by have := GT.out _ e.symm; omega), mN.2.1⟩
              have FN : Hid (Made W w9 v9 (M2 ++ recsB P.pB (j + 1))) := by
                have e : M2 ++ recsB P.pB (j + 1) = Lj ++ (numB k.n ++ k.x ++ k.y) := by
                  rw [HLJ.out, recsB, Pg.pB, ← HKK.out, Pk.bytes]
                  simp
                rw [e]
                exact mN
              refine wpAnyH_ready (rs := [14]) (by kernel_rfl) (by simp) ?_
              refine AllReadyH.cons rfl (fun K hK => ?_) AllReadyH.nil
              refine step_appY rfl (.tmp 102) (.tmp 115) rfl (v := u3) (u := vj) (by kernel_rfl) (by kernel_rfl) HR9.out ?_
              refine hK.out _ _ s9 (fun hz => ?_)
              clear hK K
              refine wpAnyH_ready (rs := [15]) (by kernel_rfl) (by simp) ?_
              refine AllReadyH.cons rfl (fun K hK => ?_) AllReadyH.nil
              go_simp
              refine hK.out _ _ hz (fun _ => ?_)
              clear hK K hH h0 h1 h2 hx hy hz m0 m1 m2 mj ov hr9 o9 c9 at9 mN s9
              refine wpAnyH_done (by kernel_rfl) ?_ _
              go_wp2_with fail
              go_roundw
              case rel => exact ⟨j + 1, by omega, by go_num, FN.out⟩
              case measure => simp [intOf]; omega
            · have hjn : j = P.pn := by omega
              subst hjn
              have F : Hid (Made w wr u3 P.bytesI) := by
                have e : P.bytesI = M2 ++ recsB P.pB P.pn := by
                  rw [HM2.out, HLJ.out, HM1.out, HM0.out, HU.out, Pg.bytesI]
                  simp
                rw [e]
                exact Made.upY HB1.out HB.out
              go_wp2_with fail
              go_ret
              exact ⟨_, rfl, F.out⟩
end Go.Proofs.Ytfkjgfelgiogeaa
