/-
  The ledger, exactly: whole.
-/
import Derived.Test.YtddnecfnjnipjaaLxD
namespace Go.Proofs.Ytddnecfnjnipjaa
open Go.RowKit

theorem drewN_chg3 (w : World) (n : Nat) : Chg (fun _ => False) w (w.drewN n) := ⟨rfl, rfl, rfl, Nat.le_refl _, fun _ _ _ => rfl⟩
theorem Sn.at {w : World} {a : Option Addr} {n c : Nat} {x : Int} (h : Sn w (.slice a n c) n x) {q : Nat} (hq : q < n) : ∃ g, a = some ⟨g, 0, none⟩ ∧ w.cell? ⟨g, q, none⟩ = some (.int .i64 x) := by
  rcases h with ⟨_, h0⟩ | ⟨g, c', e, hc⟩
  · omega
  · injection e with e1 _ _
    exact ⟨g, e1, hc q hq⟩
theorem Sn.form {w : World} {v : Value} {n : Nat} {x : Int} (h : Sn w v n x) : ∃ a c, v = .slice a n c := by
  rcases h with ⟨e, h0⟩ | ⟨g, c', e, _⟩
  · exact ⟨_, _, by rw [e, h0]⟩
  · exact ⟨_, _, e⟩

/-- What whole looks at. -/
structure Lh (w : World) (lg : Nat) (a p c d : Value) (t : Int) (na np nc : Nat) (X Y C D : List Value) : Prop where
  row : Rw w lg (lrow a p c d t) 41
  ra : SX w 48 a na X
  rp : SX w 99 p np Y
  rc : SX w 48 c nc C
  rd : SX w 48 d nc D
  sm : na ≤ 4398046511104 ∧ np ≤ 4398046511104 ∧ nc ≤ 17592186044416
  x : ∀ (i : Nat) (v : Value), X[i]? = some v → ∃ n, n ≤ 16777307 ∧ Src w v (marks (i / 2) n)
  y : ∀ (i : Nat) (v : Value), Y[i]? = some v → ∃ n, n ≤ 4398046511105 ∧ Sn w v n (-1 - ((i / 2 : Nat) : Int))
  cd : ∀ (i : Nat) (v u : Value), C[i]? = some v → D[i]? = some u → ∃ l, l.length ≤ 16777307 ∧ Src w v l ∧ Src w u l
theorem Lg.lh {w : World} {lg : Nat} {Bl : Nat → Prop} {k : Nat} {a p c d : Value} {t na np nc nd : Nat} {X Y C D : List Value} (h : Lg w lg Bl k a p c d t na np nc nd X Y C D) (hk : k ≤ 2199023255552) : Lh w lg a p c d t na np nc X Y C D := by
  have hcd : nd = nc := by rw [h.rc.1, h.rd.1]; exact h.hold.len.symm
  have hd := h.rd
  rw [hcd] at hd
  have hl := h.ln
  refine ⟨h.row, h.ra, h.rp, h.rc, hd, by omega, fun i v hi => (h.hold.x i v hi).2, fun i v hi => (h.hold.y i v hi).2, fun i v u hi hj => ?_⟩
  obtain ⟨_, _, l, hl, o1, o2⟩ := h.hold.cd i v u hi hj
  exact ⟨l, by omega, Own.src o1, Own.src o2⟩

set_option maxRecDepth 100000 in
set_option maxHeartbeats 8000000 in
theorem Lh.whole {w : World} {lg : Nat} {a p c d : Value} {t : Int} {na np nc : Nat} {X Y C D : List Value} (h : Lh w lg a p c d t na np nc X Y C D) :
    Calls Try.prog 17 #[.pointer (some ⟨lg, 0, none⟩)] w fun e w' => e = .returned (.bool true) ∧ ∃ m, w' = w.drewN m := by
  obtain ⟨aa, ac, haf⟩ := h.ra.form
  obtain ⟨pa, pc, hpf⟩ := h.rp.form
  obtain ⟨ca, cc, hcf⟩ := h.rc.form
  obtain ⟨da, dc, hdf⟩ := h.rd.form
  have c0 : w.cell? ⟨lg, 0, none⟩ = some (.slice aa na ac) := by rw [← haf]; exact h.row.cell 0
  have c1 : w.cell? ⟨lg, 1, none⟩ = some (.slice pa np pc) := by rw [← hpf]; exact h.row.cell 1
  have c2 : w.cell? ⟨lg, 2, none⟩ = some (.slice ca nc cc) := by rw [← hcf]; exact h.row.cell 2
  have c3 : w.cell? ⟨lg, 3, none⟩ = some (.slice da nc dc) := by rw [← hdf]; exact h.row.cell 3
  have hna := h.sm.1
  have hnp := h.sm.2.1
  have hnc := h.sm.2.2
  have H : Hid _ := h
  have HA : Hid _ := haf
  have HP : Hid _ := hpf
  have HC : Hid _ := hcf
  have HD : Hid _ := hdf
  clear h haf hpf hcf hdf
  go_enter Try.func17, Try.ntmps17
  go_wp2_with fail
  go_loopw [3] (fun i wr => ∃ j : Nat, j ≤ na ∧ i = .int .i64 j ∧ ∃ m, wr = w.drewN m) (fun i _ => na - (intOf i).toNat)
  case atStart => exact ⟨0, Nat.zero_le _, rfl, 0, rfl⟩
  case round =>
    obtain ⟨j, hj, rfl, m, rfl⟩ := hrel
    by_cases hlt : j < na
    · obtain ⟨ga, gc, v, e, hx, hcell⟩ := H.out.ra.at hlt
      rw [HA.out] at e
      injection e with e1 _ e3
      subst e1 e3
      obtain ⟨n, hn, hs⟩ := H.out.x j v hx
      obtain ⟨va, vc, hvf⟩ := Src.form hs
      rw [marks_len] at hvf
      subst hvf
      have HS : Hid _ := hs
      clear hs hx
      go_wp2_with fail
      go_loopw [4] (fun i wr => ∃ q : Nat, q ≤ n ∧ i = .int .i64 q ∧ ∃ m, wr = w.drewN m) (fun i _ => n - (intOf i).toNat)
      case atStart => exact ⟨0, Nat.zero_le _, rfl, m, rfl⟩
      case round =>
        obtain ⟨q, hq, rfl, m2, rfl⟩ := hrel
        by_cases hq2 : q < n
        · obtain ⟨g, o, e2, hb⟩ := Src.at HS.out q (by rw [marks_len]; exact hq2)
          have hb2 : w.cell? ⟨g, o + q, none⟩ = some (.int .u8 (mkB (j / 2) q)) := by
            rw [hb]
            simp [marks]
          subst e2
          clear hb
          have hw : IntKind.i64.wrap ((j : Int) / 2) = ((j / 2 : Nat) : Int) := by rw [IntKind.wrap_i64]; omega
          go_upto_region 7 with fail
          refine wp_region_held_drew (S := fun w' => w'.cell? ⟨lg, 0, none⟩ = some (.slice (some ⟨ga, 0, none⟩) na ac) ∧ w'.cell? ⟨ga, j, none⟩ = some (.slice (some ⟨g, o, none⟩) n vc) ∧ w'.cell? ⟨g, o + q, none⟩ = some (.int .u8 (mkB (j / 2) q))) (by kernel_rfl) ⟨c0, hcell, hb2⟩ (fun hH => ?_)
          refine wpAnyH_take (i := 0) (v := .pointer (some ⟨lg, 0, none⟩)) rfl (by kernel_rfl) (by kernel_rfl) (by kernel_rfl) (fun _ _ _ h => h) (Or.inl ⟨by rfl, fun w' _ => by go_simp⟩) hH ?_
          refine wpAnyH_take (i := 1) (v := .pointer (some ⟨lg, 0, none⟩)) rfl (by kernel_rfl) (by kernel_rfl) (by kernel_rfl) (fun _ _ _ h => h) (Or.inl ⟨by rfl, fun w' _ => by go_simp⟩) hH ?_
          refine wpAnyH_take (i := 2) (v := .pointer (some ⟨lg, 0, none⟩)) rfl (by kernel_rfl) (by kernel_rfl) (by kernel_rfl) (fun _ _ _ h => h) (Or.inl ⟨by rfl, fun w' _ => by go_simp⟩) hH ?_
          refine wpAnyH_take (i := 3) (v := .slice (some ⟨ga, 0, none⟩) na ac) rfl (by kernel_rfl) (by kernel_rfl) (by kernel_rfl) (fun _ _ _ h => h) (Or.inl ⟨by rfl, fun w' hw' => by have q1 := hw'.1; go_simp⟩) hH ?_
          refine wpAnyH_take (i := 4) (v := .int .i64 j) rfl (by kernel_rfl) (by kernel_rfl) (by kernel_rfl) (fun _ _ _ h => h) (Or.inl ⟨by rfl, fun w' _ => by go_simp⟩) hH ?_
          refine wpAnyH_take (i := 5) (v := .pointer (some ⟨ga, j, none⟩)) rfl (by kernel_rfl) (by kernel_rfl) (by kernel_rfl) (fun _ _ _ h => h) (Or.inl ⟨by rfl, fun w' _ => by go_simp⟩) hH ?_
          refine wpAnyH_take (i := 6) (v := .slice (some ⟨g, o, none⟩) n vc) rfl (by kernel_rfl) (by kernel_rfl) (by kernel_rfl) (fun _ _ _ h => h) (Or.inl ⟨by rfl, fun w' hw' => by have q1 := hw'.2.1; go_simp⟩) hH ?_
          refine wpAnyH_take (i := 7) (v := .int .i64 q) rfl (by kernel_rfl) (by kernel_rfl) (by kernel_rfl) (fun _ _ _ h => h) (Or.inl ⟨by rfl, fun w' _ => by go_simp⟩) hH ?_
          refine wpAnyH_take (i := 8) (v := .pointer (some ⟨g, o + q, none⟩)) rfl (by kernel_rfl) (by kernel_rfl) (by kernel_rfl) (fun _ _ _ h => h) (Or.inl ⟨by rfl, fun w' _ => by go_simp⟩) hH ?_
          refine wpAnyH_take (i := 9) (v := .int .u8 (mkB (j / 2) q)) rfl (by kernel_rfl) (by kernel_rfl) (by kernel_rfl) (fun _ _ _ h => h) (Or.inl ⟨by rfl, fun w' hw' => by have q1 := hw'.2.2; go_simp⟩) hH ?_
          refine wpAnyH_take (i := 10) (v := .int .i64 j) rfl (by kernel_rfl) (by kernel_rfl) (by kernel_rfl) (fun _ _ _ h => h) (Or.inl ⟨by rfl, fun w' _ => by go_simp⟩) hH ?_
          refine wpAnyH_take (i := 11) (v := .int .i64 ((j / 2 : Nat) : Int)) rfl (by kernel_rfl) (by kernel_rfl) (by kernel_rfl) (fun _ _ _ h => h) (Or.inl ⟨by rfl, fun w' _ => by go_simp⟩) hH ?_
          refine wpAnyH_take (i := 12) (v := .int .i64 q) rfl (by kernel_rfl) (by kernel_rfl) (by kernel_rfl) (fun _ _ _ h => h) (Or.inl ⟨by rfl, fun w' _ => by go_simp⟩) hH ?_
          refine wpAnyH_ready (rs := [13]) (by kernel_rfl) (by simp) ?_
          refine AllReadyH.cons rfl (fun K hK => ?_) AllReadyH.nil
          go_simp
          refine Calls.mono (mark_ex (j / 2) q (by omega) (by omega)) ?_
          rintro e w9 ⟨rfl, h9⟩
          subst h9
          refine hK.out _ _ ⟨c0, hcell, hb2⟩ (fun hH => ?_)
          clear hK K
          refine wpAnyH_take (i := 14) (v := .bool false) rfl (by kernel_rfl) (by kernel_rfl) (by kernel_rfl) (fun _ _ _ h => h) (Or.inl ⟨by rfl, fun w' _ => by go_simp⟩) hH ?_
          refine wpAnyH_done (by kernel_rfl) ?_ _
          clear hH
          go_wp2_with fail
          go_roundw
          case rel => exact ⟨q + 1, by omega, by go_num, _, rfl⟩
          case measure => simp [intOf]; omega
        · go_wp2_with fail
          go_roundw
          case rel => exact ⟨j + 1, by omega, by go_num, _, rfl⟩
          case measure => simp [intOf]; omega
    · go_wp2_with fail
      go_loopw [5] (fun i wr => ∃ j : Nat, j ≤ np ∧ i = .int .i64 j ∧ ∃ m, wr = w.drewN m) (fun i _ => np - (intOf i).toNat)
      case atStart => exact ⟨0, Nat.zero_le _, rfl, _, rfl⟩
      case round =>
        obtain ⟨j, hj, rfl, m, rfl⟩ := hrel
        by_cases hlt : j < np
        · obtain ⟨ga, gc, v, e, hx, hcell⟩ := H.out.rp.at hlt
          rw [HP.out] at e
          injection e with e1 _ e3
          subst e1 e3
          obtain ⟨n, hn, hs⟩ := H.out.y j v hx
          obtain ⟨va, vc, hvf⟩ := Sn.form hs
          subst hvf
          have HS : Hid _ := hs
          clear hs hx
          go_wp2_with fail
          go_loopw [6] (fun i wr => ∃ q : Nat, q ≤ n ∧ i = .int .i64 q ∧ ∃ m, wr = w.drewN m) (fun i _ => n - (intOf i).toNat)
          case atStart => exact ⟨0, Nat.zero_le _, rfl, m, rfl⟩
          case round =>
            obtain ⟨q, hq, rfl, m2, rfl⟩ := hrel
            by_cases hq2 : q < n
            · obtain ⟨g, e2, hb⟩ := Sn.at HS.out hq2
              subst e2
              go_wp2_with fail
              go_roundw
              case rel => exact ⟨q + 1, by omega, by go_num, _, rfl⟩
              case measure => simp [intOf]; omega
            · go_wp2_with fail
              go_roundw
              case rel => exact ⟨j + 1, by omega, by go_num, _, rfl⟩
              case measure => simp [intOf]; omega
        · go_wp2_with fail
          go_loopw [7] (fun i wr => ∃ j : Nat, j ≤ nc ∧ i = .int .i64 j ∧ ∃ m, wr = w.drewN m) (fun i _ => nc - (intOf i).toNat)
          case atStart => exact ⟨0, Nat.zero_le _, rfl, _, rfl⟩
          case round =>
            obtain ⟨j, hj, rfl, m, rfl⟩ := hrel
            by_cases hlt : j < nc
            · obtain ⟨ga, gc, v, e, hx, hcell⟩ := H.out.rc.at hlt
              rw [HC.out] at e
              injection e with e1 _ e3
              subst e1 e3
              obtain ⟨gb, gd, u, e, hy, hcell2⟩ := H.out.rd.at hlt
              rw [HD.out] at e
              injection e with e1 _ e3
              subst e1 e3
              obtain ⟨l, hl, ov, ou⟩ := H.out.cd j v u hx hy
              have SV : Hid (∀ n, Src ((w.drewN m).drewN n) v l) := fun n => Src.kept (Src.kept ov (drewN_chg3 w m) (fun _ _ h => h)) (drewN_chg3 _ n) (fun _ _ h => h)
              have SU : Hid (∀ n, Src ((w.drewN m).drewN n) u l) := fun n => Src.kept (Src.kept ou (drewN_chg3 w m) (fun _ _ h => h)) (drewN_chg3 _ n) (fun _ _ h => h)
              obtain ⟨va, vc, hvf⟩ := Src.form ov
              obtain ⟨ua, uc, huf⟩ := Src.form ou
              subst hvf huf
              clear ov ou hx hy
              go_upto_region 20 with fail
              refine wp_region_held_drew (S := fun w' => w'.cell? ⟨lg, 2, none⟩ = some (.slice (some ⟨ga, 0, none⟩) nc cc) ∧ w'.cell? ⟨ga, j, none⟩ = some (.slice va l.length vc) ∧ w'.cell? ⟨lg, 3, none⟩ = some (.slice (some ⟨gb, 0, none⟩) nc dc) ∧ w'.cell? ⟨gb, j, none⟩ = some (.slice ua l.length uc)) (by kernel_rfl) ⟨c2, hcell, c3, hcell2⟩ (fun hH => ?_)
              refine wpAnyH_take (i := 0) (v := .pointer (some ⟨lg, 0, none⟩)) rfl (by kernel_rfl) (by kernel_rfl) (by kernel_rfl) (fun _ _ _ h => h) (Or.inl ⟨by rfl, fun w' _ => by go_simp⟩) hH ?_
              refine wpAnyH_take (i := 1) (v := .pointer (some ⟨lg, 0, none⟩)) rfl (by kernel_rfl) (by kernel_rfl) (by kernel_rfl) (fun _ _ _ h => h) (Or.inl ⟨by rfl, fun w' _ => by go_simp⟩) hH ?_
              refine wpAnyH_take (i := 2) (v := .pointer (some ⟨lg, 2, none⟩)) rfl (by kernel_rfl) (by kernel_rfl) (by kernel_rfl) (fun _ _ _ h => h) (Or.inl ⟨by rfl, fun w' _ => by go_simp⟩) hH ?_
              refine wpAnyH_take (i := 3) (v := .slice (some ⟨ga, 0, none⟩) nc cc) rfl (by kernel_rfl) (by kernel_rfl) (by kernel_rfl) (fun _ _ _ h => h) (Or.inl ⟨by rfl, fun w' hw' => by have q1 := hw'.1; go_simp⟩) hH ?_
              refine wpAnyH_take (i := 4) (v := .int .i64 j) rfl (by kernel_rfl) (by kernel_rfl) (by kernel_rfl) (fun _ _ _ h => h) (Or.inl ⟨by rfl, fun w' _ => by go_simp⟩) hH ?_
              refine wpAnyH_take (i := 5) (v := .pointer (some ⟨ga, j, none⟩)) rfl (by kernel_rfl) (by kernel_rfl) (by kernel_rfl) (fun _ _ _ h => h) (Or.inl ⟨by rfl, fun w' _ => by go_simp⟩) hH ?_
              refine wpAnyH_take (i := 6) (v := .slice va l.length vc) rfl (by kernel_rfl) (by kernel_rfl) (by kernel_rfl) (fun _ _ _ h => h) (Or.inl ⟨by rfl, fun w' hw' => by have q1 := hw'.2.1; go_simp⟩) hH ?_
              refine wpAnyH_take (i := 7) (v := .pointer (some ⟨lg, 0, none⟩)) rfl (by kernel_rfl) (by kernel_rfl) (by kernel_rfl) (fun _ _ _ h => h) (Or.inl ⟨by rfl, fun w' _ => by go_simp⟩) hH ?_
              refine wpAnyH_take (i := 8) (v := .pointer (some ⟨lg, 0, none⟩)) rfl (by kernel_rfl) (by kernel_rfl) (by kernel_rfl) (fun _ _ _ h => h) (Or.inl ⟨by rfl, fun w' _ => by go_simp⟩) hH ?_
              refine wpAnyH_take (i := 9) (v := .pointer (some ⟨lg, 3, none⟩)) rfl (by kernel_rfl) (by kernel_rfl) (by kernel_rfl) (fun _ _ _ h => h) (Or.inl ⟨by rfl, fun w' _ => by go_simp⟩) hH ?_
              refine wpAnyH_take (i := 10) (v := .slice (some ⟨gb, 0, none⟩) nc dc) rfl (by kernel_rfl) (by kernel_rfl) (by kernel_rfl) (fun _ _ _ h => h) (Or.inl ⟨by rfl, fun w' hw' => by have q1 := hw'.2.2.1; go_simp⟩) hH ?_
              refine wpAnyH_take (i := 11) (v := .int .i64 j) rfl (by kernel_rfl) (by kernel_rfl) (by kernel_rfl) (fun _ _ _ h => h) (Or.inl ⟨by rfl, fun w' _ => by go_simp⟩) hH ?_
              refine wpAnyH_take (i := 12) (v := .pointer (some ⟨gb, j, none⟩)) rfl (by kernel_rfl) (by kernel_rfl) (by kernel_rfl) (fun _ _ _ h => h) (Or.inl ⟨by rfl, fun w' _ => by go_simp⟩) hH ?_
              refine wpAnyH_take (i := 13) (v := .slice ua l.length uc) rfl (by kernel_rfl) (by kernel_rfl) (by kernel_rfl) (fun _ _ _ h => h) (Or.inl ⟨by rfl, fun w' hw' => by have q1 := hw'.2.2.2; go_simp⟩) hH ?_
              refine wpAnyH_ready (rs := [14]) (by kernel_rfl) (by simp) ?_
              refine AllReadyH.cons rfl (fun K hK => ?_) AllReadyH.nil
              go_simp
              refine Calls.mono (same_src (SV.out 1) (SU.out 1) (by omega)) ?_
              rintro e w9 ⟨rfl, m9, h9⟩
              subst h9
              refine hK.out _ _ ⟨c2, hcell, c3, hcell2⟩ (fun hH => ?_)
              clear hK K
              refine wpAnyH_take (i := 15) (v := .bool false) rfl (by kernel_rfl) (by kernel_rfl) (by kernel_rfl) (fun _ _ _ h => h) (Or.inl ⟨by rfl, fun w' _ => by go_simp⟩) hH ?_
              refine wpAnyH_done (by kernel_rfl) ?_ _
              clear hH
              go_wp2_with fail
              go_roundw
              case rel => exact ⟨j + 1, by omega, by go_num, _, rfl⟩
              case measure => simp [intOf]; omega
            · go_wp2_with fail
              go_ret
              exact ⟨rfl, m, rfl⟩
end Go.Proofs.Ytddnecfnjnipjaa
