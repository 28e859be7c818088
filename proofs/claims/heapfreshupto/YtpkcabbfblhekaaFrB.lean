/-
  HeapFresh: marked, grown, stands.
-/
import Derived.Test.YtpkcabbfblhekaaFrP
import Derived.Test.YtpkcabbfblhekaaTurn
import Derived.Deep.DeepAppendRoom
namespace Go.Proofs.Ytpkcabbfblhekaa
open Go.RowKit

theorem fone {w : World} {b : Nat} {a : Int × Int} (h : Blk w b [.int .i64 a.1, .int .i64 a.2] 26) : Ths w (.slice (some ⟨b, 0, none⟩) 1 1) [a] := .inr (.inr ⟨b, 0, 1, rfl, fun i z hz => by
    cases i with
    | zero => have h9 : a = z := by simpa using hz
              subst h9; exact ⟨h.cell 0, h.cell 1⟩
    | succ i => simp at hz⟩)

theorem Ths.atF {w : World} {a : Option Addr} {n c : Nat} {L : List (Int × Int)} (h : Ths w (.slice a n c) L) {i : Nat} {x : Int × Int} (hx : L[i]? = some x) : ∃ b o, a = some ⟨b, o, none⟩ ∧ w.cell? ⟨b, o + i * 2, none⟩ = some (.int .i64 x.1) ∧ w.cell? ⟨b, o + i * 2 + 1, none⟩ = some (.int .i64 x.2) := by
  rcases h with ⟨_, rfl⟩ | ⟨_, _, _, rfl⟩ | ⟨b, o, c', e, hc⟩
  · simp at hx
  · simp at hx
  · injection e with e1 _ _
    exact ⟨b, o, e1, hc i x hx⟩

theorem OwnT.fst {w : World} {g cap : Nat} {l m : List (Int × Int)} (h : OwnT w (.slice (some ⟨g, 0, none⟩) (l.length + m.length) cap) (l ++ m)) : OwnT w (.slice (some ⟨g, 0, none⟩) l.length cap) l := by
  refine ⟨rowT_len l, ?_⟩
  rcases h.2 with ⟨e, _⟩ | ⟨b, c, cur, e, hb, hgg, h1, h2, h3, h4⟩
  · cases e
  · injection e with e1 e2 e3
    injection e1 with e1
    injection e1 with e1
    subst e1 e3
    refine .inr ⟨g, cap, cur, rfl, hb, hgg, by rw [List.length_append] at h1; omega, h2, h3, ?_⟩
    have h5 := congrArg (List.take (l.length * 2)) h4
    rw [List.take_take, List.length_append, rowT_app, Nat.min_eq_left (by omega)] at h5
    rw [h5, ← rowT_len l, List.take_left]

theorem run_app2_keep (w : World) (ty : TypeId) {v : Value} {l : List (Int × Int)} {x : Int × Int} {b c : Nat} (hv : OwnT w v l) (hs : Ths w (.slice (some ⟨b, 0, none⟩) 1 c) [x]) (hb : l.length + 1 ≤ 1099511627776) :
    ∃ v' w', (Builtin.append_ #[28, 28] ty #[v, .slice (some ⟨b, 0, none⟩) 1 c]).run Try.prog w = .ok v' w' ∧ OwnT w' v' (l ++ [x]) ∧ OwnT w' v l ∧ Chg (fun k => some k = v.ownBlock) w w' ∧ (v'.ownBlock = v.ownBlock ∨ v'.ownBlock = some w.heap.size) := by
  obtain ⟨v', w', hr, ho, hc, hat⟩ := run_app2 w ty hv hs hb
  refine ⟨v', w', hr, ho, ?_, hc, hat⟩
  obtain ⟨i0, hi, hz0, hz1, hz2⟩ := info_parts info26
  obtain ⟨b', o', e1, e2, e3⟩ := hs.atF (i := 0) (x := x) rfl
  injection e1 with e1
  injection e1 with e1 e4
  subst e1 e4
  have hnews : ∀ j u, (rowT [x])[j]? = some u → w.cell? ((⟨b, 0, none⟩ : Addr).add j) = some u := fun j u hu => by
    rw [addr_add]
    obtain ⟨i, a, ha, ⟨rfl, rfl⟩ | ⟨rfl, rfl⟩⟩ := rowT_inv [x] j u hu
    · cases i with
      | zero => obtain rfl := Option.some.inj ha; exact e2
      | succ i => simp at ha
    · cases i with
      | zero => obtain rfl := Option.some.inj ha; exact e3
      | succ i => simp at ha
  rcases hv.2 with ⟨rfl, h0⟩ | ⟨g, cap, cur, rfl, hbg, hg, hnc, hcm, hsz, htake⟩
  · rw [List.eq_nil_of_length_eq_zero h0]
    exact OwnT.nil _
  · by_cases hroom : l.length + 1 ≤ cap
    · obtain ⟨w2, hr2, ho2, _⟩ := run_append_own_spare (P := Try.prog) w 0 28 ty 26 i0 2 Try.underlying28 hi hz1 g l.length cap (rowT l) hv ⟨b, 0, none⟩ 1 c (rowT [x]) (rowT_len [x]) hnews (rowT_one [x]) hroom
      rw [hr] at hr2
      injection hr2 with e1 e2
      subst e1 e2
      have ho3 : OwnT w' (.slice (some ⟨g, 0, none⟩) (l.length + [x].length) cap) (l ++ [x]) := by
        unfold OwnT
        rw [List.length_append, rowT_app]
        exact ho2
      exact ho3.fst
    · have holds : ∀ j u, (rowT l)[j]? = some u → w.cell? ((⟨g, 0, none⟩ : Addr).add j) = some u := World.ownsRow.cells hv (g := g) rfl
      have hr2 := run_append_grow (P := Try.prog) w 28 ty 26 i0 _ Try.underlying28 hi hz0 ⟨g, 0, none⟩ l.length cap (rowT l) (by rw [rowT_len, hz1]) holds ⟨b, 0, none⟩ 1 c (rowT [x]) (by rw [rowT_len, hz1]; rfl) hnews (by omega) (by unfold maxLen at *; omega) (growslice_fits (by omega) (by rw [hz2]; omega))
      rw [hr] at hr2
      injection hr2 with e1 e2
      subst e1 e2
      exact hv.keep (((Chg.refl (fun _ => False) w).drew).alloc _) (fun _ _ h => h)

theorem OwnT.pre {w : World} {u : Value} {l m : List (Int × Int)} {g c : Nat} (h : OwnT w u (l ++ m)) (hu : u.ownBlock = some g) : Ths w (.slice (some ⟨g, 0, none⟩) l.length c) l := by
  rcases h.2 with ⟨rfl, _⟩ | ⟨b, cap, cur, rfl, _⟩
  · simp [Value.ownBlock] at hu
  · have e : b = g := by simpa [Value.ownBlock] using hu
    subst e
    refine .inr (.inr ⟨b, 0, c, rfl, fun i a ha => ?_⟩)
    have hil := (List.getElem?_eq_some_iff.1 ha).1
    obtain ⟨b', o', e1, e2, e3⟩ := h.ths.atF (i := i) (x := a) (by rw [List.getElem?_append_left hil]; exact ha)
    injection e1 with e1
    injection e1 with e1 e4
    subst e1 e4
    exact ⟨e2, e3⟩

set_option maxRecDepth 100000 in
set_option maxHeartbeats 2000000 in
theorem marked_any {w : World} {v : Value} {l : List (Int × Int)} (h : OwnT w v l) (m : Int) (hm : -10000 ≤ m ∧ m ≤ 0) (hl : l.length ≤ 2097152) :
    Calls Try.prog 29 #[v, .int .i64 m] w fun e w' => e = .returned (.tuple #[]) ∧ OwnT w' v (mkL m l.length) ∧ Chg (fun k => some k = v.ownBlock) w w' := by
  obtain ⟨a, c, rfl⟩ := h.form
  have H0 : Hid _ := h
  clear h
  go_enter Try.func29, Try.ntmps29
  go_wp2_with fail
  go_loopw [7] (fun si wr => ∃ i : Nat, si = .int .i64 i ∧ i ≤ l.length ∧ Hid (OwnT wr (.slice a l.length c) (mkL m i ++ l.drop i) ∧ Chg (fun k => some k = (Value.slice a l.length c).ownBlock) w wr)) (fun si _ => l.length - (intOf si).toNat)
  case atStart => exact ⟨0, rfl, by omega, H0.out, Chg.refl _ _⟩
  case round =>
    obtain ⟨i, rfl, hi, hid⟩ := hrel
    by_cases h0 : i < l.length
    · obtain ⟨ho, hc⟩ := hid.out
      have hll : (mkL m i ++ l.drop i).length = l.length := by rw [List.length_append, mkL_len, List.length_drop]; omega
      have ho' : OwnT wr (.slice a (mkL m i ++ l.drop i).length c) (mkL m i ++ l.drop i) := by rw [hll]; exact ho
      obtain ⟨g, o, ha, x0, x1⟩ := ho.ths.atF (i := i) (x := (mkL m i ++ l.drop i)[i]'(by omega)) (List.getElem?_eq_getElem (by omega))
      have hog : o = 0 := by
        rcases ho.2 with ⟨e, _⟩ | ⟨b, cap, cur, e, _⟩
        · rw [ha] at e; cases e
        · rw [ha] at e
          injection e with e _ _
          injection e with e
          injection e with _ e _
      subst hog ha
      obtain ⟨y0, hy0⟩ : ∃ y, ((mkL m i ++ l.drop i)[i]'(by omega)).1 = y := ⟨_, rfl⟩
      obtain ⟨y1, hy1⟩ : ∃ y, ((mkL m i ++ l.drop i)[i]'(by omega)).2 = y := ⟨_, rfl⟩
      rw [hy0, Nat.zero_add] at x0
      rw [hy1, Nat.zero_add] at x1
      have f0 := ho'.frz (i * 2)
      have f1 := ho'.frz (i * 2 + 1)
      have R : Hid (OwnT ((wr.setCell ⟨g, i * 2, none⟩ (.int .i64 m)).setCell ⟨g, i * 2 + 1, none⟩ (.int .i64 (m - (i : Int)))) (.slice (some ⟨g, 0, none⟩) l.length c) (mkL m (i + 1) ++ l.drop (i + 1)) ∧ Chg (fun k => some k = (Value.slice (some ⟨g, 0, none⟩) l.length c).ownBlock) w ((wr.setCell ⟨g, i * 2, none⟩ (.int .i64 m)).setCell ⟨g, i * 2 + 1, none⟩ (.int .i64 (m - (i : Int))))) := by
        refine ⟨?_, (hc.setCell (p := ⟨g, i * 2, none⟩) (.inl rfl) _).setCell (p := ⟨g, i * 2 + 1, none⟩) (.inl rfl) _⟩
        have := ho'.put i (by omega) (m, m - (i : Int))
        have e : (mkL m i ++ l.drop i).set i (m, m - (i : Int)) = mkL m (i + 1) ++ l.drop (i + 1) := by
          have e1 : mkL m (i + 1) = mkL m i ++ [(m, m - (i : Int))] := by simp [mkL, List.range_succ]
          rw [e1, List.append_assoc, List.set_append_right _ _ (by rw [mkL_len]; exact Nat.le_refl _), mkL_len, Nat.sub_self, List.drop_eq_getElem_cons h0, List.set_cons_zero]
          rfl
        rw [e] at this
        have e2 : (mkL m (i + 1) ++ l.drop (i + 1)).length = l.length := by rw [List.length_append, mkL_len, List.length_drop]; omega
        rw [hll] at this
        exact this
      have i1 : (i : Int) < (l.length : Int) := by omega
      clear hid ho ho' hc hll hy0 hy1 H0
      go_wp2_with fail
      go_roundw
      case rel => exact ⟨i + 1, by go_num, by omega, R.out⟩
      case measure => simp [intOf]; omega
    · have hi2 : i = l.length := by omega
      obtain ⟨ho, hc⟩ := hid.out
      rw [hi2, List.drop_length, List.append_nil] at ho
      have R : Hid _ := And.intro ho hc
      have i1 : ¬ ((i : Int) < (l.length : Int)) := by omega
      clear hid ho hc hi2 H0
      go_wp2_with fail
      exact ⟨rfl, _, results_none rfl _ _ _, rfl, R.out.1, R.out.2⟩

set_option maxRecDepth 100000 in
set_option maxHeartbeats 2000000 in
theorem grown_any {w : World} {v : Value} {l : List (Int × Int)} (h : OwnT w v l) (m : Int) (hl : l.length ≤ 2097152) :
    Calls Try.prog 30 #[v, .int .i64 m] w fun e w' => ∃ x, e = .returned x ∧ OwnT w' x (l ++ rpL m 64) ∧ Ths w' v l ∧ Chg (fun k => some k = v.ownBlock) w w' ∧ ∀ k, x.ownBlock = some k → v.ownBlock = some k ∨ w.heap.size ≤ k := by
  have H0 : Hid _ := h
  obtain ⟨a, c, hv⟩ := h.form
  have hvo : v.ownBlock = none ∨ ∃ g, v = .slice (some ⟨g, 0, none⟩) l.length c := by
    rcases h.2 with ⟨e, _⟩ | ⟨b, cap, cur, e, _⟩
    · rw [e]; exact .inl rfl
    · rw [hv] at e ⊢
      injection e with e1 e2 e3
      subst e1 e3
      exact .inr ⟨b, rfl⟩
  have HV : Hid _ := hvo
  obtain ⟨vb, hvb⟩ : ∃ vb, vb = v.ownBlock := ⟨_, rfl⟩
  have VB : Hid _ := hvb
  have L0 : Hid (v.ownBlock = none → l = []) := fun e => by
    rcases h.2 with ⟨_, h9⟩ | ⟨b, cap, cur, e9, _⟩
    · exact List.eq_nil_of_length_eq_zero h9
    · rw [e9] at e; simp [Value.ownBlock] at e
  clear h hvo hvb
  go_enter Try.func30, Try.ntmps30
  go_wp2_with fail
  go_loopw [0, 5] (fun u si wr => ∃ j : Nat, si = .int .i64 j ∧ j ≤ 64 ∧ Hid (OwnT wr u (l ++ rpL m j) ∧ Ths wr v l ∧ Chg (fun k => some k = v.ownBlock) w wr ∧ ∀ k, u.ownBlock = some k → v.ownBlock = some k ∨ w.heap.size ≤ k)) (fun _ si _ => 64 - (intOf si).toNat)
  case atStart => exact ⟨0, rfl, by omega, by show OwnT _ _ (l ++ []); rw [List.append_nil]; exact H0.out, OwnT.ths H0.out, Chg.refl _ _, fun k hk => .inl hk⟩
  case round =>
    obtain ⟨j, rfl, hj, hid⟩ := hrel
    by_cases h0 : j < 64
    · obtain ⟨ho, ht, hc, hb⟩ := hid.out
      have k1 : Chg (fun _ => False) wr (wr.alloc (.cells #[.int .i64 m, .int .i64 m] 26)) := (Chg.refl _ _).alloc _
      obtain ⟨u', w5, r5, o5, p5, c5, b5⟩ := run_app2_keep (wr.alloc (.cells #[.int .i64 m, .int .i64 m] 26)) 28 (x := (m, m)) (c := 1) (ho.keep k1 (fun _ _ h => h)) (fone (Blk.made wr [.int .i64 m, .int .i64 m] 26)) (by rw [List.length_append]; simp [rpL]; omega)
      obtain ⟨ua, uc, hu⟩ := ho.form
      have R : Hid (OwnT w5 u' (l ++ rpL m (j + 1)) ∧ Ths w5 v l ∧ Chg (fun k => some k = v.ownBlock) w w5 ∧ ∀ k, u'.ownBlock = some k → v.ownBlock = some k ∨ w.heap.size ≤ k) := by
        refine ⟨?_, ?_, ?_, fun k hk => ?_⟩
        · have e : rpL m (j + 1) = rpL m j ++ [(m, m)] := by simp [rpL, List.replicate_succ']
          rw [e, ← List.append_assoc]
          exact o5
        · rcases HV.out with e | ⟨g, e⟩
          · rw [L0.out e]
            have h9 := ht
            rw [L0.out e] at h9
            rcases h9 with h9 | h9 | ⟨b, o, c', h9, _⟩
            · exact .inl h9
            · exact .inr (.inl h9)
            · exact .inr (.inr ⟨b, o, c', h9, fun i a ha => by simp at ha⟩)
          · by_cases hg : u0.ownBlock = some g
            · rw [e]
              exact p5.pre hg
            · refine Ths.keep (Ths.keep ht k1 (fun _ _ h => h)) c5 (fun k hk hk2 => hg ?_)
              rw [e] at hk
              have : g = k := by simpa [Value.ownBlock] using hk
              subst this
              exact hk2.symm
        · refine (hc.trans k1 (fun _ h => h.elim)).trans c5 (fun i hi => ?_)
          rcases hb i hi.symm with e | e
          · exact .inl e.symm
          · exact .inr e
        · rcases b5 with e | e
          · exact hb k (by rw [← e]; exact hk)
          · rw [e] at hk
            have h9 : (wr.alloc (.cells #[.int .i64 m, .int .i64 m] 26)).heap.size = k := Option.some.inj hk
            have := hc.size
            rw [World.size_alloc] at h9
            exact .inr (by omega)
      have Q5 : Hid _ := r5
      have j1 : (j : Int) < 64 := by omega
      rw [hu] at Q5
      subst hu
      clear hid ho ht hc hb r5 o5 p5 c5 b5 k1 H0
      go_wp2_with (at_builtin; refine wpList_app2 rfl (.tmp 10) (.tmp 14) rfl rfl rfl Q5.out ?_)
      go_roundw
      case rel => exact ⟨j + 1, by go_num, by omega, R.out⟩
      case measure => simp [intOf]; omega
    · have hj2 : j = 64 := by omega
      subst hj2
      have R : Hid _ := hid.out
      clear hid H0
      go_wp2_with fail
      go_ret
      exact ⟨_, rfl, R.out⟩

set_option maxRecDepth 100000 in
set_option maxHeartbeats 4000000 in
theorem stands_any {w : World} {v x : Value} {n : Nat} {m b : Int} (hv : Ths w v (mkL m n)) (hx : Ths w x (mkL m n ++ rpL b 64)) (hn : n ≤ 1048576) (hm0 : -10000 ≤ m) (hm1 : m ≤ 0) :
    Calls Try.prog 31 #[v, x, .int .i64 m, .int .i64 b] w fun e w' => e = .returned (.bool true) ∧ Chg (fun _ => False) w w' := by
  obtain ⟨va, vc, e1⟩ := hv.form
  obtain ⟨xa, xc, e2⟩ := hx.form
  rw [mkL_len] at e1
  rw [List.length_append, mkL_len, show (rpL b 64).length = 64 from List.length_replicate ..] at e2
  subst e1 e2
  have HV : Hid _ := hv
  have HX : Hid _ := hx
  have EQ := eql26
  clear hv hx
  go_enter Try.func31, Try.ntmps31
  go_wp2_with fail
  go_loopw [13] (fun si wr => ∃ i nq : Nat, si = .int .i64 i ∧ i ≤ n ∧ wr = w.drewN nq) (fun si _ => n - (intOf si).toNat)
  case atStart => exact ⟨0, 0, rfl, by omega, rfl⟩
  case round =>
    obtain ⟨i, nq, rfl, hi, rfl⟩ := hrel
    by_cases h0 : i < n
    · obtain ⟨bv, ov, rfl, a0, a1⟩ := Ths.atF HV.out (mkL_at m n i h0)
      obtain ⟨bx, ox, rfl, b0, b1⟩ := Ths.atF HX.out (i := i) (x := (m, m - (i : Int))) (by rw [List.getElem?_append_left (by rw [mkL_len]; exact h0)]; exact mkL_at m n i h0)
      have a0' : ∀ k, (w.drewN k).cell? ⟨bv, ov + i * 2, none⟩ = some (.int .i64 m) := fun _ => a0
      have a1' : ∀ k, (w.drewN k).cell? ⟨bv, ov + i * 2 + 1, none⟩ = some (.int .i64 (m - (i : Int))) := fun _ => a1
      have b0' : ∀ k, (w.drewN k).cell? ⟨bx, ox + i * 2, none⟩ = some (.int .i64 m) := fun _ => b0
      have b1' : ∀ k, (w.drewN k).cell? ⟨bx, ox + i * 2 + 1, none⟩ = some (.int .i64 (m - (i : Int))) := fun _ => b1
      have i1 : (i : Int) < (n : Int) := by omega
      have i2 : (i : Int) < ((n + 64 : Nat) : Int) := by omega
      clear a0 a1 b0 b1
      go_wp2_with fail
      go_quiet (fail)
      go_wp2_with fail
      go_roundw
      case rel => exact ⟨i + 1, _, by go_num, by omega, rfl⟩
      case measure => simp [intOf]; omega
    · have hi2 : i = n := by omega
      subst hi2
      have i1 : ¬ ((i : Int) < (i : Int)) := by omega
      go_wp2_with fail
      go_loopw [10] (fun si wr => ∃ j : Nat, si = .int .i64 j ∧ i ≤ j ∧ j ≤ i + 64 ∧ wr = w.drewN nq) (fun si _ => i + 64 - (intOf si).toNat)
      case atStart => exact ⟨i, rfl, by omega, by omega, rfl⟩
      case round =>
        obtain ⟨j, rfl, hj, hj2, rfl⟩ := hrel
        by_cases h1 : j < i + 64
        · obtain ⟨bx, ox, rfl, b0, b1⟩ := Ths.atF HX.out (i := j) (x := (b, b)) (by rw [List.getElem?_append_right (by rw [mkL_len]; exact hj), mkL_len]; unfold rpL; rw [List.getElem?_replicate, if_pos (by omega)])
          have b0' : ∀ k, (w.drewN k).cell? ⟨bx, ox + j * 2, none⟩ = some (.int .i64 b) := fun _ => b0
          have b1' : ∀ k, (w.drewN k).cell? ⟨bx, ox + j * 2 + 1, none⟩ = some (.int .i64 b) := fun _ => b1
          have i2 : (j : Int) < ((i + 64 : Nat) : Int) := by omega
          have i3 : (j : Int) < (i : Int) + 64 := by omega
          clear b0 b1
          go_wp2_with fail
          go_roundw
          case rel => exact ⟨j + 1, by go_num, by omega, by omega, trivial⟩
          case measure => simp [intOf]; omega
        · have hj3 : j = i + 64 := by omega
          subst hj3
          go_wp2_with fail
          go_ret
          exact ⟨by simp, ⟨rfl, rfl, rfl, Nat.le_refl _, fun _ _ _ => rfl⟩⟩

end Go.Proofs.Ytpkcabbfblhekaa
