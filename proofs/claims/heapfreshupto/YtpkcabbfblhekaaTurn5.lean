/-
  One turn of HeapTurns: Push.
-/
import Derived.Test.YtpkcabbfblhekaaTurn4
namespace Go.Proofs.Ytpkcabbfblhekaa
open Go.RowKit

section
variable {w : World} {all : Bool} {p : Nat} {v : Value} {H : List E} {came : Nat} {lv : Value} {l : List (Int × Int)}

set_option maxRecDepth 100000 in
set_option maxHeartbeats 4000000 in
theorem turn_push (h : TS w all p v H came lv l) {which : Int} {s : Value} {L : List (Int × Int)} (hL : Ths w s L) (hsb : ∀ k, L ≠ [] → s.ownBlock = some k → k ≠ p ∧ some k ≠ v.ownBlock) (hcm : came + L.length + 1 ≤ 2097152) :
    Calls Try.prog 25 #[.pointer (some ⟨p, 0, none⟩), lv, .agg #[.int .i64 1, .int .i64 which, s], .bool all] w fun e w' => ∃ lv', e = .returned (.tuple #[lv', .bool true]) ∧ TP w w' all p v came lv (L.length + 1) lv' := by
  have hlen := h.len
  have hcmH := h.cm
  have hll : l.length ≤ 2097152 := by omega
  obtain ⟨la, lc, rfl⟩ := h.own.form
  obtain ⟨sa, sc, rfl⟩ := hL.form
  obtain ⟨w1, hw1⟩ : ∃ w1, w1 = w.alloc (.cells #[.int .i64 1, .int .i64 which, .slice sa L.length sc] 30) := ⟨_, rfl⟩
  have hc1 : Chg (fun _ => False) w w1 := by rw [hw1]; exact (Chg.refl _ _).alloc _
  have hB1 : Blk w1 w.heap.size [.int .i64 1, .int .i64 which, .slice sa L.length sc] 30 := by rw [hw1]; exact Blk.made w [.int .i64 1, .int .i64 which, .slice sa L.length sc] 30
  have h1 := h.keep hc1
  have FI : Hid _ := first_any h1.own.ths hll all
  have W1 : Hid _ := hw1
  have C1 : Hid _ := hc1
  have B1 : Hid _ := hB1
  have T0 : Hid _ := h
  have T1 : Hid _ := h1
  have TH : Hid _ := hL
  have SB : Hid _ := hsb
  clear hw1 hc1 hB1 h h1 hL hsb
  go_enter Try.func25, Try.ntmps25
  go_wp2_with fail
  rw [← W1.out]
  refine Calls.mono FI.out ?_
  rintro e w2 ⟨rfl, ch2⟩
  have hB2 := Blk.keep B1.out ch2 (fun h => h)
  have k0 : w2.cell? ⟨w.heap.size, 0, none⟩ = some (.int .i64 1) := hB2.cell 0
  have k2' : w2.cell? ⟨w.heap.size, 2, none⟩ = some (.slice sa L.length sc) := hB2.cell 2
  have hT2 := T1.out.keep ch2
  have hC2 : Chg (fun _ => False) w w2 := C1.out.trans ch2 (fun _ h => h.elim)
  have T2 : Hid _ := hT2
  have C2 : Hid _ := hC2
  have B2 : Hid _ := hB2
  obtain ⟨fi, hfi⟩ : ∃ fi, firstU all l l.length = fi := ⟨_, rfl⟩
  rw [hfi]
  have FF : Hid _ := hfi
  have hsz2 : w.heap.size < w2.heap.size := hB2.lt
  have hpl : p < w.heap.size := T0.out.hq.lt
  clear ch2 hB2 hT2 hC2 hfi FI W1 C1 B1 T1
  have th2 := Ths.keep TH.out C2.out (fun _ _ h => h)
  obtain ⟨v3, w3, hr3, ho3, hc3, hv3⟩ := run_app2 w2 28 (OwnT.nil w2) th2 (by simp; omega)
  rw [List.nil_append] at ho3
  have hC3 : Chg (fun _ => False) w2 w3 := hc3.mono (fun k _ e => by simp [Value.ownBlock] at e)
  have hv3' : ∀ k, v3.ownBlock = some k → w2.heap.size ≤ k := fun k hk => by
    rcases hv3 with e | e
    · rw [hk] at e; simp [Value.ownBlock] at e
    · rw [hk] at e
      have : k = w2.heap.size := by simpa using e
      omega
  obtain ⟨w4, hw4⟩ : ∃ w4, w4 = w3.alloc (.cells #[.int .i64 (-1), .int .i64 (-7)] 26) := ⟨_, rfl⟩
  have hc4 : Chg (fun _ => False) w3 w4 := by rw [hw4]; exact (Chg.refl _ _).alloc _
  have hX4 : Blk w4 w3.heap.size [.int .i64 (-1), .int .i64 (-7)] 26 := by rw [hw4]; exact Blk.made w3 [.int .i64 (-1), .int .i64 (-7)] 26
  have src4 : Ths w4 (.slice (some ⟨w3.heap.size, 0, none⟩) 1 1) [(-1, -7)] := .inr (.inr ⟨w3.heap.size, 0, 1, rfl, fun i z hz => by
    cases i with
    | zero => have h9 : ((-1 : Int), (-7 : Int)) = z := by simpa using hz
              subst h9; exact ⟨hX4.cell 0, hX4.cell 1⟩
    | succ i => simp at hz⟩)
  obtain ⟨v5, w5, hr5, ho5, hc5, hv5⟩ := run_app2 w4 28 (ho3.keep hc4 (fun _ _ h => h)) src4 (by simp; omega)
  have hv5' : ∀ k, v5.ownBlock = some k → w2.heap.size ≤ k := fun k hk => by
    rcases hv5 with e | e
    · rw [hk] at e; exact hv3' k e.symm
    · rw [hk] at e
      have h9 : k = w4.heap.size := by simpa using e
      have := hC3.size
      have := hc4.size
      omega
  have hC5 : Chg (fun _ => False) w2 w5 := (hC3.trans hc4 (fun _ h => h.elim)).trans hc5 (fun k hk => .inr (hv3' k hk.symm))
  obtain ⟨a3, c3, e3⟩ := ho3.form
  subst e3
  have hl5 : (L ++ [((-1 : Int), (-7 : Int))]).length = L.length + 1 := by simp
  obtain ⟨g, cap, e5, hcap, hg5, hcell5⟩ := ho5.at (i := 0) (by omega)
  subst e5
  have hg2 : w2.heap.size ≤ g := hv5' g rfl
  -- what is handed in
  have hget : ∀ i, i < L.length → tnth (L ++ [((-1 : Int), (-7 : Int))]) i = tnth L i := fun i hi => by unfold tnth; rw [List.getD_eq_getElem?_getD, List.getD_eq_getElem?_getD, List.getElem?_append_left hi]
  have give5 : Ths w5 (.slice (some ⟨g, 0, none⟩) L.length cap) L := by
    refine .inr (.inr ⟨g, 0, cap, rfl, fun i z hz => ?_⟩)
    have hi : i < L.length := (List.getElem?_eq_some_iff.1 hz).1
    have h9 := hcell5 i (by omega)
    rw [hget i hi] at h9
    have h8 : tnth L i = z := by unfold tnth; rw [List.getD_eq_getElem?_getD, hz]; rfl
    rw [h8] at h9
    exact h9
  have hT5 := T2.out.keep hC5
  have PU := push_any (od_B all) hT5.hq (fun h => h) (fun _ _ h => h) 0 give5 (fun k _ hk => by
    have h9 : g = k := by simpa [Value.ownBlock] using hk
    refine ⟨by omega, fun e => ?_, fun h => h, by rw [← h9]; exact hg5⟩
    have := T0.out.hq.vlt k e.symm
    omega) (by omega) (by omega) trivial (by omega) (oneB_le all)
  obtain ⟨N, hN⟩ : ∃ N, L.length + 1 = N := ⟨_, rfl⟩
  rw [hl5, hN] at hr5 ho5 hcap
  have R3 : Hid _ := hr3
  have R5 : Hid _ := hr5
  have O5 : Hid _ := ho5
  have W4 : Hid _ := hw4
  have PS : Hid _ := PU
  have T5 : Hid _ := hT5
  have C5 : Hid _ := hC5
  have G5 : Hid _ := give5
  have E5 : Hid _ := hcell5
  have HN : Hid _ := hN
  have hlc : (L.length : Int) ≤ (cap : Int) := by omega
  have hNn : (L.length : Int) < (N : Int) := by omega
  have B5 : Hid _ := Blk.keep B2.out hC5 (fun h => h)
  have HG : Hid _ := hget
  clear hr3 hr5 ho5 hw4 PU hT5 hC5 give5 hcell5 hN hget th2 ho3 hc3 hv3 hC3 hv3' hc4 hX4 src4 hc5 hv5 hv5' hl5
  go_upto_region 7 with (at_builtin; first | (refine wpList_app2 rfl (.tmp 32) (.tmp 34) rfl rfl rfl R3.out ?_) | (rw [← W4.out]; refine wpList_app2 rfl (.tmp 36) (.tmp 38) rfl rfl rfl R5.out ?_))
  have EQ := eql26
  have y2 : w5.cell? ⟨w.heap.size, 2, none⟩ = some (.slice sa L.length sc) := (B5.out).cell 2
  have hsz5 : w2.heap.size ≤ w5.heap.size := C5.out.size
  go_wp2_with fail
  refine Calls.mono PS.out ?_
  rintro e w6 ⟨rfl, ⟨v6, hq6, hv6⟩, _, ch6⟩
  have hnl : ∀ k, (Value.slice la l.length lc).ownBlock = some k → ¬ (k = p ∨ some k = v.ownBlock ∨ False) := fun k hk e => by
    rcases e with e | e | e
    · exact T5.out.np (by rw [hk, e])
    · exact T5.out.nv k hk e.symm
    · exact e
  have hfresh : ∀ k, w.heap.size ≤ k → ¬ (k = p ∨ some k = v.ownBlock ∨ False) := fun k hk e => by
    rcases e with e | e | e
    · omega
    · have := T0.out.hq.vlt _ e.symm; omega
    · exact e
  have give6 : Ths w6 (.slice (some ⟨g, 0, none⟩) L.length cap) L := Ths.keep G5.out ch6 (fun k hk => by
    have h9 : g = k := by simpa [Value.ownBlock] using hk
    exact hfresh k (by omega))
  have src6 : Ths w6 (.slice sa L.length sc) L := Ths.keep' (Ths.keep TH.out (C2.out.trans C5.out (fun _ h => h.elim)) (fun _ _ h => h)) ch6 (fun hne k hk e => by
    obtain ⟨h1, h2⟩ := SB.out k hne hk
    rcases e with e | e | e
    · exact h1 e
    · exact h2 e
    · exact e)
  have own6 : OwnT w6 (.slice la l.length lc) l := T5.out.own.keep ch6 hnl
  have hO6 : OwnT w6 (.slice (some ⟨g, 0, none⟩) N cap) (L ++ [((-1 : Int), (-7 : Int))]) := OwnT.keep O5.out ch6 (fun k hk => by
    have h9 : g = k := by simpa [Value.ownBlock] using hk
    exact hfresh k (by omega))
  have hB6 := Blk.keep B5.out ch6 (hfresh _ (Nat.le_refl _))
  have SM : Hid _ := same_any give6 src6 (by omega)
  have y6 : w6.cell? ⟨w.heap.size, 2, none⟩ = some (.slice sa L.length sc) := hB6.cell 2
  have S6 : Hid _ := src6
  have U6 : Hid _ := own6
  have O6 : Hid _ := hO6
  have B6 : Hid _ := hB6
  have Q6 : Hid _ := hq6
  have V6 : Hid _ := hv6
  have C6 : Hid _ := ch6
  have FR : Hid _ := hfresh
  have hsz6 := ch6.size
  clear y2 hq6 hv6 ch6 hnl hfresh give6 src6 own6 hO6 hB6 PS G5 O5 B5 E5
  go_wp2_with fail
  refine Calls.mono SM.out ?_
  rintro e w7 ⟨rfl, ch7⟩
  have hB7 := Blk.keep B6.out ch7 (fun h => h)
  have hO7 : OwnT w7 (.slice (some ⟨g, 0, none⟩) N cap) (L ++ [((-1 : Int), (-7 : Int))]) := OwnT.keep O6.out ch7 (fun _ _ h => h)
  have y7 : w7.cell? ⟨w.heap.size, 2, none⟩ = some (.slice sa L.length sc) := hB7.cell 2
  obtain ⟨_, _, e7, _, hg7, hcell7⟩ := hO7.at (i := 0) (by simp)
  injection e7 with e8 e8b e8c
  injection e8 with e8
  injection e8 with e8 e8d e8e
  subst e8
  clear e8b e8c e8d e8e
  obtain ⟨x0, x1⟩ := hcell7 L.length (by simp)
  have hlast : tnth (L ++ [((-1 : Int), (-7 : Int))]) L.length = (-1, -7) := by unfold tnth; rw [List.getD_eq_getElem?_getD, List.getElem?_append_right (Nat.le_refl _)]; simp
  rw [hlast, Nat.zero_add] at x0 x1
  simp only at x0 x1
  obtain ⟨cs, hcs, hcl⟩ : ∃ cs : List Value, Blk w7 g cs 26 ∧ cs.length = cap * 2 := by
    rcases hO7.2 with ⟨e9, _⟩ | ⟨g', cap', cur, e9, _, hgg, _, _, hsz, _⟩
    · cases e9
    · injection e9 with e10 _ e12
      injection e10 with e10
      injection e10 with e10 _ _
      subst e10 e12
      exact ⟨cur.toList, ⟨hgg⟩, hsz⟩
  have K7 : Hid _ := hcs
  have C7 : Hid _ := ch7
  have S7 : Hid _ := Ths.keep S6.out ch7 (fun _ _ h => h)
  have U7 : Hid _ := OwnT.keep U6.out ch7 (fun _ _ h => h)
  have B7 : Hid _ := hB7
  have HCL : Hid _ := hcl
  have hNcap : N ≤ cap := hcap
  have hsz7 := ch7.size
  clear hcs ch7 hB7 hO7 hcell7 hlast hcl SM S6 U6 O6 B6 y6
  go_wp2_with fail
  clear x0 x1 y7
  have hNb : N ≤ 2097153 := by have := HN.out; omega
  go_loopg [64] (N + 1) (fun gk i wq => ∃ j : Nat, i = .int .i64 j ∧ j ≤ N ∧ N < gk + j ∧ Hid (∃ cs : List Value, Blk wq g cs 26 ∧ cs.length = cap * 2 ∧ Chg (fun k => k = g) w7 wq))
  case atStart => exact ⟨0, rfl, by omega, by omega, cs, K7.out, HCL.out, Chg.refl _ _⟩
  case round =>
    obtain ⟨j, rfl, hj, hgk, hid⟩ := hrel
    obtain ⟨ds, hds, hdl, hdc⟩ := hid.out
    clear hid
    by_cases h0 : j = N
    · subst h0
      have hng : ∀ k, w.heap.size ≤ k → k ≠ g → ¬ (k = g) := fun _ _ h => h
      have own8 : OwnT wr (.slice la l.length lc) l := OwnT.keep U7.out hdc (fun k hk e => by have := T0.out.own.lt hk; omega)
      have src8 : Ths wr (.slice sa L.length sc) L := Ths.keep' S7.out hdc (fun hne k hk e => by have := Ths.low TH.out hne k hk; omega)
      have hB8 := Blk.keep B7.out hdc (fun e => by omega)
      obtain ⟨v9, w9, hr9, ho9, hc9, hv9⟩ := run_app2 wr 28 (OwnT.nil wr) own8.ths (by simp; omega)
      rw [List.nil_append] at ho9
      have hC9 : Chg (fun _ => False) wr w9 := hc9.mono (fun k _ e => by simp [Value.ownBlock] at e)
      have hv9' : ∀ k, v9.ownBlock = some k → wr.heap.size ≤ k := fun k hk => by
        rcases hv9 with e | e
        · rw [hk] at e; simp [Value.ownBlock] at e
        · rw [hk] at e
          have : k = wr.heap.size := by simpa using e
          omega
      obtain ⟨v10, w10, hr10, ho10, hc10, hv10⟩ := run_app2 w9 28 ho9 (src8.keep hC9 (fun _ _ h => h)) (by omega)
      have hv10' : ∀ k, v10.ownBlock = some k → wr.heap.size ≤ k := fun k hk => by
        rcases hv10 with e | e
        · rw [hk] at e; exact hv9' k e.symm
        · rw [hk] at e
          have h9 : k = w9.heap.size := by simpa using e
          have := hC9.size
          omega
      have hC10 : Chg (fun _ => False) wr w10 := hC9.trans hc10 (fun k hk => .inr (hv9' k hk.symm))
      have hy9 : w9.cell? ⟨w.heap.size, 2, none⟩ = some (.slice sa L.length sc) := (Blk.keep hB8 hC9 (fun h => h)).cell 2
      obtain ⟨a9, c9, e9⟩ := ho9.form
      obtain ⟨a10, c10, e10⟩ := ho10.form
      subst e9 e10
      obtain ⟨n10, hn10⟩ : ∃ n, (l ++ L).length = n := ⟨_, rfl⟩
      rw [hn10] at hr10 ho10 hv10'
      have hC610 : Chg (fun k => k = g) w6 w10 := ((C7.out.mono (fun _ _ h => h.elim)).trans hdc (fun _ h => .inl h)).trans hC10 (fun _ h => h.elim)
      have hs8 := hdc.size
      have R9 : Hid _ := hr9
      have R10 : Hid _ := hr10
      have O10 : Hid _ := ho10
      have V10 : Hid _ := hv10'
      have C610 : Hid _ := hC610
      clear hr9 hr10 ho9 ho10 hc9 hc10 hv9 hv10 hv9' hv10' hC9 hC10 hn10 hC610 hds hdl hdc own8 src8 hB8 hng
      go_upto_region 16 with fail
      go_upto_region 17 with (at_builtin; refine wpList_app2 rfl (.tmp 72) (.tmp 73) rfl rfl rfl R9.out ?_)
      go_wp2_with (at_builtin; refine wpList_app2 rfl (.tmp 75) (.tmp 77) rfl rfl rfl R10.out ?_)
      go_ret2
      have hown : OwnT w10 (.slice a10 n10 c10) (l ++ L) := O10.out
      have hgp : g ≠ p := by omega
      have hgv : ∀ k, v6.ownBlock = some k → k ≠ g := fun k hk e => by
        rcases V6.out k hk with h9 | h9
        · have := T0.out.hq.vlt k h9.symm; omega
        · omega
      have hTS : TS w10 all p v6 (pushF (odB all) L H came).1 (came + L.length) (.slice a10 n10 c10) (l ++ L) := by
        refine ⟨Q6.out.keep C610.out (fun e => hgp e.symm) (fun k hk e => hgv k hk e), pushF_HO (tot_B all) L came T0.out.ho, ?_, hown, fun e => ?_, fun k hk e => ?_, by rw [pushF_len]; omega⟩
        · obtain ⟨R, hR⟩ := T0.out.fo
          exact Follows.pushes (odB all) L hR
        · have h8 := V10.out p e
          omega
        · have h8 := V10.out k hk
          have h9 := Q6.out.vlt k e
          omega
      have hCC : Chg (fun k => k = p ∨ some k = v.ownBlock) w w10 := ((((C2.out.trans C5.out (fun _ h => h.elim)).mono (fun _ _ h => h.elim)).trans C6.out (fun i hi => .inl (by rcases hi with h | h | h; exact .inl h; exact .inr h; exact h.elim))).trans C610.out (fun i hi => .inr (by omega)))
      have hVV : ∀ k, v6.ownBlock = some k → some k = v.ownBlock ∨ w.heap.size ≤ k := fun k hk => by
        rcases V6.out k hk with h9 | h9
        · exact .inl h9
        · exact .inr (by omega)
      have hLL : ∀ k, (Value.slice a10 n10 c10).ownBlock = some k → (Value.slice la l.length lc).ownBlock = some k ∨ w.heap.size ≤ k := fun k hk => by
        have := V10.out k hk
        exact .inr (by omega)
      exact ⟨_, rfl, v6, (pushF (odB all) L H came).1, came + L.length, l ++ L, hTS, by omega, hCC, hVV, hLL⟩
    · have hj1 : Hid (j + 1 ≤ N) := (by omega : j + 1 ≤ N)
      have hjN : (j : Int) < (N : Int) := by omega
      have q0 : wr.cell? ⟨g, j * 2, none⟩ = some (ds[j * 2]'(by omega)) := by rw [hds.cell, List.getElem?_eq_getElem]
      have q1 : wr.cell? ⟨g, j * 2 + 1, none⟩ = some (ds[j * 2 + 1]'(by omega)) := by rw [hds.cell, List.getElem?_eq_getElem]
      have f0 := hds.fr (j * 2)
      have f1 := hds.fr (j * 2 + 1)
      obtain ⟨z0, hz0⟩ : ∃ z, ds[j * 2]'(by omega) = z := ⟨_, rfl⟩
      obtain ⟨z1, hz1⟩ : ∃ z, ds[j * 2 + 1]'(by omega) = z := ⟨_, rfl⟩
      rw [hz0] at q0
      rw [hz1] at q1
      have D1 : Hid _ := (hds.set (j * 2) (.int .i64 99)).set (j * 2 + 1) (.int .i64 (-8))
      have D2 : Hid (Chg (fun k => k = g) w7 ((wr.setCell ⟨g, j * 2, none⟩ (.int .i64 99)).setCell ⟨g, j * 2 + 1, none⟩ (.int .i64 (-8)))) := (hdc.setCell (p := ⟨g, j * 2, none⟩) (.inl rfl) _).setCell (p := ⟨g, j * 2 + 1, none⟩) (.inl rfl) _
      have D3 : Hid _ := hdl
      clear hds hdc hdl hz0 hz1
      go_wp2_with fail
      go_roundg (N - j)
      case measure => have := hj1.out; omega
      case rel => exact ⟨j + 1, by go_num, hj1.out, by have := hj1.out; omega, _, D1.out, by rw [List.length_set, List.length_set]; exact D3.out, D2.out⟩
end
end Go.Proofs.Ytpkcabbfblhekaa
