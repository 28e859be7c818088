/-
  One turn of HeapTurns: Swap.
-/
import Derived.Test.YtpkcabbfblhekaaTurn3
namespace Go.Proofs.Ytpkcabbfblhekaa
open Go.RowKit

theorem Ths.keep' {w w' : World} {s : Value} {L : List (Int × Int)} {S : Nat → Prop} (h : Ths w s L) (c : Chg S w w') (hn : L ≠ [] → ∀ k, s.ownBlock = some k → ¬ S k) : Ths w' s L := by
  by_cases h0 : L = []
  · rcases h with h | h | ⟨b, o, cp, rfl, _⟩
    · exact .inl h
    · exact .inr (.inl h)
    · subst h0
      exact .inr (.inl ⟨_, _, rfl, rfl⟩)
  · exact h.keep c (hn h0)

section
variable {w : World} {all : Bool} {p : Nat} {v : Value} {H : List E} {came : Nat} {lv : Value} {l : List (Int × Int)}

set_option maxRecDepth 100000 in
set_option maxHeartbeats 4000000 in
theorem turn_swap (h : TS w all p v H came lv l) {which : Int} {s : Value} {L : List (Int × Int)} (hL : Ths w s L) (hsb : ∀ k, L ≠ [] → s.ownBlock = some k → k ≠ p ∧ some k ≠ v.ownBlock) (hcm : came + L.length + 1 ≤ 2097152) :
    Calls Try.prog 25 #[.pointer (some ⟨p, 0, none⟩), lv, .agg #[.int .i64 4, .int .i64 which, s], .bool all] w fun e w' => ∃ lv', e = .returned (.tuple #[lv', .bool true]) ∧ TP w w' all p v came lv (L.length + 1) lv' := by
  have hlen := h.len
  have hcmH := h.cm
  have hll : l.length ≤ 2097152 := by omega
  obtain ⟨la, lc, rfl⟩ := h.own.form
  obtain ⟨sa, sc, rfl⟩ := hL.form
  obtain ⟨w1, hw1⟩ : ∃ w1, w1 = w.alloc (.cells #[.int .i64 4, .int .i64 which, .slice sa L.length sc] 30) := ⟨_, rfl⟩
  have hc1 : Chg (fun _ => False) w w1 := by rw [hw1]; exact (Chg.refl _ _).alloc _
  have hB1 : Blk w1 w.heap.size [.int .i64 4, .int .i64 which, .slice sa L.length sc] 30 := by rw [hw1]; exact Blk.made w [.int .i64 4, .int .i64 which, .slice sa L.length sc] 30
  have h1 := h.keep hc1
  have FI : Hid _ := first_any h1.own.ths hll all
  have W1 : Hid _ := hw1
  have C1 : Hid _ := hc1
  have B1 : Hid _ := hB1
  have T0 : Hid _ := h
  have T1 : Hid _ := h1
  have TH : Hid _ := hL
  have SB : Hid _ := hsb
  clear hw1 hc1 hB1 h h1 hL hsb
  go_enter Try.func25, Try.ntmps25
  go_wp2_with fail
  rw [← W1.out]
  refine Calls.mono FI.out ?_
  rintro e w2 ⟨rfl, ch2⟩
  have hB2 := Blk.keep B1.out ch2 (fun h => h)
  have k0 : w2.cell? ⟨w.heap.size, 0, none⟩ = some (.int .i64 4) := hB2.cell 0
  have k2' : w2.cell? ⟨w.heap.size, 2, none⟩ = some (.slice sa L.length sc) := hB2.cell 2
  have hT2 := T1.out.keep ch2
  have hC2 : Chg (fun _ => False) w w2 := C1.out.trans ch2 (fun _ h => h.elim)
  have T2 : Hid _ := hT2
  have C2 : Hid _ := hC2
  have B2 : Hid _ := hB2
  obtain ⟨fi, hfi⟩ : ∃ fi, firstU all l l.length = fi := ⟨_, rfl⟩
  rw [hfi]
  have FF : Hid _ := hfi
  have hsz2 : w.heap.size < w2.heap.size := hB2.lt
  have hpl : p < w.heap.size := T0.out.hq.lt
  clear ch2 hB2 hT2 hC2 hfi FI W1 C1 B1 T1
  have ON : Hid _ := one_any (Ths.keep TH.out C2.out (fun _ _ h => h))
  obtain ⟨a, ha⟩ : ∃ a, headT L = a := ⟨_, rfl⟩
  rw [ha] at ON
  obtain ⟨ak, an⟩ := a
  unfold two at ON
  have HA : Hid _ := ha
  clear ha
  go_wp2_with fail
  refine Calls.mono ON.out ?_
  rintro e w3 ⟨rfl, ch3⟩
  have hT3 := T2.out.keep ch3
  have SW0 := swap_any (od_B all) hT3.hq (by omega) (by omega) (oneB_le all) (ak, an)
  obtain ⟨r, hr⟩ : ∃ r, (nth H 0).th = r := ⟨_, rfl⟩
  obtain ⟨bb, hbb⟩ : ∃ bb, decide (0 < H.length) = bb := ⟨_, rfl⟩
  have RT := hT3.right
  rw [hr, hbb] at SW0 RT
  obtain ⟨rk, rn⟩ := r
  have RR : Hid _ := TR.mk RT
  have SW : Hid _ := SW0
  unfold two at SW
  have T3 : Hid _ := hT3
  have B3 : Hid _ := Blk.keep B2.out ch3 (fun h => h)
  have C3 : Hid (Chg (fun _ => False) w w3) := C2.out.trans ch3 (fun _ h => h.elim)
  have hsz3 : w.heap.size < w3.heap.size := Blk.lt B3.out
  clear SW0 RT hr hbb hT3 ch3 ON k0 k2'
  go_wp2_with fail
  refine Calls.mono SW.out ?_
  rintro e w4 ⟨rfl, ⟨v4, hq4, hv4⟩, _, ch4⟩
  have hnl : ∀ k, (Value.slice la l.length lc).ownBlock = some k → ¬ (k = p ∨ some k = v.ownBlock ∨ False) := fun k hk e => by
    rcases e with e | e | e
    · exact T3.out.np (by rw [hk, e])
    · exact T3.out.nv k hk e.symm
    · exact e
  have hnB : ¬ (w.heap.size = p ∨ some w.heap.size = v.ownBlock ∨ False) := fun e => by
    rcases e with e | e | e
    · omega
    · have := T0.out.hq.vlt _ e.symm; omega
    · exact e
  obtain ⟨w5, hw5⟩ : ∃ w5, w5 = w4.alloc (.cells #[.int .i64 rk, .int .i64 rn] 26) := ⟨_, rfl⟩
  have hc5 : Chg (fun _ => False) w4 w5 := by rw [hw5]; exact (Chg.refl _ _).alloc _
  have own5 : OwnT w5 (.slice la l.length lc) l := (T3.out.own.keep ch4 hnl).keep hc5 (fun _ _ h => h)
  have hB5 := (Blk.keep B3.out ch4 hnB).keep hc5 (fun h => h)
  have th5 : Ths w5 (.slice sa L.length sc) L := (Ths.keep' (Ths.keep TH.out C3.out (fun _ _ h => h)) ch4 (fun hne k hk e => by
    obtain ⟨h1, h2⟩ := SB.out k hne hk
    rcases e with e | e | e
    · exact h1 e
    · exact h2 e
    · exact e)).keep hc5 (fun _ _ h => h)
  have TK : Hid _ := took_any own5.ths hll (TR.r RR.out)
  unfold two at TK
  have O5 : Hid _ := own5
  have B5 : Hid _ := hB5
  have H5 : Hid _ := th5
  have W5 : Hid _ := hw5
  have Q4 : Hid _ := hq4
  have V4 : Hid _ := hv4
  have C4 : Hid _ := ch4
  have C5 : Hid _ := hc5
  have hsz4 : w3.heap.size ≤ w4.heap.size := ch4.size
  clear hw5 hc5 own5 hB5 th5 hq4 hv4 ch4 hnl hnB SW
  go_wp2_with fail
  rw [← W5.out]
  refine Calls.mono TK.out ?_
  rintro e w6 ⟨rfl, ch6⟩
  have own6 := OwnT.keep O5.out ch6 (fun _ _ h => h)
  have hC46 : Chg (fun _ => False) w4 w6 := C5.out.trans ch6 (fun _ h => h.elim)
  obtain ⟨v7, w7, hr7, ho7, hc7, hv7⟩ := run_app2 w6 28 (OwnT.nil w6) own6.ths (by simp; omega)
  rw [List.nil_append] at ho7
  have hC7 : Chg (fun _ => False) w6 w7 := hc7.mono (fun k _ e => by simp [Value.ownBlock] at e)
  have hv7' : ∀ k, v7.ownBlock = some k → w6.heap.size ≤ k := fun k hk => by
    rcases hv7 with e | e
    · rw [hk] at e; simp [Value.ownBlock] at e
    · rw [hk] at e
      have : k = w6.heap.size := by simpa using e
      omega
  obtain ⟨a7, c7, e7⟩ := ho7.form
  subst e7
  have hC47 : Chg (fun _ => False) w4 w7 := hC46.trans hC7 (fun _ h => h.elim)
  have R7 : Hid _ := hr7
  have O7 : Hid _ := ho7
  have C47 : Hid _ := hC47
  have own7 : Hid (OwnT w7 (.slice la l.length lc) l) := own6.keep hC7 (fun _ _ h => h)
  have B7 : Hid _ := (Blk.keep B5.out ch6 (fun h => h)).keep hC7 (fun h => h)
  have H7 : Hid _ := (Ths.keep H5.out ch6 (fun _ _ h => h)).keep hC7 (fun _ _ h => h)
  have V7 : Hid _ := hv7'
  have hsz6 : w4.heap.size ≤ w6.heap.size := hC46.size
  clear ch6 own6 hC46 hr7 ho7 hc7 hv7 hC7 hv7' hC47 TK W5 O5 B5 H5
  go_upto_region 32 with (at_builtin; refine wpList_app2 rfl (.tmp 127) (.tmp 128) rfl rfl rfl R7.out ?_)
  by_cases h0 : 0 < H.length
  · obtain ⟨R, hR⟩ := T0.out.fo
    obtain ⟨m, hm1, hm2, hm3⟩ := hR.first T0.out.ho (by omega)
    have hRl : R.length = l.length := by rw [← hR.list, List.length_map]
    have hfm : fi = (m : Int) := FF.out.symm.trans hm1
    subst hfm
    have hml : m < l.length := by omega
    have hm0 : (0 : Int) ≤ (m : Int) := by omega
    have FO : Hid (∃ R', Follows (swapH (odB all) H came (ak, an)) (came + 1) (wo l m ++ [(ak, an)]) R') := Follows.swap hR (ak, an) h0 hm2 hm3
    have WO : Hid _ := without_any own7.out hll m hml
    clear hR hm1 hm2 hm3 hRl
    go_wp2_with fail
    refine Calls.mono WO.out ?_
    rintro e w8 ⟨v8, rfl, o8, ch8, hl8⟩
    obtain ⟨a8, c8, e8⟩ := o8.form
    subst e8
    have hKl : (wo l m).length ≤ l.length := by unfold wo; simp; omega
    have O8 : Hid _ := o8
    have B8 : Hid _ := Blk.keep B7.out ch8 (fun h => h)
    have H8 : Hid _ := Ths.keep H7.out ch8 (fun _ _ h => h)
    have C48 : Hid (Chg (fun _ => False) w4 w8) := C47.out.trans ch8 (fun _ h => h.elim)
    have hs7 := C47.out.size
    have V8 : Hid (∀ k, (Value.slice a8 (wo l m).length c8).ownBlock = some k → w4.heap.size ≤ k) := fun k hk => by have := hl8 k hk; omega
    clear o8 ch8 hl8 WO
    have ON8 := one_any (w := w8) H8.out
    rw [HA.out] at ON8
    have ON9 : Hid _ := ON8
    unfold two at ON9
    have y2 : w8.cell? ⟨w.heap.size, 2, none⟩ = some (.slice sa L.length sc) := (B8.out).cell 2
    clear ON8
    go_wp2_with fail
    refine Calls.mono ON9.out ?_
    rintro e w9 ⟨rfl, ch9⟩
    obtain ⟨w10, hw10⟩ : ∃ w10, w10 = w9.alloc (.cells #[.int .i64 ak, .int .i64 an] 26) := ⟨_, rfl⟩
    have hc10 : Chg (fun _ => False) w9 w10 := by rw [hw10]; exact (Chg.refl _ _).alloc _
    have hX10 : Blk w10 w9.heap.size [.int .i64 ak, .int .i64 an] 26 := by rw [hw10]; exact Blk.made w9 [.int .i64 ak, .int .i64 an] 26
    have hC10 : Chg (fun _ => False) w8 w10 := ch9.trans hc10 (fun _ h => h.elim)
    have own10 : OwnT w10 (.slice a8 (wo l m).length c8) (wo l m) := OwnT.keep O8.out hC10 (fun _ _ h => h)
    have src10 : Ths w10 (.slice (some ⟨w9.heap.size, 0, none⟩) 1 1) [(ak, an)] := .inr (.inr ⟨w9.heap.size, 0, 1, rfl, fun i z hz => by
      cases i with
      | zero => have h9 : (ak, an) = z := by simpa using hz
                subst h9; exact ⟨hX10.cell 0, hX10.cell 1⟩
      | succ i => simp at hz⟩)
    obtain ⟨v11, w11, hr11, ho11, hc11, hv11⟩ := run_app2 w10 28 own10 src10 (by have := hKl; simp; omega)
    obtain ⟨a11, c11, e11⟩ := ho11.form
    subst e11
    have hv11' : ∀ k, (Value.slice a11 (wo l m ++ [(ak, an)]).length c11).ownBlock = some k → w4.heap.size ≤ k := fun k hk => by
      rcases hv11 with e | e
      · rw [hk] at e; exact V8.out k e.symm
      · rw [hk] at e
        have h9 : k = w10.heap.size := by simpa using e
        have := hC10.size
        have := C48.out.size
        omega
    have hC411 : Chg (fun _ => False) w4 w11 := (C48.out.trans hC10 (fun _ h => h.elim)).trans hc11 (fun k hk => .inr (V8.out k hk.symm))
    obtain ⟨n11, hn11⟩ : ∃ n, (wo l m ++ [(ak, an)]).length = n := ⟨_, rfl⟩
    rw [hn11] at hr11 ho11 hv11'
    have R11 : Hid _ := hr11
    have O11 : Hid _ := ho11
    have V11 : Hid _ := hv11'
    have C411 : Hid _ := hC411
    have W10 : Hid _ := hw10
    clear hc10 hX10 hC10 own10 src10 hc11 hv11 ch9 hr11 ho11 hv11' hC411 hn11 hw10 y2 ON9
    go_wp2_with (at_builtin; rw [← W10.out]; refine wpList_app2 rfl (.tmp 135) (.tmp 139) rfl rfl rfl R11.out ?_)
    go_ret2
    have hown : OwnT w11 (.slice a11 n11 c11) (wo l m ++ [(ak, an)]) := O11.out
    have hTS : TS w11 all p v4 (swapH (odB all) H came (ak, an)) (came + 1) (.slice a11 n11 c11) (wo l m ++ [(ak, an)]) := by
      refine ⟨Q4.out.keep C411.out (fun h => h) (fun _ _ h => h), swapH_HO T0.out.ho came (ak, an), FO.out, hown, fun e => ?_, fun k hk e => ?_, ?_⟩
      · have h8 := V11.out p e
        omega
      · have h8 := V11.out k hk
        have h9 := Q4.out.vlt k e
        omega
      · have := swapH_len (odB all) H came (ak, an)
        omega
    have hCC : Chg (fun k => k = p ∨ some k = v.ownBlock) w w11 := ((C3.out.mono (fun _ _ h => h.elim)).trans C4.out (fun i hi => .inl (by rcases hi with h | h | h; exact .inl h; exact .inr h; exact h.elim))).trans C411.out (fun _ h => h.elim)
    have hVV : ∀ k, v4.ownBlock = some k → some k = v.ownBlock ∨ w.heap.size ≤ k := fun k hk => by
      rcases V4.out k hk with h9 | h9
      · exact .inl h9
      · exact .inr (by omega)
    have hLL : ∀ k, (Value.slice a11 n11 c11).ownBlock = some k → (Value.slice la l.length lc).ownBlock = some k ∨ w.heap.size ≤ k := fun k hk => by
      have := V11.out k hk
      exact .inr (by omega)
    exact ⟨_, rfl, v4, swapH (odB all) H came (ak, an), came + 1, wo l m ++ [(ak, an)], hTS, by omega, hCC, hVV, hLL⟩
  · have hH0 : H = [] := List.eq_nil_of_length_eq_zero (by omega)
    have hl0 : l = [] := List.eq_nil_of_length_eq_zero (by omega)
    have hfm : fi = -1 := by rw [← FF.out, hl0]; rfl
    subst hfm
    have FO : Hid (∃ R', Follows (swapH (odB all) H came (ak, an)) (came + 1) (l ++ [(ak, an)]) R') := by
      obtain ⟨R, hR⟩ := T0.out.fo
      rw [hH0, hl0] at hR ⊢
      exact Follows.swap0 hR (ak, an)
    have hKl : l.length ≤ l.length := Nat.le_refl _
    have O8 : Hid _ := O7.out
    have B8 : Hid _ := B7.out
    have H8 : Hid _ := H7.out
    have C48 : Hid _ := C47.out
    have V8 : Hid (∀ k, (Value.slice a7 l.length c7).ownBlock = some k → w4.heap.size ≤ k) := fun k hk => by have := V7.out k hk; omega
    clear hH0 hl0
    go_upto_region 34 with fail
    have ON8 := one_any (w := w7) H8.out
    rw [HA.out] at ON8
    have ON9 : Hid _ := ON8
    unfold two at ON9
    have y2 : w7.cell? ⟨w.heap.size, 2, none⟩ = some (.slice sa L.length sc) := (B8.out).cell 2
    clear ON8
    go_wp2_with fail
    refine Calls.mono ON9.out ?_
    rintro e w9 ⟨rfl, ch9⟩
    obtain ⟨w10, hw10⟩ : ∃ w10, w10 = w9.alloc (.cells #[.int .i64 ak, .int .i64 an] 26) := ⟨_, rfl⟩
    have hc10 : Chg (fun _ => False) w9 w10 := by rw [hw10]; exact (Chg.refl _ _).alloc _
    have hX10 : Blk w10 w9.heap.size [.int .i64 ak, .int .i64 an] 26 := by rw [hw10]; exact Blk.made w9 [.int .i64 ak, .int .i64 an] 26
    have hC10 : Chg (fun _ => False) w7 w10 := ch9.trans hc10 (fun _ h => h.elim)
    have own10 : OwnT w10 (.slice a7 l.length c7) l := OwnT.keep O8.out hC10 (fun _ _ h => h)
    have src10 : Ths w10 (.slice (some ⟨w9.heap.size, 0, none⟩) 1 1) [(ak, an)] := .inr (.inr ⟨w9.heap.size, 0, 1, rfl, fun i z hz => by
      cases i with
      | zero => have h9 : (ak, an) = z := by simpa using hz
                subst h9; exact ⟨hX10.cell 0, hX10.cell 1⟩
      | succ i => simp at hz⟩)
    obtain ⟨v11, w11, hr11, ho11, hc11, hv11⟩ := run_app2 w10 28 own10 src10 (by have := hKl; simp; omega)
    obtain ⟨a11, c11, e11⟩ := ho11.form
    subst e11
    have hv11' : ∀ k, (Value.slice a11 (l ++ [(ak, an)]).length c11).ownBlock = some k → w4.heap.size ≤ k := fun k hk => by
      rcases hv11 with e | e
      · rw [hk] at e; exact V8.out k e.symm
      · rw [hk] at e
        have h9 : k = w10.heap.size := by simpa using e
        have := hC10.size
        have := C48.out.size
        omega
    have hC411 : Chg (fun _ => False) w4 w11 := (C48.out.trans hC10 (fun _ h => h.elim)).trans hc11 (fun k hk => .inr (V8.out k hk.symm))
    obtain ⟨n11, hn11⟩ : ∃ n, (l ++ [(ak, an)]).length = n := ⟨_, rfl⟩
    rw [hn11] at hr11 ho11 hv11'
    have R11 : Hid _ := hr11
    have O11 : Hid _ := ho11
    have V11 : Hid _ := hv11'
    have C411 : Hid _ := hC411
    have W10 : Hid _ := hw10
    clear hc10 hX10 hC10 own10 src10 hc11 hv11 ch9 hr11 ho11 hv11' hC411 hn11 hw10 y2 ON9
    go_wp2_with (at_builtin; rw [← W10.out]; refine wpList_app2 rfl (.tmp 135) (.tmp 139) rfl rfl rfl R11.out ?_)
    go_ret2
    have hown : OwnT w11 (.slice a11 n11 c11) (l ++ [(ak, an)]) := O11.out
    have hTS : TS w11 all p v4 (swapH (odB all) H came (ak, an)) (came + 1) (.slice a11 n11 c11) (l ++ [(ak, an)]) := by
      refine ⟨Q4.out.keep C411.out (fun h => h) (fun _ _ h => h), swapH_HO T0.out.ho came (ak, an), FO.out, hown, fun e => ?_, fun k hk e => ?_, ?_⟩
      · have h8 := V11.out p e
        omega
      · have h8 := V11.out k hk
        have h9 := Q4.out.vlt k e
        omega
      · have := swapH_len (odB all) H came (ak, an)
        omega
    have hCC : Chg (fun k => k = p ∨ some k = v.ownBlock) w w11 := ((C3.out.mono (fun _ _ h => h.elim)).trans C4.out (fun i hi => .inl (by rcases hi with h | h | h; exact .inl h; exact .inr h; exact h.elim))).trans C411.out (fun _ h => h.elim)
    have hVV : ∀ k, v4.ownBlock = some k → some k = v.ownBlock ∨ w.heap.size ≤ k := fun k hk => by
      rcases V4.out k hk with h9 | h9
      · exact .inl h9
      · exact .inr (by omega)
    have hLL : ∀ k, (Value.slice a11 n11 c11).ownBlock = some k → (Value.slice la l.length lc).ownBlock = some k ∨ w.heap.size ≤ k := fun k hk => by
      have := V11.out k hk
      exact .inr (by omega)
    exact ⟨_, rfl, v4, swapH (odB all) H came (ak, an), came + 1, l ++ [(ak, an)], hTS, by omega, hCC, hVV, hLL⟩
end
end Go.Proofs.Ytpkcabbfblhekaa
