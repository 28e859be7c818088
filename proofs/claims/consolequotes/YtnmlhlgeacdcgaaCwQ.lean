/-
  ConsoleQuotes, walked.
-/
import Derived.Test.YtnmlhlgeacdcgaaCwX
namespace Go.Proofs.Ytnmlhlgeacdcgaa
open Go.RowKit

theorem wds_back (x y : List UInt8) (s : List UInt8) (hs : s = ([32, 112, 117, 116, 32] : List UInt8) ++ (quo x ++ [34]) ++ [9] ++ (quo y ++ [34]) ++ [35, 32] ++ (quo x ++ [34])) (hl : s.length ≤ 65536) : wds ⟨s.toArray⟩ = ([[112, 117, 116], x, y], 0) := by
  have e : (⟨s.toArray⟩ : ByteArray).size = s.length := by rw [← bs_length, bs_mk]
  unfold wds
  rw [if_pos (by rw [e]; exact hl), bs_mk, hs, there_back]
  rfl
theorem size_toArray_ba (s : List UInt8) : (⟨s.toArray⟩ : ByteArray).size = s.length := by rw [← bs_length, bs_mk]
theorem beq_list (l : List UInt8) : (l == l) = true := by simp

set_option maxRecDepth 100000 in
set_option maxHeartbeats 4000000 in
theorem quotes_any {A1 A2 : Option Addr} {c1 c2 n1 n2 : Nat} {l1 l2 : List UInt8} (w : World) (hn1 : n1 = l1.length) (hn2 : n2 = l2.length) (hl1 : l1.length ≤ 140737488355328) (hl2 : l2.length ≤ 140737488355328) (hi1 : InB w A1 l1) (hi2 : InB w A2 l2) :
    Calls Try.prog 3 #[.slice A1 n1 c1, .slice A2 n2 c2] w fun e w' => e = .returned (.bool true) ∧ Chg (fun _ => False) w w' := by
  have Q1 : Hid _ := quote_any (c := c1) w hn1 (by omega) hi1
  have Q2 : Hid (∀ w', Chg (fun _ => False) w w' → Calls Try.prog 5 #[.slice A2 n2 c2] w' fun e w'' => e = .returned (.string ⟨(quo l2 ++ [34]).toArray⟩) ∧ Chg (fun _ => False) w' w'') := fun w' hc => quote_any (c := c2) w' hn2 (by omega) (hi2.kept hc)
  have I1 : Hid _ := hi1
  have I2 : Hid _ := hi2
  have HN : Hid _ := And.intro hn1 hn2
  have xa : (quo l1 ++ [34]).length ≤ 562949953421314 := by have := quo_len l1; simp; omega
  have xb : (quo l2 ++ [34]).length ≤ 562949953421314 := by have := quo_len l2; simp; omega
  obtain ⟨X, hX⟩ : ∃ X, X = quo l1 ++ [34] := ⟨_, rfl⟩
  obtain ⟨Y, hY⟩ : ∃ Y, Y = quo l2 ++ [34] := ⟨_, rfl⟩
  rw [← hX] at Q1 xa
  rw [← hY] at Q2 xb
  have HXY : Hid _ := And.intro hX hY
  clear hX hY hi1 hi2 hn1 hn2
  have sX : (⟨X.toArray⟩ : ByteArray).size = X.length := size_toArray_ba X
  have sY : (⟨Y.toArray⟩ : ByteArray).size = Y.length := size_toArray_ba Y
  by_cases hb : 2 * X.length + Y.length ≤ 60000
  · obtain ⟨s1, h1⟩ : ∃ s, s = ([32, 112, 117, 116, 32] : List UInt8) ++ X := ⟨_, rfl⟩
    obtain ⟨s2, h2⟩ : ∃ s, s = s1 ++ [9] := ⟨_, rfl⟩
    obtain ⟨s3, h3⟩ : ∃ s, s = s2 ++ Y := ⟨_, rfl⟩
    obtain ⟨s4, h4⟩ : ∃ s, s = s3 ++ [35, 32] := ⟨_, rfl⟩
    obtain ⟨s5, h5⟩ : ∃ s, s = s4 ++ X := ⟨_, rfl⟩
    have L1 : s1.length = 5 + X.length := by rw [h1]; simp; omega
    have L2 : s2.length = 6 + X.length := by rw [h2]; simp; omega
    have L3 : s3.length = 6 + X.length + Y.length := by rw [h3]; simp; omega
    have L4 : s4.length = 8 + X.length + Y.length := by rw [h4]; simp; omega
    have L5 : s5.length ≤ 65536 := by rw [h5]; simp; omega
    have a1 : ∀ w, (Op.stringOp .add ⟨#[32, 112, 117, 116, 32]⟩ ⟨X.toArray⟩).run Try.prog w = .ok (.string ⟨s1.toArray⟩) w := fun w => by rw [h1]; exact add_str (X := [32, 112, 117, 116, 32]) (by simp; omega) w
    have a2 : ∀ w, (Op.stringOp .add ⟨s1.toArray⟩ ⟨#[9]⟩).run Try.prog w = .ok (.string ⟨s2.toArray⟩) w := fun w => by rw [h2]; exact add_str (Y := [9]) (by simp; omega) w
    have a3 : ∀ w, (Op.stringOp .add ⟨s2.toArray⟩ ⟨Y.toArray⟩).run Try.prog w = .ok (.string ⟨s3.toArray⟩) w := fun w => by rw [h3]; exact add_str (by omega) w
    have a4 : ∀ w, (Op.stringOp .add ⟨s3.toArray⟩ ⟨#[35, 32]⟩).run Try.prog w = .ok (.string ⟨s4.toArray⟩) w := fun w => by rw [h4]; exact add_str (Y := [35, 32]) (by simp; omega) w
    have a5 : ∀ w, (Op.stringOp .add ⟨s4.toArray⟩ ⟨X.toArray⟩).run Try.prog w = .ok (.string ⟨s5.toArray⟩) w := fun w => by rw [h5]; exact add_str (by omega) w
    have WD : Hid (∀ w, Calls Try.prog 6 #[.string ⟨s5.toArray⟩] w (WdQ w ([[112, 117, 116], l1, l2], 0))) := fun w => by
      have := words_any ⟨s5.toArray⟩ w
      rwa [wds_back l1 l2 s5 (by rw [h5, h4, h3, h2, h1, HXY.out.1, HXY.out.2]) L5] at this
    have zb : (decide (60000 < 2 * (X.length : Int) + (Y.length : Int))) = false := by simp; omega
    clear h1 h2 h3 h4 h5 L1 L2 L3 L4 L5
    go_enter Try.func3, Try.ntmps3
    go_upto_region 5 with (first | (go_at_call 5; refine Calls.mono Q1.out ?_; rintro e w1 ⟨rfl, hq1⟩; have C1 : Hid _ := hq1; clear hq1 Q1) | (go_at_call 5; refine Calls.mono (Q2.out _ C1.out) ?_; rintro e w2 ⟨rfl, hq2⟩; have C2 : Hid _ := hq2; clear hq2) | (go_at_call 6; refine Calls.mono (WD.out _) ?_; rintro e w3 ⟨A3, n3, cc, rfl, hsl, hq3⟩; have C3 : Hid _ := hq3; have SL3 : Hid _ := hsl; clear hq3 hsl))
    have c3 : Chg (fun _ => False) w w3 := (C1.out.trans C2.out (fun _ e => e.elim)).trans C3.out (fun _ e => e.elim)
    have CC : Hid _ := c3
    have en : n3 = 3 := by
      obtain ⟨A', c', e3⟩ := own_form SL3.out
      injection e3
    subst en
    obtain ⟨g, rfl, k0⟩ := SL.at SL3.out 0 (by simp)
    obtain ⟨g', eg, k1⟩ := SL.at SL3.out 1 (by simp)
    obtain ⟨g'', eg', k2⟩ := SL.at SL3.out 2 (by simp)
    cases eg
    cases eg'
    have v1 : (convert 22 9 (.slice A1 n1 c1)).run Try.prog w3 = .ok (.string ⟨l1.toArray⟩) w3 := conv_back HN.out.1 (InB.kept I1.out c3)
    have v2 : (convert 22 9 (.slice A2 n2 c2)).run Try.prog w3 = .ok (.string ⟨l2.toArray⟩) w3 := conv_back HN.out.2 (InB.kept I2.out c3)
    have k0' : w3.drew.cell? ⟨g, 0, none⟩ = some (.string ⟨#[112, 117, 116]⟩) := k0
    have k1' : w3.drew.cell? ⟨g, 1, none⟩ = some (.string ⟨l1.toArray⟩) := k1
    have k2' : w3.drew.cell? ⟨g, 2, none⟩ = some (.string ⟨l2.toArray⟩) := k2
    have v1' : (convert 22 9 (.slice A1 n1 c1)).run Try.prog w3.drew = .ok (.string ⟨l1.toArray⟩) w3.drew := conv_back HN.out.1 (InB.kept I1.out c3.drew)
    have v2' : (convert 22 9 (.slice A2 n2 c2)).run Try.prog w3.drew = .ok (.string ⟨l2.toArray⟩) w3.drew := conv_back HN.out.2 (InB.kept I2.out c3.drew)
    clear k0 k1 k2 v1 v2 c3 a1 a2 a3 a4 a5 zb WD Q2 C1 C2 C3 SL3 sX sY
    obtain ⟨V, hV⟩ : ∃ V, V = w3.drew := ⟨_, rfl⟩
    rw [← hV] at k0' k1' k2' v1' v2'
    refine wp_region_held_drew (S := fun w' => V = w') (by kernel_rfl) hV (fun hS => ?_)
    rw [← hV]
    have HV : Hid _ := hV
    clear hV hS
    refine wpAnyH_take (i := 0) (v := .int .i64 0) rfl (by kernel_rfl) (by kernel_rfl) (by kernel_rfl) (fun _ _ _ h => h) (Or.inl ⟨by kernel_rfl, fun w' hw' => by subst hw'; go_simp⟩) rfl ?_
    refine wpAnyH_take (i := 1) (v := .bool true) rfl (by kernel_rfl) (by kernel_rfl) (by kernel_rfl) (fun _ _ _ h => h) (Or.inl ⟨by kernel_rfl, fun w' hw' => by subst hw'; go_simp⟩) rfl ?_
    refine wpAnyH_take (i := 2) (v := .bool true) rfl (by kernel_rfl) (by kernel_rfl) (by kernel_rfl) (fun _ _ _ h => h) (Or.inl ⟨by kernel_rfl, fun w' hw' => by subst hw'; go_simp⟩) rfl ?_
    refine wpAnyH_take (i := 3) (v := .slice (some ⟨g, 0, none⟩) 3 cc) rfl (by kernel_rfl) (by kernel_rfl) (by kernel_rfl) (fun _ _ _ h => h) (Or.inl ⟨by kernel_rfl, fun w' hw' => by subst hw'; go_simp⟩) rfl ?_
    refine wpAnyH_take (i := 4) (v := .int .i64 3) rfl (by kernel_rfl) (by kernel_rfl) (by kernel_rfl) (fun _ _ _ h => h) (Or.inl ⟨by kernel_rfl, fun w' hw' => by subst hw'; go_simp⟩) rfl ?_
    refine wpAnyH_take (i := 5) (v := .bool true) rfl (by kernel_rfl) (by kernel_rfl) (by kernel_rfl) (fun _ _ _ h => h) (Or.inl ⟨by kernel_rfl, fun w' hw' => by subst hw'; go_simp⟩) rfl ?_
    refine wpAnyH_take (i := 6) (v := .bool true) rfl (by kernel_rfl) (by kernel_rfl) (by kernel_rfl) (fun _ _ _ h => h) (Or.inl ⟨by kernel_rfl, fun w' hw' => by subst hw'; go_simp⟩) rfl ?_
    refine wpAnyH_take (i := 7) (v := .bool true) rfl (by kernel_rfl) (by kernel_rfl) (by kernel_rfl) (fun _ _ _ h => h) (Or.inl ⟨by kernel_rfl, fun w' hw' => by subst hw'; go_simp⟩) rfl ?_
    refine wpAnyH_take (i := 8) (v := .slice (some ⟨g, 0, none⟩) 3 cc) rfl (by kernel_rfl) (by kernel_rfl) (by kernel_rfl) (fun _ _ _ h => h) (Or.inl ⟨by kernel_rfl, fun w' hw' => by subst hw'; go_simp⟩) rfl ?_
    refine wpAnyH_take (i := 9) (v := .pointer (some ⟨g, 0, none⟩)) rfl (by kernel_rfl) (by kernel_rfl) (by kernel_rfl) (fun _ _ _ h => h) (Or.inl ⟨by kernel_rfl, fun w' hw' => by subst hw'; go_simp⟩) rfl ?_
    refine wpAnyH_take (i := 10) (v := .string ⟨#[112, 117, 116]⟩) rfl (by kernel_rfl) (by kernel_rfl) (by kernel_rfl) (fun _ _ _ h => h) (Or.inl ⟨by kernel_rfl, fun w' hw' => by subst hw'; go_simp⟩) rfl ?_
    refine wpAnyH_take (i := 11) (v := .bool true) rfl (by kernel_rfl) (by kernel_rfl) (by kernel_rfl) (fun _ _ _ h => h) (Or.inl ⟨by kernel_rfl, fun w' hw' => by subst hw'; go_simp⟩) rfl ?_
    refine wpAnyH_take (i := 12) (v := .bool true) rfl (by kernel_rfl) (by kernel_rfl) (by kernel_rfl) (fun _ _ _ h => h) (Or.inl ⟨by kernel_rfl, fun w' hw' => by subst hw'; go_simp⟩) rfl ?_
    refine wpAnyH_take (i := 13) (v := .bool true) rfl (by kernel_rfl) (by kernel_rfl) (by kernel_rfl) (fun _ _ _ h => h) (Or.inl ⟨by kernel_rfl, fun w' hw' => by subst hw'; go_simp⟩) rfl ?_
    refine wpAnyH_take (i := 14) (v := .slice (some ⟨g, 0, none⟩) 3 cc) rfl (by kernel_rfl) (by kernel_rfl) (by kernel_rfl) (fun _ _ _ h => h) (Or.inl ⟨by kernel_rfl, fun w' hw' => by subst hw'; go_simp⟩) rfl ?_
    refine wpAnyH_take (i := 15) (v := .pointer (some ⟨g, 1, none⟩)) rfl (by kernel_rfl) (by kernel_rfl) (by kernel_rfl) (fun _ _ _ h => h) (Or.inl ⟨by kernel_rfl, fun w' hw' => by subst hw'; go_simp⟩) rfl ?_
    refine wpAnyH_take (i := 16) (v := .string ⟨l1.toArray⟩) rfl (by kernel_rfl) (by kernel_rfl) (by kernel_rfl) (fun _ _ _ h => h) (Or.inl ⟨by kernel_rfl, fun w' hw' => by subst hw'; go_simp⟩) rfl ?_
    refine wpAnyH_take (i := 17) (v := .slice A1 n1 c1) rfl (by kernel_rfl) (by kernel_rfl) (by kernel_rfl) (fun _ _ _ h => h) (Or.inl ⟨by kernel_rfl, fun w' hw' => by subst hw'; go_simp⟩) rfl ?_
    refine wpAnyH_take (i := 18) (v := .string ⟨l1.toArray⟩) rfl (by kernel_rfl) (by kernel_rfl) (by kernel_rfl) (fun _ _ _ h => h) (Or.inl ⟨by kernel_rfl, fun w' hw' => by subst hw'; go_simp⟩) rfl ?_
    refine wpAnyH_take (i := 19) (v := .bool true) rfl (by kernel_rfl) (by kernel_rfl) (by kernel_rfl) (fun _ _ _ h => h) (Or.inl ⟨by kernel_rfl, fun w' hw' => by subst hw'; go_simp⟩) rfl ?_
    refine wpAnyH_take (i := 20) (v := .bool true) rfl (by kernel_rfl) (by kernel_rfl) (by kernel_rfl) (fun _ _ _ h => h) (Or.inl ⟨by kernel_rfl, fun w' hw' => by subst hw'; go_simp⟩) rfl ?_
    refine wpAnyH_take (i := 21) (v := .bool true) rfl (by kernel_rfl) (by kernel_rfl) (by kernel_rfl) (fun _ _ _ h => h) (Or.inl ⟨by kernel_rfl, fun w' hw' => by subst hw'; go_simp⟩) rfl ?_
    refine wpAnyH_take (i := 22) (v := .slice (some ⟨g, 0, none⟩) 3 cc) rfl (by kernel_rfl) (by kernel_rfl) (by kernel_rfl) (fun _ _ _ h => h) (Or.inl ⟨by kernel_rfl, fun w' hw' => by subst hw'; go_simp⟩) rfl ?_
    refine wpAnyH_take (i := 23) (v := .pointer (some ⟨g, 2, none⟩)) rfl (by kernel_rfl) (by kernel_rfl) (by kernel_rfl) (fun _ _ _ h => h) (Or.inl ⟨by kernel_rfl, fun w' hw' => by subst hw'; go_simp⟩) rfl ?_
    refine wpAnyH_take (i := 24) (v := .string ⟨l2.toArray⟩) rfl (by kernel_rfl) (by kernel_rfl) (by kernel_rfl) (fun _ _ _ h => h) (Or.inl ⟨by kernel_rfl, fun w' hw' => by subst hw'; go_simp⟩) rfl ?_
    refine wpAnyH_take (i := 25) (v := .slice A2 n2 c2) rfl (by kernel_rfl) (by kernel_rfl) (by kernel_rfl) (fun _ _ _ h => h) (Or.inl ⟨by kernel_rfl, fun w' hw' => by subst hw'; go_simp⟩) rfl ?_
    refine wpAnyH_take (i := 26) (v := .string ⟨l2.toArray⟩) rfl (by kernel_rfl) (by kernel_rfl) (by kernel_rfl) (fun _ _ _ h => h) (Or.inl ⟨by kernel_rfl, fun w' hw' => by subst hw'; go_simp⟩) rfl ?_
    refine wpAnyH_take (i := 27) (v := .bool true) rfl (by kernel_rfl) (by kernel_rfl) (by kernel_rfl) (fun _ _ _ h => h) (Or.inl ⟨by kernel_rfl, fun w' hw' => by subst hw'; go_simp⟩) rfl ?_
    refine wpAnyH_take (i := 28) (v := .bool true) rfl (by kernel_rfl) (by kernel_rfl) (by kernel_rfl) (fun _ _ _ h => h) (Or.inl ⟨by kernel_rfl, fun w' hw' => by subst hw'; go_simp⟩) rfl ?_
    refine wpAnyH_ready (rs := [29]) (by kernel_rfl) (by simp) ?_
    refine AllReadyH.cons rfl (fun K hK => ?_) AllReadyH.nil
    go_simp
    refine hK.out _ _ rfl (fun _ => ?_)
    clear hK K
    refine wpAnyH_done (by kernel_rfl) ?_ _
    have C4 : Hid (Chg (fun _ => False) w V) := by show Chg _ w V; have hV : V = w3.drew := HV.out; rw [hV]; exact CC.out.drew
    clear k0' k1' k2' v1' v2'
    go_wp2_with fail
    go_ret
    exact ⟨rfl, C4.out⟩
  · have zb : (decide (60000 < 2 * (X.length : Int) + (Y.length : Int))) = true := by simp; omega
    go_enter Try.func3, Try.ntmps3
    go_wp2_with (first | (go_at_call 5; refine Calls.mono Q1.out ?_; rintro e w1 ⟨rfl, hq1⟩; have C1 : Hid _ := hq1; clear hq1 Q1) | (go_at_call 5; refine Calls.mono (Q2.out _ C1.out) ?_; rintro e w2 ⟨rfl, hq2⟩; have C2 : Hid _ := hq2; clear hq2))
    go_ret
    exact ⟨rfl, C1.out.trans C2.out (fun _ e => e.elim)⟩
end Go.Proofs.Ytnmlhlgeacdcgaa
