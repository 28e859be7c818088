/-
  listed: a list handed to Sort and Least.
-/
import Derived.Test.YtbfbjjfjeiihbaaLsC
import Derived.Deep.RegionWith
namespace Go.Proofs.Ytbfbjjfjeiihbaa
open Go.RowKit

theorem fB_form (all : Bool) : fB all = .nilFunc ∨ ∃ g caps, fB all = .func (.func g) #[] caps := by
  cases all
  · exact .inr ⟨11, #[], rfl⟩
  · exact .inl rfl
theorem fB_plain (all : Bool) : ∀ cs, fB all ≠ .agg cs := fun cs e => by cases all <;> cases e

set_option maxRecDepth 100000 in
set_option maxHeartbeats 4000000 in
theorem listed_any {w : World} {s : Value} {L : List (Int × Int)} (hL : Ths w s L) (hl : L.length ≤ 1048576) (n : Int) (kk : Nat) (hk : (kk : Int) = max (min n L.length) 0) (all : Bool) :
    Calls Try.prog 30 #[s, .int .i64 n, fB all] w fun e w' => ∃ va vb, e = .returned (.tuple #[va, vb, .bool true]) ∧ Ths w' va (srt all L.length L) ∧ Ths w' vb ((srt all L.length L).take kk) ∧ Chg (fun _ => False) w w' := by
  obtain ⟨sa, sc, rfl⟩ := hL.form
  obtain ⟨f, hf⟩ : ∃ f, f = fB all := ⟨_, rfl⟩
  have O := od_B all
  have ff := fB_form all
  have fp := fB_plain all
  rw [← hf] at O ff fp ⊢
  obtain ⟨v3, w3, hr3, ho3, hc3, hv3⟩ := run_app2 w 28 (OwnT.nil w) hL (by simp; omega)
  rw [List.nil_append] at ho3
  have hC3 : Chg (fun _ => False) w w3 := hc3.mono (fun k _ e => by simp [Value.ownBlock] at e)
  have hv3' : ∀ k, v3.ownBlock = some k → w.heap.size ≤ k := fun k hk => by
    rcases hv3 with e | e
    · rw [hk] at e; simp [Value.ownBlock] at e
    · rw [hk] at e
      have : k = w.heap.size := by simpa using e
      omega
  obtain ⟨w4, hw4⟩ : ∃ w4, w4 = w3.alloc (.cells #[.int .i64 0, .int .i64 (-7)] 26) := ⟨_, rfl⟩
  have hc4 : Chg (fun _ => False) w3 w4 := by rw [hw4]; exact (Chg.refl _ _).alloc _
  have hX4 : Blk w4 w3.heap.size [.int .i64 0, .int .i64 (-7)] 26 := by rw [hw4]; exact Blk.made w3 [.int .i64 0, .int .i64 (-7)] 26
  have src4 : Ths w4 (.slice (some ⟨w3.heap.size, 0, none⟩) 1 1) [(0, -7)] := .inr (.inr ⟨w3.heap.size, 0, 1, rfl, fun i z hz => by
    cases i with
    | zero => have h9 : ((0 : Int), (-7 : Int)) = z := by simpa using hz
              subst h9; exact ⟨hX4.cell 0, hX4.cell 1⟩
    | succ i => simp at hz⟩)
  obtain ⟨v5, w5, hr5, ho5, hc5, hv5⟩ := run_app2 w4 28 (ho3.keep hc4 (fun _ _ h => h)) src4 (by simp; omega)
  have hC5 : Chg (fun _ => False) w w5 := (hC3.trans hc4 (fun _ h => h.elim)).trans hc5 (fun k hk => .inr (hv3' k hk.symm))
  obtain ⟨a3, c3, e3⟩ := ho3.form
  subst e3
  have hl5 : (L ++ [((0 : Int), (-7 : Int))]).length = L.length + 1 := by simp
  obtain ⟨g, cap, e5, hcap, hg5, hcell5⟩ := ho5.at (i := 0) (by omega)
  subst e5
  have hget : ∀ i, i < L.length → tnth (L ++ [((0 : Int), (-7 : Int))]) i = tnth L i := fun i hi => by unfold tnth; rw [List.getD_eq_getElem?_getD, List.getD_eq_getElem?_getD, List.getElem?_append_left hi]
  have give5 : Ths w5 (.slice (some ⟨g, 0, none⟩) L.length cap) L := by
    have := Ths.take0 (c := cap) hcell5 L.length (by omega)
    rwa [List.take_left' rfl] at this
  rw [hl5] at hr5 hcap
  have hlast : tnth (L ++ [((0 : Int), (-7 : Int))]) L.length = (0, -7) := by unfold tnth; rw [List.getD_eq_getElem?_getD, List.getElem?_append_right (Nat.le_refl _)]; simp
  obtain ⟨x0, x1⟩ := hcell5 L.length (by omega)
  rw [hlast, Nat.zero_add] at x0 x1
  simp only at x0 x1
  have SO : Hid _ := sort_any O (oneB_le all) ff give5 (fun _ _ _ h => h) 0 hl trivial (by omega)
  have LE : Hid (∀ w', Chg (fun _ => False) w5 w' → _) := fun w' (k : Chg (fun _ => False) w5 w') => least_any O (oneB_le all) fp (give5.keep k (fun _ _ h => h)) (fun _ _ _ h => h) n kk 0 hk hl trivial (by omega)
  have SM : Hid (∀ w', Chg (fun _ => False) w5 w' → _) := fun w' (k : Chg (fun _ => False) w5 w') => same_any (give5.keep k (fun _ _ h => h)) ((hL.keep hC5 (fun _ _ h => h)).keep k (fun _ _ h => h)) (by omega)
  have R3 : Hid _ := hr3
  have R5 : Hid _ := hr5
  have W4 : Hid _ := hw4
  have C5 : Hid _ := hC5
  have X0 : Hid _ := x0
  have X1 : Hid _ := x1
  have hlc : (L.length : Int) ≤ (cap : Int) := by omega
  have EQ := eql26
  have HK : Hid _ := hk
  clear O ff fp hf hr3 ho3 hc3 hv3 hC3 hv3' hw4 hc4 hX4 src4 hr5 ho5 hc5 hv5 hC5 hl5 hcell5 hget give5 hlast x0 x1 hL hk
  go_enter Try.func30, Try.ntmps30
  go_upto_region 5 with (at_builtin; first | (refine wpList_app2 rfl (.tmp 14) (.tmp 15) rfl rfl rfl R3.out ?_) | (rw [← W4.out]; refine wpList_app2 rfl (.tmp 17) (.tmp 19) rfl rfl rfl R5.out ?_))
  go_wp2_with fail
  refine Calls.mono SO.out ?_
  rintro e w6 ⟨va, rfl, oa, _, _, ch6⟩
  have A6 : Hid (OwnT _ _ _) := oa
  have C6 : Hid (Chg _ _ _) := ch6
  clear oa ch6 SO
  go_wp2_with fail
  refine Calls.mono (SM.out w6 C6.out) ?_
  rintro e w7 ⟨rfl, ch7⟩
  have C7 : Hid (Chg (fun _ => False) w5 w7) := C6.out.trans ch7 (fun _ h => h.elim)
  have A7 : Hid (OwnT _ _ _) := A6.out.keep ch7 (fun _ _ h => h)
  clear ch7 A6 C6
  go_wp2_with fail
  refine Calls.mono (LE.out w7 C7.out) ?_
  rintro e w8 ⟨vb, rfl, ob, _, _, ch8⟩
  have C8 : Hid (Chg (fun _ => False) w5 w8) := C7.out.trans ch8 (fun _ h => h.elim)
  have A8 : Hid (OwnT _ _ _) := A7.out.keep ch8 (fun _ _ h => h)
  have B8 : Hid (OwnT _ _ _) := ob
  clear ch8 ob A7 C7 LE
  have SM8 : Hid _ := SM.out w8.drew C8.out.drew
  have hNn : (L.length : Int) < (L.length : Int) + 1 := by omega
  have NQ : Hid (∀ w9, Chg (fun _ => False) w8.drew w9 → w9.cell? ⟨g, L.length * 2, none⟩ = some (.int .i64 0) ∧ w9.cell? ⟨g, L.length * 2 + 1, none⟩ = some (.int .i64 (-7))) := fun w9 k => by
    have hb : w9.heap[g]? = w5.heap[g]? := (C8.out.drew.trans k (fun _ h => h.elim)).block g hg5 (fun h => h)
    exact ⟨(World.cell?_of_block (a := ⟨g, L.length * 2, none⟩) hb).trans X0.out, (World.cell?_of_block (a := ⟨g, L.length * 2 + 1, none⟩) hb).trans X1.out⟩
  clear SM X0 X1
  go_wp2_with fail
  go_region_with (go_at_call 19; refine Calls.mono SM8.out ?_; rintro e w9 ⟨rfl, ch9⟩; obtain ⟨x0, x1⟩ := NQ.out w9 ch9; have C9 : Hid (Chg _ _ _) := ch9; clear ch9)
  go_wp2_with fail
  refine bodyPost_ret (results_tmp3 rfl _ _ _) rfl ?_
  have hkl : kk ≤ L.length := by have := HK.out; omega
  have hall : Chg (fun _ => False) w8 w9 := ((Chg.refl (fun _ => False) w8).drew).trans C9.out (fun _ h => h.elim)
  have qa := (A8.out.keep hall (fun _ _ h => h)).ths
  have qb := (B8.out.keep hall (fun _ _ h => h)).ths
  rw [sort_srt] at qa
  rw [least_is all L kk hkl, sort_srt] at qb
  exact ⟨va, vb, rfl, qa, qb, (C5.out.trans C8.out (fun _ h => h.elim)).trans hall (fun _ h => h.elim)⟩

end Go.Proofs.Ytbfbjjfjeiihbaa
