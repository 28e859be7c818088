/-
  The document's Sort and Least.
-/
import Derived.Test.YtbfbjjfjeiihbaaLsA
import Derived.Test.YtbfbjjfjeiihbaaRef2
import Derived.Test.YtbfbjjfjeiihbaaTurn
namespace Go.Proofs.Ytbfbjjfjeiihbaa
open Go.RowKit

set_option maxRecDepth 100000 in
set_option maxHeartbeats 2000000 in
theorem without_gen {w : World} {s : Value} {L : List (Int × Int)} (h : Ths w s L) (hcp : ∀ a n c, s = .slice a n c → n ≤ c) (hl : L.length ≤ 2097152) (i : Nat) (hi : i < L.length) :
    Calls Try.prog 29 #[s, .int .i64 i] w fun e w' => ∃ v, e = .returned v ∧ OwnT w' v (wo L i) ∧ Chg (fun _ => False) w w' ∧ ∀ k, v.ownBlock = some k → w.heap.size ≤ k := by
  obtain ⟨b, o, c, rfl, hc⟩ := h.at hi
  have hcap := hcp _ _ _ rfl
  have hb : b < w.heap.size := World.block_lt_of_cell? _ _ (hc i hi).1
  obtain ⟨v1, w1, hr1, ho1, hc1, hv1⟩ := run_app2 w 28 (OwnT.nil w) (Ths.cut (n := i) (c := c) hc 0 i (by omega) rfl) (by simp; omega)
  rw [Nat.zero_mul, Nat.add_zero] at hr1
  rw [List.nil_append, List.drop_zero] at ho1
  have hc1' : Chg (fun _ => False) w w1 := hc1.mono (fun k _ e => by simp [Value.ownBlock] at e)
  have hv1' : ∀ k, v1.ownBlock = some k → w.heap.size ≤ k := fun k hk => by
    rcases hv1 with e | e
    · rw [hk] at e; simp [Value.ownBlock] at e
    · rw [hk] at e
      have : k = w.heap.size := by simpa using e
      omega
  have hcc : ∀ j, j < L.length → w1.cell? ⟨b, o + j * 2, none⟩ = some (.int .i64 (tnth L j).1) ∧ w1.cell? ⟨b, o + j * 2 + 1, none⟩ = some (.int .i64 (tnth L j).2) := fun j hj => by
    obtain ⟨h1, h2⟩ := hc j hj
    have hb' : w1.heap[b]? = w.heap[b]? := hc1'.block b hb (fun h => h)
    exact ⟨(World.cell?_of_block (a := ⟨b, o + j * 2, none⟩) hb').trans h1, (World.cell?_of_block (a := ⟨b, o + j * 2 + 1, none⟩) hb').trans h2⟩
  obtain ⟨U, hU, hUe⟩ : ∃ U, Ths w1 U (L.drop (i + 1)) ∧ ((c = i + 1 ∧ L.length = i + 1 ∧ U = .slice (some ⟨b, o, none⟩) 0 0) ∨ (c ≠ i + 1 ∧ U = .slice (some ⟨b, o + (i + 1) * 2, none⟩) (L.length - (i + 1)) (c - (i + 1)))) := by
    by_cases hce : c = i + 1
    · have hl9 : L.length = i + 1 := by omega
      exact ⟨_, .inr (.inl ⟨⟨b, o, none⟩, 0, rfl, List.drop_eq_nil_of_le (by omega)⟩), .inl ⟨hce, hl9, rfl⟩⟩
    · refine ⟨_, ?_, .inr ⟨hce, rfl⟩⟩
      have := Ths.cut (n := L.length - (i + 1)) (c := c - (i + 1)) hcc (i + 1) (L.length - (i + 1)) (by omega) rfl
      rw [List.take_of_length_le (l := L.drop (i + 1)) (by rw [List.length_drop]; exact Nat.le_refl _)] at this
      exact this
  obtain ⟨v2, w2, hr2, ho2, hc2, hv2⟩ := run_app2 w1 28 ho1 hU (by simp; omega)
  have ewo : L.take i ++ L.drop (i + 1) = wo L i := rfl
  rw [ewo] at ho2
  have hch2 : Chg (fun _ => False) w w2 := hc1'.trans hc2 (fun k e => .inr (hv1' k e.symm))
  have hv2' : ∀ k, v2.ownBlock = some k → w.heap.size ≤ k := fun k hk => by
    rcases hv2 with e | e
    · rw [hk] at e; exact hv1' k e.symm
    · rw [hk] at e
      have h9 : k = w1.heap.size := by simpa using e
      have := hc1'.size
      omega
  obtain ⟨a1, c1, e1⟩ := ho1.form
  obtain ⟨a2, c2, e2⟩ := ho2.form
  subst e1 e2
  obtain ⟨n1, hn1⟩ : ∃ n, (L.take i).length = n := ⟨_, rfl⟩
  obtain ⟨n2, hn2⟩ : ∃ n, (wo L i).length = n := ⟨_, rfl⟩
  rw [hn1] at hr1 hr2
  rw [hn2] at hr2 ho2 hv2'
  have R1 : Hid _ := hr1
  have R2 : Hid _ := hr2
  have O2 : Hid _ := ho2
  have C2 : Hid _ := hch2
  have V2 : Hid _ := hv2'
  obtain ⟨N, hN⟩ : ∃ N, L.length = N := ⟨_, rfl⟩
  rw [hN] at hUe hcap ⊢
  have hiN : (i : Int) < (N : Int) := by omega
  have hNc : (N : Int) ≤ (c : Int) := by omega
  have hN9 : N ≤ 2097152 := by omega
  clear hr1 hr2 ho2 hch2 hv2' hc1 hv1 hc1' hv1' hcc hc2 hv2 ewo hc h hcp ho1 hn1 hn2 hl hi hN hU
  rcases hUe with ⟨hce, hl9, rfl⟩ | ⟨hce, rfl⟩
  · subst hce hl9
    go_enter Try.func29, Try.ntmps29
    go_upto_region 3 with (at_builtin; refine wpList_app2 rfl (.tmp 6) (.tmp 9) rfl rfl rfl R1.out ?_)
    go_wp2_with (at_builtin; refine wpList_app2 rfl (.tmp 11) (.tmp 15) rfl rfl rfl R2.out ?_)
    go_ret
    exact ⟨_, rfl, O2.out, C2.out, V2.out⟩
  · go_enter Try.func29, Try.ntmps29
    go_upto_region 3 with (at_builtin; refine wpList_app2 rfl (.tmp 6) (.tmp 9) rfl rfl rfl R1.out ?_)
    go_wp2_with (at_builtin; refine wpList_app2 rfl (.tmp 11) (.tmp 15) rfl rfl rfl R2.out ?_)
    go_ret
    exact ⟨_, rfl, O2.out, C2.out, V2.out⟩


/-- A list whose slice may be cut. -/
structure Tc (w : World) (s : Value) (L : List (Int × Int)) : Prop where
  ths : Ths w s L
  cap : ∀ a n c, s = .slice a n c → n ≤ c

theorem OwnT.tc {w : World} {v : Value} {L : List (Int × Int)} (h : OwnT w v L) : Tc w v L := by
  refine ⟨h.ths, fun a n c e => ?_⟩
  rcases h.2 with ⟨e2, _⟩ | ⟨g, cap, cur, e2, _, _, hle, _⟩
  · rw [e2] at e
    injection e with _ e3 _
    omega
  · rw [e2] at e
    injection e with _ e3 e4
    omega
theorem Tc.keep {w w' : World} {s : Value} {L : List (Int × Int)} {S : Nat → Prop} (h : Tc w s L) (c : Chg S w w') (hn : ∀ k, s.ownBlock = some k → ¬ S k) : Tc w' s L := ⟨h.ths.keep c hn, h.cap⟩

/-- The document's Sort. -/
def srt (all : Bool) : Nat → List (Int × Int) → List (Int × Int)
  | 0, _ => []
  | n + 1, l => tnth l (firstU all l l.length).toNat :: srt all n (wo l (firstU all l l.length).toNat)
theorem srt_len (all : Bool) : ∀ (n : Nat) (l : List (Int × Int)), (srt all n l).length = n
  | 0, _ => rfl
  | n + 1, l => by simp [srt, srt_len all n]

theorem drF_srt (all : Bool) : ∀ (n : Nat) (H : List E) (came : Nat) (l : List (Int × Int)) (R : List E), H.length = n → HO (odB all) H → Follows H came l R → (drF (odB all) n H).1 = srt all n l
  | 0, _, _, _, _, _, _, _ => rfl
  | n + 1, H, came, l, R, hn, ho, hf => by
    have hl := hf.len
    obtain ⟨m, m1, m2, m3⟩ := hf.first ho (by omega)
    have h1 : (firstU all l l.length).toNat = m := by rw [m1]; rfl
    show (nth H 0).th :: (drF (odB all) n (popF (odB all) H).1).1 = tnth l (firstU all l l.length).toNat :: srt all n (wo l (firstU all l l.length).toNat)
    rw [h1, drF_srt all n _ came (wo l m) (wo R m) (by rw [popF_len]; omega) (popF_HO (tot_B all) ho (by omega)) (hf.pop m2 m3 (popF_perm (odB all) (by omega))), m3, ← th_nth m2, hf.list]

/-- Sort is the document's. -/
theorem sort_srt (all : Bool) (L : List (Int × Int)) : (drF (odB all) L.length (pushF (odB all) L [] 0).1).1 = srt all L.length L := by
  obtain ⟨R, hR⟩ := Follows.pushes (odB all) L Follows.nil
  rw [List.nil_append] at hR
  exact drF_srt all L.length _ _ L R (by rw [pushF_len]; simp) (pushF_HO (tot_B all) L 0 (HO.nil _)) hR

set_option maxRecDepth 100000 in
set_option maxHeartbeats 2000000 in
theorem refsort_any {W : World} {s : Value} {L : List (Int × Int)} (h : Tc W s L) (hl : L.length ≤ 2097152) (all : Bool) :
    Calls Try.prog 31 #[s, .bool all] W fun e w' => ∃ v, e = .returned v ∧ OwnT w' v (srt all L.length L) ∧ Chg (fun _ => False) W w' ∧ ∀ k, v.ownBlock = some k → W.heap.size ≤ k := by
  obtain ⟨sa, sc, rfl⟩ := h.ths.form
  have H0 : Hid _ := h
  clear h
  go_enter Try.func31, Try.ntmps31
  go_wp2_with fail
  go_loopg [0, 5] (L.length + 1) (fun gk sl sv wr => ∃ (l out : List (Int × Int)) (la : Option Addr) (lc : Nat) (va : Option Addr) (vc : Nat), sl = .slice la l.length lc ∧ sv = .slice va out.length vc ∧ l.length < gk ∧ l.length + out.length = L.length ∧ Hid (Tc wr (.slice la l.length lc) l ∧ OwnT wr (.slice va out.length vc) out ∧ Chg (fun _ => False) W wr ∧ (∀ k, (Value.slice va out.length vc).ownBlock = some k → W.heap.size ≤ k) ∧ (∀ k, l ≠ [] → (Value.slice la l.length lc).ownBlock = some k → (Value.slice va out.length vc).ownBlock ≠ some k) ∧ out ++ srt all l.length l = srt all L.length L))
  case atStart => exact ⟨L, [], sa, sc, none, 0, rfl, rfl, by omega, by simp, H0.out, OwnT.nil _, Chg.refl _ _, fun k hk => by simp [Value.ownBlock] at hk, fun k _ _ e => by simp [Value.ownBlock] at e, rfl⟩
  case round =>
    obtain ⟨l, out, la, lc, va, vc, rfl, rfl, hgk, hlen, hid⟩ := hrel
    obtain ⟨htc, hown, hch, hvl, hne, heq⟩ := hid.out
    clear hid H0
    by_cases h0 : l.length = 0
    · have hl0 : l = [] := List.eq_nil_of_length_eq_zero h0
      subst hl0
      have heq' : out = srt all L.length L := by rw [← heq]; simp [srt]
      have OW : Hid (OwnT _ _ _) := hown
      have CH : Hid _ := hch
      have VL : Hid _ := hvl
      have HE : Hid _ := heq'
      clear htc hown hch hvl hne heq heq'
      go_wp2_with fail
      go_ret
      exact ⟨_, rfl, by rw [← HE.out]; exact OW.out, CH.out, VL.out⟩
    · have h0' : (0 : Int) < (l.length : Int) := by omega
      obtain ⟨m, m1, m2, _, _⟩ := firstU_spec all l l.length (by omega)
      have FI : Hid _ := first_any htc.ths (by omega) all
      rw [m1] at FI
      have hne0 : l ≠ [] := fun e => h0 (by rw [e]; rfl)
      obtain ⟨b, o, c, hsl, hcel⟩ := htc.ths.at m2
      injection hsl with hla _ hlc
      subst hla hlc
      obtain ⟨x, hx⟩ : ∃ x, tnth l m = x := ⟨_, rfl⟩
      have hlt : b < wr.heap.size := World.block_lt_of_cell? _ _ (hcel m m2).1
      have hm0 : (m : Int) < (l.length : Int) := by omega
      have T0 : Hid _ := htc
      have O0 : Hid _ := hown
      have C0 : Hid _ := hch
      have V0 : Hid _ := hvl
      have N0 : Hid _ := hne
      have E0 : Hid _ := heq
      have M1 : Hid _ := m1
      have X0 : Hid _ := hx
      have HC : Hid _ := hcel
      have NE : Hid _ := hne0
      clear htc hown hch hvl hne heq m1 hx hcel hne0
      go_wp2_with fail
      refine Calls.mono FI.out ?_
      rintro e w1 ⟨rfl, ch1⟩
      obtain ⟨xk, xn⟩ := x
      have hb1 : w1.heap[b]? = wr.heap[b]? := ch1.block b hlt (fun h => h)
      have y0 : w1.cell? ⟨b, o + m * 2, none⟩ = some (.int .i64 xk) := by
        have := (World.cell?_of_block (a := ⟨b, o + m * 2, none⟩) hb1).trans (HC.out m m2).1
        rwa [X0.out] at this
      have y1 : w1.cell? ⟨b, o + m * 2 + 1, none⟩ = some (.int .i64 xn) := by
        have := (World.cell?_of_block (a := ⟨b, o + m * 2 + 1, none⟩) hb1).trans (HC.out m m2).2
        rwa [X0.out] at this
      obtain ⟨w2, hw2⟩ : ∃ w2, w2 = w1.alloc (.cells #[.int .i64 xk, .int .i64 xn] 26) := ⟨_, rfl⟩
      have hc2 : Chg (fun _ => False) wr w2 := by rw [hw2]; exact ch1.trans ((Chg.refl (fun _ => False) w1).alloc _) (fun _ h => h.elim)
      have hB2 : Blk w2 w1.heap.size [.int .i64 xk, .int .i64 xn] 26 := by rw [hw2]; exact Blk.made w1 [.int .i64 xk, .int .i64 xn] 26
      have th2' : Ths w2 (.slice (some ⟨w1.heap.size, 0, none⟩) 1 1) [(xk, xn)] := .inr (.inr ⟨w1.heap.size, 0, 1, rfl, fun i z hz => by
        cases i with
        | zero =>
          have h9 : (xk, xn) = z := by simpa using hz
          subst h9
          exact ⟨hB2.cell 0, hB2.cell 1⟩
        | succ i => simp at hz⟩)
      obtain ⟨v3, w3, hr3, ho3, hch3, hv3⟩ := run_app2 w2 28 (OwnT.keep O0.out hc2 (fun _ _ h => h)) th2' (by simp; omega)
      have hsz2 := hc2.size
      have hv3' : ∀ k, v3.ownBlock = some k → (Value.slice va out.length vc).ownBlock = some k ∨ w2.heap.size ≤ k := fun k hk => by
        rcases hv3 with e | e
        · rw [hk] at e; exact .inl e.symm
        · rw [hk] at e
          have h9 : k = w2.heap.size := by simpa using e
          exact .inr (by omega)
      have tc3 := (Tc.keep T0.out hc2 (fun _ _ h => h)).keep hch3 (fun k hk e => N0.out k NE.out hk e.symm)
      have WO : Hid _ := without_gen tc3.ths tc3.cap (by omega) m m2
      have hC3 : Chg (fun _ => False) W w3 := (C0.out.trans hc2 (fun _ h => h.elim)).trans hch3 (fun i hi => .inr (V0.out i hi.symm))
      obtain ⟨a3, c3, hf3⟩ := ho3.form
      rw [List.length_append, List.length_singleton] at hf3
      subst hf3
      have R3 : Hid _ := hr3
      have W2 : Hid _ := hw2
      have O3 : Hid (OwnT _ _ _) := ho3
      have C3 : Hid _ := hC3
      have V3 : Hid _ := hv3'
      have hsz3 := hch3.size
      have hW0 := C0.out.size
      clear hr3 hw2 ho3 hC3 hv3' hv3 hch3 th2' hB2 hc2 tc3 hb1 ch1 FI
      go_wp2_with (at_builtin; rw [← W2.out]; refine wpList_app2 rfl (.tmp 13) (.tmp 18) rfl rfl rfl R3.out ?_)
      refine Calls.mono WO.out ?_
      rintro e w4 ⟨v4, rfl, o4, ch4, hl4⟩
      obtain ⟨a4, c4, hf4⟩ := o4.form
      subst hf4
      have O4 : Hid (OwnT _ _ _) := o4
      have C4 : Hid _ := ch4
      have L4 : Hid _ := hl4
      have hwl : (wo l m).length + 1 = l.length := by
        unfold wo
        rw [List.length_append, List.length_take, List.length_drop]
        omega
      clear o4 ch4 hl4 WO
      go_wp2_with fail
      go_roundg l.length
      case measure => omega
      case rel =>
        refine ⟨wo l m, out ++ [(xk, xn)], a4, c4, a3, c3, rfl, by simp, by omega, by simp; omega, O4.out.tc, ?_, C3.out.trans C4.out (fun _ h => h.elim), ?_, ?_, ?_⟩
        · have := O3.out.keep C4.out (fun _ _ h => h)
          simpa using this
        · intro k hk
          have hk' : (Value.slice a3 (out.length + 1) c3).ownBlock = some k := by simpa [Value.ownBlock] using hk
          rcases V3.out k hk' with e | e
          · exact V0.out k e
          · omega
        · intro k _ hk e
          have hk' : (Value.slice a3 (out.length + 1) c3).ownBlock = some k := by simpa [Value.ownBlock] using e
          have q1 := L4.out k hk
          have q2 := O3.out.lt hk'
          omega
        · rw [List.append_assoc, ← E0.out, ← hwl]
          show out ++ ([(xk, xn)] ++ srt all (wo l m).length (wo l m)) = out ++ (tnth l (firstU all l l.length).toNat :: srt all (wo l m).length (wo l (firstU all l l.length).toNat))
          rw [M1.out, Int.toNat_natCast, X0.out]
          rfl

end Go.Proofs.Ytbfbjjfjeiihbaa
