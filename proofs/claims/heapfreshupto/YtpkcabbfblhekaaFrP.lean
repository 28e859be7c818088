import Derived.Test.YtpkcabbfblhekaaLsA
import Derived.Test.YtpkcabbfblhekaaRef2
import Derived.Test.YtpkcabbfblhekaaTurn
import Derived.Test.YtpkcabbfblhekaaLeB
/-
  The document's Sort and Least.
-/
namespace Go.Proofs.Ytpkcabbfblhekaa
open Go.RowKit

set_option maxRecDepth 100000 in
set_option maxHeartbeats 2000000 in
theorem without_gen {w : World} {s : Value} {L : List (Int × Int)} (h : Ths w s L) (hcp : ∀ a n c, s = .slice a n c → n ≤ c) (hl : L.length ≤ 2097152) (i : Nat) (hi : i < L.length) :
    Calls Try.prog 41 #[s, .int .i64 i] w fun e w' => ∃ v, e = .returned v ∧ OwnT w' v (wo L i) ∧ Chg (fun _ => False) w w' ∧ ∀ k, v.ownBlock = some k → w.heap.size ≤ k := by
  obtain ⟨b, o, c, rfl, hc⟩ := h.at hi
  have hcap := hcp _ _ _ rfl
  have hb : b < w.heap.size := World.block_lt_of_cell? _ _ (hc i hi).1
  obtain ⟨v1, w1, hr1, ho1, hc1, hv1⟩ := run_app2 w 28 (OwnT.nil w) (Ths.cut (n := i) (c := c) hc 0 i (by omega) rfl) (by simp; omega)
  rw [Nat.zero_mul, Nat.add_zero] at hr1
  rw [List.nil_append, List.drop_zero] at ho1
  have hc1' : Chg (fun _ => False) w w1 := hc1.mono (fun k _ e => by simp [Value.ownBlock] at e)
  have hv1' : ∀ k, v1.ownBlock = some k → w.heap.size ≤ k := fun k hk => by
    rcases hv1 with e | e
    · rw [hk] at e; simp [Value.ownBlock] at e
    · rw [hk] at e
      have : k = w.heap.size := by simpa using e
      omega
  have hcc : ∀ j, j < L.length → w1.cell? ⟨b, o + j * 2, none⟩ = some (.int .i64 (tnth L j).1) ∧ w1.cell? ⟨b, o + j * 2 + 1, none⟩ = some (.int .i64 (tnth L j).2) := fun j hj => by
    obtain ⟨h1, h2⟩ := hc j hj
    have hb' : w1.heap[b]? = w.heap[b]? := hc1'.block b hb (fun h => h)
    exact ⟨(World.cell?_of_block (a := ⟨b, o + j * 2, none⟩) hb').trans h1, (World.cell?_of_block (a := ⟨b, o + j * 2 + 1, none⟩) hb').trans h2⟩
  obtain ⟨U, hU, hUe⟩ : ∃ U, Ths w1 U (L.drop (i + 1)) ∧ ((c = i + 1 ∧ L.length = i + 1 ∧ U = .slice (some ⟨b, o, none⟩) 0 0) ∨ (c ≠ i + 1 ∧ U = .slice (some ⟨b, o + (i + 1) * 2, none⟩) (L.length - (i + 1)) (c - (i + 1)))) := by
    by_cases hce : c = i + 1
    · have hl9 : L.length = i + 1 := by omega
      exact ⟨_, .inr (.inl ⟨⟨b, o, none⟩, 0, rfl, List.drop_eq_nil_of_le (by omega)⟩), .inl ⟨hce, hl9, rfl⟩⟩
    · refine ⟨_, ?_, .inr ⟨hce, rfl⟩⟩
      have := Ths.cut (n := L.length - (i + 1)) (c := c - (i + 1)) hcc (i + 1) (L.length - (i + 1)) (by omega) rfl
      rw [List.take_of_length_le (l := L.drop (i + 1)) (by rw [List.length_drop]; exact Nat.le_refl _)] at this
      exact this
  obtain ⟨v2, w2, hr2, ho2, hc2, hv2⟩ := run_app2 w1 28 ho1 hU (by simp; omega)
  have ewo : L.take i ++ L.drop (i + 1) = wo L i := rfl
  rw [ewo] at ho2
  have hch2 : Chg (fun _ => False) w w2 := hc1'.trans hc2 (fun k e => .inr (hv1' k e.symm))
  have hv2' : ∀ k, v2.ownBlock = some k → w.heap.size ≤ k := fun k hk => by
    rcases hv2 with e | e
    · rw [hk] at e; exact hv1' k e.symm
    · rw [hk] at e
      have h9 : k = w1.heap.size := by simpa using e
      have := hc1'.size
      omega
  obtain ⟨a1, c1, e1⟩ := ho1.form
  obtain ⟨a2, c2, e2⟩ := ho2.form
  subst e1 e2
  obtain ⟨n1, hn1⟩ : ∃ n, (L.take i).length = n := ⟨_, rfl⟩
  obtain ⟨n2, hn2⟩ : ∃ n, (wo L i).length = n := ⟨_, rfl⟩
  rw [hn1] at hr1 hr2
  rw [hn2] at hr2 ho2 hv2'
  have R1 : Hid _ := hr1
  have R2 : Hid _ := hr2
  have O2 : Hid _ := ho2
  have C2 : Hid _ := hch2
  have V2 : Hid _ := hv2'
  obtain ⟨N, hN⟩ : ∃ N, L.length = N := ⟨_, rfl⟩
  rw [hN] at hUe hcap ⊢
  have hiN : (i : Int) < (N : Int) := by omega
  have hNc : (N : Int) ≤ (c : Int) := by omega
  have hN9 : N ≤ 2097152 := by omega
  clear hr1 hr2 ho2 hch2 hv2' hc1 hv1 hc1' hv1' hcc hc2 hv2 ewo hc h hcp ho1 hn1 hn2 hl hi hN hU
  rcases hUe with ⟨hce, hl9, rfl⟩ | ⟨hce, rfl⟩
  · subst hce hl9
    go_enter Try.func41, Try.ntmps41
    go_upto_region 3 with (at_builtin; refine wpList_app2 rfl (.tmp 6) (.tmp 9) rfl rfl rfl R1.out ?_)
    go_wp2_with (at_builtin; refine wpList_app2 rfl (.tmp 11) (.tmp 15) rfl rfl rfl R2.out ?_)
    go_ret
    exact ⟨_, rfl, O2.out, C2.out, V2.out⟩
  · go_enter Try.func41, Try.ntmps41
    go_upto_region 3 with (at_builtin; refine wpList_app2 rfl (.tmp 6) (.tmp 9) rfl rfl rfl R1.out ?_)
    go_wp2_with (at_builtin; refine wpList_app2 rfl (.tmp 11) (.tmp 15) rfl rfl rfl R2.out ?_)
    go_ret
    exact ⟨_, rfl, O2.out, C2.out, V2.out⟩


/-- A list whose slice may be cut. -/
structure Tc (w : World) (s : Value) (L : List (Int × Int)) : Prop where
  ths : Ths w s L
  cap : ∀ a n c, s = .slice a n c → n ≤ c

theorem OwnT.tc {w : World} {v : Value} {L : List (Int × Int)} (h : OwnT w v L) : Tc w v L := by
  refine ⟨h.ths, fun a n c e => ?_⟩
  rcases h.2 with ⟨e2, _⟩ | ⟨g, cap, cur, e2, _, _, hle, _⟩
  · rw [e2] at e
    injection e with _ e3 _
    omega
  · rw [e2] at e
    injection e with _ e3 e4
    omega
theorem Tc.keep {w w' : World} {s : Value} {L : List (Int × Int)} {S : Nat → Prop} (h : Tc w s L) (c : Chg S w w') (hn : ∀ k, s.ownBlock = some k → ¬ S k) : Tc w' s L := ⟨h.ths.keep c hn, h.cap⟩

/-- The document's Sort. -/
def srt (all : Bool) : Nat → List (Int × Int) → List (Int × Int)
  | 0, _ => []
  | n + 1, l => tnth l (firstU all l l.length).toNat :: srt all n (wo l (firstU all l l.length).toNat)
theorem srt_len (all : Bool) : ∀ (n : Nat) (l : List (Int × Int)), (srt all n l).length = n
  | 0, _ => rfl
  | n + 1, l => by simp [srt, srt_len all n]

theorem drF_srt (all : Bool) : ∀ (n : Nat) (H : List E) (came : Nat) (l : List (Int × Int)) (R : List E), H.length = n → HO (odB all) H → Follows H came l R → (drF (odB all) n H).1 = srt all n l
  | 0, _, _, _, _, _, _, _ => rfl
  | n + 1, H, came, l, R, hn, ho, hf => by
    have hl := hf.len
    obtain ⟨m, m1, m2, m3⟩ := hf.first ho (by omega)
    have h1 : (firstU all l l.length).toNat = m := by rw [m1]; rfl
    show (nth H 0).th :: (drF (odB all) n (popF (odB all) H).1).1 = tnth l (firstU all l l.length).toNat :: srt all n (wo l (firstU all l l.length).toNat)
    rw [h1, drF_srt all n _ came (wo l m) (wo R m) (by rw [popF_len]; omega) (popF_HO (tot_B all) ho (by omega)) (hf.pop m2 m3 (popF_perm (odB all) (by omega))), m3, ← th_nth m2, hf.list]

/-- Sort is the document's. -/
theorem sort_srt (all : Bool) (L : List (Int × Int)) : (drF (odB all) L.length (pushF (odB all) L [] 0).1).1 = srt all L.length L := by
  obtain ⟨R, hR⟩ := Follows.pushes (odB all) L Follows.nil
  rw [List.nil_append] at hR
  exact drF_srt all L.length _ _ L R (by rw [pushF_len]; simp) (pushF_HO (tot_B all) L 0 (HO.nil _)) hR

set_option maxRecDepth 100000 in
set_option maxHeartbeats 2000000 in
theorem refsort_any {W : World} {s : Value} {L : List (Int × Int)} (h : Tc W s L) (hl : L.length ≤ 2097152) (all : Bool) :
    Calls Try.prog 27 #[s, .bool all] W fun e w' => ∃ v, e = .returned v ∧ OwnT w' v (srt all L.length L) ∧ Chg (fun _ => False) W w' ∧ ∀ k, v.ownBlock = some k → W.heap.size ≤ k := by
  obtain ⟨sa, sc, rfl⟩ := h.ths.form
  have H0 : Hid _ := h
  clear h
  go_enter Try.func27, Try.ntmps27
  go_wp2_with fail
  go_loopg [0, 5] (L.length + 1) (fun gk sl sv wr => ∃ (l out : List (Int × Int)) (la : Option Addr) (lc : Nat) (va : Option Addr) (vc : Nat), sl = .slice la l.length lc ∧ sv = .slice va out.length vc ∧ l.length < gk ∧ l.length + out.length = L.length ∧ Hid (Tc wr (.slice la l.length lc) l ∧ OwnT wr (.slice va out.length vc) out ∧ Chg (fun _ => False) W wr ∧ (∀ k, (Value.slice va out.length vc).ownBlock = some k → W.heap.size ≤ k) ∧ (∀ k, l ≠ [] → (Value.slice la l.length lc).ownBlock = some k → (Value.slice va out.length vc).ownBlock ≠ some k) ∧ out ++ srt all l.length l = srt all L.length L))
  case atStart => exact ⟨L, [], sa, sc, none, 0, rfl, rfl, by omega, by simp, H0.out, OwnT.nil _, Chg.refl _ _, fun k hk => by simp [Value.ownBlock] at hk, fun k _ _ e => by simp [Value.ownBlock] at e, rfl⟩
  case round =>
    obtain ⟨l, out, la, lc, va, vc, rfl, rfl, hgk, hlen, hid⟩ := hrel
    obtain ⟨htc, hown, hch, hvl, hne, heq⟩ := hid.out
    clear hid H0
    by_cases h0 : l.length = 0
    · have hl0 : l = [] := List.eq_nil_of_length_eq_zero h0
      subst hl0
      have heq' : out = srt all L.length L := by rw [← heq]; simp [srt]
      have OW : Hid (OwnT _ _ _) := hown
      have CH : Hid _ := hch
      have VL : Hid _ := hvl
      have HE : Hid _ := heq'
      clear htc hown hch hvl hne heq heq'
      go_wp2_with fail
      go_ret
      exact ⟨_, rfl, by rw [← HE.out]; exact OW.out, CH.out, VL.out⟩
    · have h0' : (0 : Int) < (l.length : Int) := by omega
      obtain ⟨m, m1, m2, _, _⟩ := firstU_spec all l l.length (by omega)
      have FI : Hid _ := first_any htc.ths (by omega) all
      rw [m1] at FI
      have hne0 : l ≠ [] := fun e => h0 (by rw [e]; rfl)
      obtain ⟨b, o, c, hsl, hcel⟩ := htc.ths.at m2
      injection hsl with hla _ hlc
      subst hla hlc
      obtain ⟨x, hx⟩ : ∃ x, tnth l m = x := ⟨_, rfl⟩
      have hlt : b < wr.heap.size := World.block_lt_of_cell? _ _ (hcel m m2).1
      have hm0 : (m : Int) < (l.length : Int) := by omega
      have T0 : Hid _ := htc
      have O0 : Hid _ := hown
      have C0 : Hid _ := hch
      have V0 : Hid _ := hvl
      have N0 : Hid _ := hne
      have E0 : Hid _ := heq
      have M1 : Hid _ := m1
      have X0 : Hid _ := hx
      have HC : Hid _ := hcel
      have NE : Hid _ := hne0
      clear htc hown hch hvl hne heq m1 hx hcel hne0
      go_wp2_with fail
      refine Calls.mono FI.out ?_
      rintro e w1 ⟨rfl, ch1⟩
      obtain ⟨xk, xn⟩ := x
      have hb1 : w1.heap[b]? = wr.heap[b]? := ch1.block b hlt (fun h => h)
      have y0 : w1.cell? ⟨b, o + m * 2, none⟩ = some (.int .i64 xk) := by
        have := (World.cell?_of_block (a := ⟨b, o + m * 2, none⟩) hb1).trans (HC.out m m2).1
        rwa [X0.out] at this
      have y1 : w1.cell? ⟨b, o + m * 2 + 1, none⟩ = some (.int .i64 xn) := by
        have := (World.cell?_of_block (a := ⟨b, o + m * 2 + 1, none⟩) hb1).trans (HC.out m m2).2
        rwa [X0.out] at this
      obtain ⟨w2, hw2⟩ : ∃ w2, w2 = w1.alloc (.cells #[.int .i64 xk, .int .i64 xn] 26) := ⟨_, rfl⟩
      have hc2 : Chg (fun _ => False) wr w2 := by rw [hw2]; exact ch1.trans ((Chg.refl (fun _ => False) w1).alloc _) (fun _ h => h.elim)
      have hB2 : Blk w2 w1.heap.size [.int .i64 xk, .int .i64 xn] 26 := by rw [hw2]; exact Blk.made w1 [.int .i64 xk, .int .i64 xn] 26
      have th2' : Ths w2 (.slice (some ⟨w1.heap.size, 0, none⟩) 1 1) [(xk, xn)] := .inr (.inr ⟨w1.heap.size, 0, 1, rfl, fun i z hz => by
        cases i with
        | zero =>
          have h9 : (xk, xn) = z := by simpa using hz
          subst h9
          exact ⟨hB2.cell 0, hB2.cell 1⟩
        | succ i => simp at hz⟩)
      obtain ⟨v3, w3, hr3, ho3, hch3, hv3⟩ := run_app2 w2 28 (OwnT.keep O0.out hc2 (fun _ _ h => h)) th2' (by simp; omega)
      have hsz2 := hc2.size
      have hv3' : ∀ k, v3.ownBlock = some k → (Value.slice va out.length vc).ownBlock = some k ∨ w2.heap.size ≤ k := fun k hk => by
        rcases hv3 with e | e
        · rw [hk] at e; exact .inl e.symm
        · rw [hk] at e
          have h9 : k = w2.heap.size := by simpa using e
          exact .inr (by omega)
      have tc3 := (Tc.keep T0.out hc2 (fun _ _ h => h)).keep hch3 (fun k hk e => N0.out k NE.out hk e.symm)
      have WO : Hid _ := without_gen tc3.ths tc3.cap (by omega) m m2
      have hC3 : Chg (fun _ => False) W w3 := (C0.out.trans hc2 (fun _ h => h.elim)).trans hch3 (fun i hi => .inr (V0.out i hi.symm))
      obtain ⟨a3, c3, hf3⟩ := ho3.form
      rw [List.length_append, List.length_singleton] at hf3
      subst hf3
      have R3 : Hid _ := hr3
      have W2 : Hid _ := hw2
      have O3 : Hid (OwnT _ _ _) := ho3
      have C3 : Hid _ := hC3
      have V3 : Hid _ := hv3'
      have hsz3 := hch3.size
      have hW0 := C0.out.size
      clear hr3 hw2 ho3 hC3 hv3' hv3 hch3 th2' hB2 hc2 tc3 hb1 ch1 FI
      go_wp2_with (at_builtin; rw [← W2.out]; refine wpList_app2 rfl (.tmp 13) (.tmp 18) rfl rfl rfl R3.out ?_)
      refine Calls.mono WO.out ?_
      rintro e w4 ⟨v4, rfl, o4, ch4, hl4⟩
      obtain ⟨a4, c4, hf4⟩ := o4.form
      subst hf4
      have O4 : Hid (OwnT _ _ _) := o4
      have C4 : Hid _ := ch4
      have L4 : Hid _ := hl4
      have hwl : (wo l m).length + 1 = l.length := by
        unfold wo
        rw [List.length_append, List.length_take, List.length_drop]
        omega
      clear o4 ch4 hl4 WO
      go_wp2_with fail
      go_roundg l.length
      case measure => omega
      case rel =>
        refine ⟨wo l m, out ++ [(xk, xn)], a4, c4, a3, c3, rfl, by simp, by omega, by simp; omega, O4.out.tc, ?_, C3.out.trans C4.out (fun _ h => h.elim), ?_, ?_, ?_⟩
        · have := O3.out.keep C4.out (fun _ _ h => h)
          simpa using this
        · intro k hk
          have hk' : (Value.slice a3 (out.length + 1) c3).ownBlock = some k := by simpa [Value.ownBlock] using hk
          rcases V3.out k hk' with e | e
          · exact V0.out k e
          · omega
        · intro k _ hk e
          have hk' : (Value.slice a3 (out.length + 1) c3).ownBlock = some k := by simpa [Value.ownBlock] using e
          have q1 := L4.out k hk
          have q2 := O3.out.lt hk'
          omega
        · rw [List.append_assoc, ← E0.out, ← hwl]
          show out ++ ([(xk, xn)] ++ srt all (wo l m).length (wo l m)) = out ++ (tnth l (firstU all l l.length).toNat :: srt all (wo l m).length (wo l (firstU all l l.length).toNat))
          rw [M1.out, Int.toNat_natCast, X0.out]
          rfl

end Go.Proofs.Ytpkcabbfblhekaa

/-
  HeapFresh: lists that lie apart.
-/
namespace Go.Proofs.Ytpkcabbfblhekaa
open Go.RowKit

/-- Something that lies in the blocks of some values, and stays as long as these do. -/
structure En where
  vs : List Value
  P : World → Prop
  kp : ∀ {w w' : World} {R : Nat → Prop}, P w → Chg R w w' → (∀ v ∈ vs, ∀ k, v.ownBlock = some k → ¬ R k) → P w'
  lt : ∀ {w : World}, P w → ∀ v ∈ vs, ∀ k, v.ownBlock = some k → k < w.heap.size

/-- A list. -/
def En.one (v : Value) (l : List (Int × Int)) : En where
  vs := [v]
  P := fun w => OwnT w v l
  kp := fun h k hn => OwnT.keep h k (fun i hi => hn v (List.mem_singleton_self _) i hi)
  lt := fun h u hu k hk => by
    obtain rfl := List.mem_singleton.1 hu
    exact OwnT.lt h hk

/-- A list, and what has grown out of it. -/
def En.two (v x : Value) (A B : List (Int × Int)) : En where
  vs := [v, x]
  P := fun w => OwnT w x (A ++ B) ∧ Ths w v A ∧ ∀ k, v.ownBlock = some k → k < w.heap.size
  kp := fun h k hn => ⟨OwnT.keep h.1 k (fun i hi => hn x (by simp) i hi), Ths.keep h.2.1 k (fun i hi => hn v (by simp) i hi), fun i hi => Nat.lt_of_lt_of_le (h.2.2 i hi) k.size⟩
  lt := fun h u hu k hk => by
    rcases List.mem_cons.1 hu with rfl | hu
    · exact h.2.2 k hk
    · obtain rfl := List.mem_singleton.1 hu
      exact OwnT.lt h.1 hk

structure FS (W w : World) (F : List En) : Prop where
  ch : Chg (fun _ => False) W w
  hold : ∀ (i : Nat) (e : En), F[i]? = some e → e.P w
  big : ∀ (i : Nat) (e : En) (v : Value) (k : Nat), F[i]? = some e → v ∈ e.vs → v.ownBlock = some k → W.heap.size ≤ k
  col : ∃ κ : Nat → Nat, ∀ (i : Nat) (e : En) (v : Value) (k : Nat), F[i]? = some e → v ∈ e.vs → v.ownBlock = some k → κ k = i

theorem FS.nil (W : World) : FS W W [] := ⟨Chg.refl _ _, fun i e h => by simp at h, fun i e v k h => by simp at h, fun _ => 0, fun i e v k h => by simp at h⟩

theorem FS.keep {W w w' : World} {F : List En} (h : FS W w F) (k : Chg (fun _ => False) w w') : FS W w' F :=
  ⟨h.ch.trans k (fun _ h => h.elim), fun i e he => e.kp (h.hold i e he) k (fun _ _ _ _ h => h), h.big, h.col⟩

theorem FS.add {W w w' : World} {F : List En} (h : FS W w F) (k : Chg (fun _ => False) w w') (e : En) (he : e.P w') (fr : ∀ v ∈ e.vs, ∀ j, v.ownBlock = some j → w.heap.size ≤ j) : FS W w' (F ++ [e]) := by
  obtain ⟨κ, hκ⟩ := h.col
  have cases : ∀ (i : Nat) (x : En), (F ++ [e])[i]? = some x → F[i]? = some x ∨ (i = F.length ∧ x = e) := fun i x hx => by
    rcases Nat.lt_trichotomy i F.length with hi | hi | hi
    · rw [List.getElem?_append_left hi] at hx; exact .inl hx
    · subst hi
      simp at hx
      exact .inr ⟨rfl, hx.symm⟩
    · rw [List.getElem?_eq_none (by simp; omega)] at hx; cases hx
  refine ⟨h.ch.trans k (fun _ h => h.elim), fun i x hx => ?_, fun i x v j hx hv hj => ?_, fun j => if w.heap.size ≤ j then F.length else κ j, fun i x v j hx hv hj => ?_⟩
  · rcases cases i x hx with hx | ⟨_, rfl⟩
    · exact x.kp (h.hold i x hx) k (fun _ _ _ _ h => h)
    · exact he
  · rcases cases i x hx with hx | ⟨_, rfl⟩
    · exact h.big i x v j hx hv hj
    · exact Nat.le_trans h.ch.size (fr v hv j hj)
  · rcases cases i x hx with hx | ⟨rfl, rfl⟩
    · have := x.lt (h.hold i x hx) v hv j hj
      show (if w.heap.size ≤ j then F.length else κ j) = i
      rw [if_neg (by omega)]
      exact hκ i x v j hx hv hj
    · exact if_pos (fr v hv j hj)

theorem FS.turn {W w w' : World} {F : List En} (h : FS W w F) (i : Nat) {e : En} (hi : F[i]? = some e) {R : Nat → Prop} (k : Chg R w w') (hR : ∀ j, R j → ∃ v ∈ e.vs, v.ownBlock = some j) (e' : En) (he : e'.P w')
    (hb : ∀ v ∈ e'.vs, ∀ j, v.ownBlock = some j → (∃ u ∈ e.vs, u.ownBlock = some j) ∨ w.heap.size ≤ j) : FS W w' (F.set i e') := by
  obtain ⟨κ, hκ⟩ := h.col
  have hil : i < F.length := (List.getElem?_eq_some_iff.1 hi).1
  have cases : ∀ (j : Nat) (x : En), (F.set i e')[j]? = some x → (j ≠ i ∧ F[j]? = some x) ∨ (j = i ∧ x = e') := fun j x hx => by
    by_cases e : j = i
    · subst e
      rw [List.getElem?_set_self hil] at hx
      exact .inr ⟨rfl, (Option.some.inj hx).symm⟩
    · rw [List.getElem?_set_ne (fun h => e h.symm)] at hx
      exact .inl ⟨e, hx⟩
  refine ⟨h.ch.trans k (fun j hj => ?_), fun j x hx => ?_, fun j x v n hx hv hn => ?_, fun n => if w.heap.size ≤ n then i else κ n, fun j x v n hx hv hn => ?_⟩
  · obtain ⟨v, hv, hj⟩ := hR j hj
    exact .inr (h.big i e v j hi hv hj)
  · rcases cases j x hx with ⟨hne, hx⟩ | ⟨_, rfl⟩
    · refine x.kp (h.hold j x hx) k (fun v hv n hn hr => ?_)
      obtain ⟨u, hu, hun⟩ := hR n hr
      exact hne ((hκ j x v n hx hv hn).symm.trans (hκ i e u n hi hu hun))
    · exact he
  · rcases cases j x hx with ⟨_, hx⟩ | ⟨_, rfl⟩
    · exact h.big j x v n hx hv hn
    · rcases hb v hv n hn with ⟨u, hu, hun⟩ | hn
      · exact h.big i e u n hi hu hun
      · exact Nat.le_trans h.ch.size hn
  · rcases cases j x hx with ⟨hne, hx⟩ | ⟨rfl, rfl⟩
    · have := x.lt (h.hold j x hx) v hv n hn
      show (if w.heap.size ≤ n then i else κ n) = j
      rw [if_neg (by omega)]
      exact hκ j x v n hx hv hn
    · show (if w.heap.size ≤ n then j else κ n) = j
      rcases hb v hv n hn with ⟨u, hu, hun⟩ | hn
      · have := e.lt (h.hold j e hi) u hu n hun
        rw [if_neg (by omega)]
        exact hκ j e u n hi hu hun
      · exact if_pos hn

end Go.Proofs.Ytpkcabbfblhekaa

/-
  A list in order is its own Sort.
-/
namespace Go.Proofs.Ytpkcabbfblhekaa
open Go.RowKit

def Up (l : List (Int × Int)) : Prop := l.Pairwise (fun a b => a.1 ≤ b.1)

theorem up_srt (L : List (Int × Int)) : Up (srt false L.length L) := by
  rw [← sort_srt false L, drF_E]
  have h := drE_srt (tot_B false) L.length (pushF (odB false) L [] 0).1 (by rw [pushF_len]; simp) (pushF_HO (tot_B false) L 0 (HO.nil _))
  unfold Up
  rw [List.pairwise_map]
  refine List.Pairwise.imp ?_ h
  intro a b hab
  rw [lt_B] at hab
  have := of_decide_eq_false hab
  have h1 : ¬ b.k < a.k := fun e => this (.inl ⟨rfl, e⟩)
  show a.k ≤ b.k
  omega

theorem xs_th : ∀ (b : Int) (L : List (Int × Int)), (xs b L).map E.th = L
  | _, [] => rfl
  | b, a :: L => by
    show (a.1, a.2) :: (xs (b + 1) L).map E.th = a :: L
    rw [xs_th (b + 1) L]

theorem xs_srt : ∀ (b : Int) (L : List (Int × Int)), Up L → Srt (odB false) (xs b L)
  | _, [], _ => List.Pairwise.nil
  | b, a :: L, h => by
    have h' := List.pairwise_cons.1 h
    refine List.pairwise_cons.2 ⟨fun e he => ?_, xs_srt (b + 1) L h'.2⟩
    rw [lt_B]
    refine decide_eq_false (fun hh => ?_)
    have hlow := xs_low (b + 1) L e he
    have hk : a.1 ≤ e.k := by
      have : e.th ∈ (xs (b + 1) L).map E.th := List.mem_map_of_mem he
      rw [xs_th] at this
      exact h'.1 _ this
    rcases hh with ⟨_, e1⟩ | ⟨_, e1⟩
    · have e2 : e.k < a.1 := e1
      omega
    · have e2 : e.num < b := e1
      omega

theorem sort_up {L : List (Int × Int)} (h : Up L) : (drF (odB false) L.length (pushF (odB false) L [] 0).1).1 = L := by
  rw [sort_is false L (List.Perm.refl _) (xs_srt 0 L h), xs_th]

theorem least_up {L : List (Int × Int)} (h : Up L) (k : Nat) (hk : k ≤ L.length) : leastL (odB false) L k = L.take k := by
  rw [least_is false L k hk, sort_up h]

theorem Up.take {L : List (Int × Int)} (h : Up L) (k : Nat) : Up (L.take k) := List.Pairwise.sublist (List.take_sublist _ _) h

/-- A list that is marked. -/
def mkL (m : Int) (n : Nat) : List (Int × Int) := (List.range n).map fun (i : Nat) => (m, m - (i : Int))
theorem mkL_len (m : Int) (n : Nat) : (mkL m n).length = n := by simp [mkL]
theorem mkL_at (m : Int) (n i : Nat) (h : i < n) : (mkL m n)[i]? = some (m, m - (i : Int)) := by simp [mkL, h]
def rpL (m : Int) (n : Nat) : List (Int × Int) := List.replicate n (m, m)

end Go.Proofs.Ytpkcabbfblhekaa
