/-
  One act on a disk whose blocks are named.
-/
import Derived.Test.YtjliibiohgcaeaaFoot
namespace Go.Proofs.Ytjliibiohgcaeaa
open Go.RowKit Go.RwLone

structure PoB (w w' : World) (Bl : Nat → Prop) (p S z b : Nat) (A : Nat → List (Nat × List Int)) (F : Nat → Option (List Int)) (kd nm : Int) : Prop where
  ch : Chg Bl w w'
  ex : ∃ (Bl' : Nat → Prop) (x' : Nums) (A' : Nat → List (Nat × List Int)) (F' : Nat → Option (List Int)), (∀ g, Bl' g → grB Bl w w' g) ∧ AB w' Bl' p S z (b + 1) x' A' F' ∧ (-1 ≤ x'.fuse ∧ x'.fuse ≤ 9223372036854775807) ∧ Kp S A F A' F' kd nm

section
variable {w w' : World} {Bl : Nat → Prop} {p S z b : Nat} {x : Nums} {A : Nat → List (Nat × List Int)} {F : Nat → Option (List Int)} {kd nm : Int}

theorem AB.low' (h : AB w Bl p S z b x A F) (t : Nat) (ht : S ≤ t) : A t = [] := by
  obtain ⟨m, c, kc, km, L, V, D, K, E, C, hd, hm, hc, hV, hK, hL, hA, hF⟩ := h.ex
  rw [← hA t]
  have : L t = [] := Classical.byContradiction fun e => by have := hd.dd.low t e; omega
  rw [this]
  rfl
theorem AB.pn (h : AB w Bl p S z b x A F) : ∃ pn : Nat, x.pend = pn := by
  obtain ⟨m, c, kc, km, L, V, D, K, E, C, hd, _⟩ := h.ex
  obtain ⟨n, hn, _⟩ := hd.dd.pn
  exact ⟨n, hn⟩
theorem AB.stay (h : AB w Bl p S z b x A F) (hf : -1 ≤ x.fuse ∧ x.fuse ≤ 9223372036854775807) : PoB w w Bl p S z b A F kd nm :=
  ⟨Chg.refl _ _, Bl, x, A, F, fun _ h => .inl h, h.mono (Nat.le_succ b), hf, Kp.refl _ _ _ _ _⟩
theorem PoB.before {w0 : World} (h : PoB w0 w' Bl p S z b A F kd nm) (k : Chg (fun _ => False) w w0) : PoB w w' Bl p S z b A F kd nm := by
  obtain ⟨Bl', x', A', F', h1, h2⟩ := h.ex
  exact ⟨(k.mono (fun _ _ h => h.elim)).trans h.ch (fun _ h => .inl h), Bl', x', A', F', fun g hg => by
    rcases h1 g hg with e | ⟨e1, e2⟩
    · exact .inl e
    · exact .inr ⟨Nat.le_trans k.size e1, e2⟩, h2⟩

theorem AB.aRead (h : AB w Bl p S z b x A F) (hf : -1 ≤ x.fuse ∧ x.fuse ≤ 9223372036854775807) (hS : S ≤ 65536) (hz : z ≤ 4096) (hb : b < 4398046511104) (i : Int) :
    Calls Try.prog 12 #[.pointer (some ⟨p, 0, none⟩), .int .i64 i] w fun e w' => ∃ v, e = .returned v ∧ PoB w w' Bl p S z b A F kd nm := by
  obtain ⟨m, c, kc, km, L, V, D, K, E, C, hd, q⟩ := h.ex
  by_cases hi : 0 ≤ i ∧ i < S
  · obtain ⟨s, rfl⟩ : ∃ s : Nat, i = s := ⟨i.toNat, by omega⟩
    cases ho : x.off with
    | false =>
      refine (h.read ho s (by omega) hS hz (by omega)).mono ?_
      rintro e w9 ⟨g, q, rfl, _, _, ch, h9⟩
      exact ⟨_, rfl, ch.mono (fun i _ e => by rw [e]; exact h.bp), Bl, _, A, F, fun _ h => .inl h, h9.mono (Nat.le_succ b), hf, Kp.refl _ _ _ _ _⟩
    | true =>
      refine (Go.Proofs.Ytjliibiohgcaeaa.read_off hd.dd.row ho s (by omega) hS).mono ?_
      rintro e w9 ⟨rfl, hr, ch⟩
      exact ⟨_, rfl, ch.mono (fun i _ e => by rw [e]; exact h.bp), Bl, x, A, F, fun _ h => .inl h, ⟨⟨m, c, kc, km, L, V, D, K, E, C, hd.turn ch hr rfl (Nat.le_succ b), q⟩, h.bp, fun g hg => Nat.lt_of_lt_of_le (h.low g hg) ch.size, h.nb⟩, hf, Kp.refl _ _ _ _ _⟩
  · refine (read_sector hd.dd.row i hi).mono ?_
    rintro e w9 ⟨rfl, h9⟩
    subst h9
    exact ⟨_, rfl, h.stay hf⟩

theorem AB.aFlush (h : AB w Bl p S z b x A F) (hf : -1 ≤ x.fuse ∧ x.fuse ≤ 9223372036854775807) (hS : S ≤ 65536) (hb : b < 4398046511104) :
    Calls Try.prog 21 #[.pointer (some ⟨p, 0, none⟩)] w fun e w' => ∃ v, e = .returned v ∧ PoB w w' Bl p S z b A F kd nm := by
  obtain ⟨m, c, kc, km, L, V, D, K, E, C, hd, q⟩ := h.ex
  by_cases hx : x.off = true ∨ x.fuse = 0
  · obtain ⟨e1, e2⟩ := burn_no hx
    refine (hd.dd.flush_off hf.1 hf.2 e1).mono ?_
    rintro e w9 ⟨rfl, ch, h9⟩
    exact ⟨_, rfl, ch.mono (fun i _ e => by rw [e]; exact h.bp), Bl, burnN x, A, F, fun _ h => .inl h, ⟨⟨m, c, kc, km, L, V, D, K, E, C, hd.turn ch h9.row (burnN_pend x) (Nat.le_succ b), q⟩, h.bp, fun g hg => Nat.lt_of_lt_of_le (h.low g hg) ch.size, h.nb.of_eq (burnN_pend x)⟩, burnN_bd hf, Kp.refl _ _ _ _ _⟩
  · obtain ⟨e1, e2, e3⟩ := burn_yes hx
    refine (h.flush hS (by omega) hf.1 hf.2 e1).mono ?_
    rintro e w9 ⟨rfl, ch, q, h9⟩
    refine ⟨_, rfl, ch, _, _, _, _, fun _ h => h, h9.mono (Nat.le_succ b), burnN_bd hf, ⟨fun s _ hs => ⟨rfl, by show lastA (A s) (F s) = _; rw [hs]; rfl⟩, fun hF t ht => ?_⟩⟩
    show lastA (A t) (F t) = none
    rw [h.low' t ht, hF t ht]
    rfl

theorem AB.aFuse (h : AB w Bl p S z b x A F) (hf : -1 ≤ x.fuse ∧ x.fuse ≤ 9223372036854775807) (n : Int) (hn1 : -9223372036854775808 ≤ n) (hn2 : n ≤ 9223372036854775807) :
    Calls Try.prog 23 #[.pointer (some ⟨p, 0, none⟩), .int .i64 n] w fun e w' => ∃ v, e = .returned v ∧ PoB w w' Bl p S z b A F kd nm := by
  obtain ⟨m, c, kc, km, L, V, D, K, E, C, hd, q⟩ := h.ex
  refine (fuse_any hd.dd.row n hn1 hn2).mono ?_
  rintro e w9 ⟨rfl, hr, ch⟩
  refine ⟨_, rfl, ch.mono (fun i _ e => by rw [e]; exact h.bp), Bl, _, A, F, fun _ h => .inl h, ⟨⟨m, c, kc, km, L, V, D, K, E, C, hd.turn ch hr ?_ (Nat.le_succ b), q⟩, h.bp, fun g hg => Nat.lt_of_lt_of_le (h.low g hg) ch.size, h.nb.of_eq (by split <;> rfl)⟩, ?_, Kp.refl _ _ _ _ _⟩
  · split <;> rfl
  · split
    · exact hf
    · simp only
      omega

theorem AB.aCrash (h : AB w Bl p S z b x A F) (hS : S ≤ 65536) (hz : z ≤ 4096) (hb : b < 4398046511104) {a : Option Addr} {n cN : Nat} {kl : List Bool} (hk : KB w a n kl) (hka : ∀ g o, 0 < n → a = some ⟨g, o, none⟩ → ¬ Bl g) (torn at_ : Int) :
    Calls Try.prog 22 #[.pointer (some ⟨p, 0, none⟩), .agg #[.slice a n cN, .int .i64 torn, .int .i64 at_]] w fun e w' => ∃ v, e = .returned v ∧ PoB w w' Bl p S z b A F kd nm := by
  refine (h.crash hS (by omega) hz hk hka torn at_).mono ?_
  rintro e w9 ⟨rfl, ch, era, h9⟩
  refine ⟨_, rfl, ch, _, _, _, _, fun _ h => h, h9.mono (Nat.le_succ b), ⟨by simp, by simp⟩, ⟨fun s _ hs => ⟨rfl, by show foldA _ _ (A s) (F s) = _; rw [hs]; rfl⟩, fun hF t ht => ?_⟩⟩
  show foldA _ _ (A t) (F t) = none
  rw [h.low' t ht, hF t ht]
  rfl

theorem AB.aWrite (h : AB w Bl p S z b x A F) (hf : -1 ≤ x.fuse ∧ x.fuse ≤ 9223372036854775807) (hS : S ≤ 65536) (hz : z ≤ 4096) (hz0 : 0 < z) (hb : b < 4398046511104) (i : Int) (hkd : kd = 2) (hnm : nm = i) {g n : Nat} {l : List Int} (hn : n ≤ 8192) (hs : n = z → Rw w g (bs l).toArray 5 ∧ l.length = z) (hg : g ≠ p) :
    Calls Try.prog 19 #[.pointer (some ⟨p, 0, none⟩), .int .i64 i, .slice (some ⟨g, 0, none⟩) n n] w fun e w' => ∃ v, e = .returned v ∧ PoB w w' Bl p S z b A F kd nm := by
  obtain ⟨m, c, kc, km, L, V, D, K, E, C, hd, q⟩ := h.ex
  by_cases hi : (0 ≤ i ∧ i < S) ∧ n = z
  · obtain ⟨hi, rfl⟩ := hi
    obtain ⟨s, rfl⟩ : ∃ s : Nat, i = s := ⟨i.toNat, by omega⟩
    by_cases hx : x.off = true ∨ x.fuse = 0
    · obtain ⟨e1, e2⟩ := burn_no hx
      refine (hd.dd.write_off s (some ⟨g, 0, none⟩) n (by omega) hf.1 hf.2 e1).mono ?_
      rintro e w9 ⟨rfl, ch, h9⟩
      exact ⟨_, rfl, ch.mono (fun i _ e => by rw [e]; exact h.bp), Bl, burnN x, A, F, fun _ h => .inl h, ⟨⟨m, c, kc, km, L, V, D, K, E, C, hd.turn ch h9.row (burnN_pend x) (Nat.le_succ b), q⟩, h.bp, fun g hg => Nat.lt_of_lt_of_le (h.low g hg) ch.size, h.nb.of_eq (burnN_pend x)⟩, burnN_bd hf, Kp.refl _ _ _ _ _⟩
    · obtain ⟨e1, e2, e3⟩ := burn_yes hx
      obtain ⟨pn, hpn⟩ := h.pn
      obtain ⟨hr, hl⟩ := hs rfl
      refine (h.write (src_row hr hl) hl hz0 hz s (by omega) hS hb hf.1 hf.2 e1 (by simp [Value.ownBlock]; exact hg) hpn).mono ?_
      rintro e w9 ⟨rfl, ch, q, h9⟩
      refine ⟨_, rfl, ch, _, _, _, _, fun _ h => h, h9, burnN_bd hf, ⟨fun t ht hA => ⟨?_, rfl⟩, fun hF => hF⟩⟩
      rw [updT_other _ _ (fun e => ht (.inl hkd) (by rw [hnm, e]))]
      exact hA
  · refine (write_sector hd.dd.row i (some ⟨g, 0, none⟩) n n (by omega) (by omega)).mono ?_
    rintro e w9 ⟨rfl, h9⟩
    subst h9
    exact ⟨_, rfl, h.stay hf⟩

theorem AB.aRot (h : AB w Bl p S z b x A F) (hf : -1 ≤ x.fuse ∧ x.fuse ≤ 9223372036854775807) (hS : S ≤ 65536) (hz : z ≤ 4096) (hb : b < 4398046511104) (i at_ mask : Int) (hkd : kd = 9) (hnm : nm = i) :
    Calls Try.prog 44 #[.pointer (some ⟨p, 0, none⟩), .int .i64 i, .int .i64 at_, .int .u8 mask] w fun e w' => ∃ v, e = .returned v ∧ PoB w w' Bl p S z b A F kd nm := by
  obtain ⟨m, c, kc, km, L, V, D, K, E, C, hd, hm, hc, hV, hK, hL, hA, hF⟩ := h.ex
  by_cases hi : (0 ≤ i ∧ i < S) ∧ (0 ≤ at_ ∧ at_ < z)
  · obtain ⟨hi, ha⟩ := hi
    obtain ⟨s, rfl⟩ : ∃ s : Nat, i = s := ⟨i.toNat, by omega⟩
    obtain ⟨q, rfl⟩ : ∃ q : Nat, at_ = q := ⟨at_.toNat, by omega⟩
    refine (hd.rot hS (by omega) hz s (by omega) q (by omega) mask).mono ?_
    rintro e w9 ⟨rfl, ch, km', E', C', G', h9, hG, hl9, hk9⟩
    refine ⟨_, rfl, ch.mono (fun j _ e => ?_), grB Bl w w9, x, _, _, fun _ h => h, ⟨⟨m, c, kc, km', L, V, D, _, E', C', h9, .inl hm, .inl hc, fun t g hg => .inl (hV t g hg), fun t g hg => ?_, fun t y hy => .inl (hL t y hy), fun t => rfl, fun t => rfl⟩, .inl h.bp, fun g hg => ?_, ⟨fun t y hy => ?_, ?_⟩⟩, hf, ⟨fun t ht hAt => ?_, fun hFS t ht => ?_⟩⟩
    · rcases e with e | e | e | ⟨y, hy, e⟩
      · rw [e]; exact h.bp
      · rw [e]; exact hm
      · exact hK s j e
      · rw [← e]; exact hL s y hy
    · by_cases e : t = s
      · have hlt := (h9.kr t g hg).1.lt
        rw [e, updT_same] at hg
        injection hg with hg
        rcases hG with hG | hG
        · exact .inl (hK s g (by rw [← hg]; exact hG))
        · exact .inr ⟨by omega, hlt⟩
      · rw [updT_other _ _ e] at hg
        exact .inl (hK t g hg)
    · rcases hg with hg | hg
      · exact Nat.lt_of_lt_of_le (h.low g hg) ch.size
      · exact hg.2
    · obtain ⟨y', hy', rfl⟩ := List.mem_map.1 hy
      exact h.nb.lt t (y'.1, C y'.2) (by rw [← hA t]; exact List.mem_map.2 ⟨y', hy', rfl⟩)
    · have h1 := tot_le (A := fun t => (L t).map (fun y => (y.1, C' y.2))) (B := A) (fun t => by rw [← hA t]; simp) S
      have h2 := h.nb.sum
      omega
    · have hts : t ≠ s := fun e => ht (.inr hkd) (by rw [hnm, e])
      have hLt : L t = [] := List.map_eq_nil_iff.1 (by rw [hA t]; exact hAt)
      refine ⟨by show (L t).map _ = []; rw [hLt]; rfl, ?_⟩
      show (updT K s (some G') t).map C' = _
      rw [updT_other _ _ hts, ← hF t]
      cases hKt : K t with
      | none => rfl
      | some g => show some (C' g) = some (C g); rw [hk9 t hts g hKt]
    · have hts : t ≠ s := by omega
      have h1 := hFS t ht
      rw [← hF t] at h1
      show (updT K s (some G') t).map C' = none
      rw [updT_other _ _ hts]
      cases hKt : K t with
      | none => rfl
      | some g => rw [hKt] at h1; cases h1
  · refine (rot_no hd.dd.row i at_ mask (by omega)).mono ?_
    rintro e w9 ⟨rfl, h9⟩
    subst h9
    exact ⟨_, rfl, h.stay hf⟩
end

set_option maxRecDepth 100000 in
set_option maxHeartbeats 4000000 in
theorem act_foot {w : World} {Bl : Nat → Prop} {p S z b : Nat} {x : Nums} {A : Nat → List (Nat × List Int)} {F : Nat → Option (List Int)} (h : AB w Bl p S z b x A F) (hf : -1 ≤ x.fuse ∧ x.fuse ≤ 9223372036854775807) (hS : S ≤ 65536) (hz : z ≤ 4096) (hz0 : 0 < z) (hb : b < 4398046511104) (a : Ac) {kl : List Bool} (hk : KB w a.ka a.kn kl) (hka : ∀ g o, 0 < a.kn → a.ka = some ⟨g, o, none⟩ → ¬ Bl g) (hnm : -9223372036854775808 ≤ a.nm ∧ a.nm ≤ 9223372036854775807) (hfl : 0 ≤ a.fill ∧ a.fill ≤ 255) (hls : -9223372036854775808 ≤ a.less ∧ a.less ≤ 9223372036854775807) :
    Calls Try.prog 25 #[.pointer (some ⟨p, 0, none⟩), .int .i64 z, .agg a.cells.toArray] w fun e w' => e = .returned (.tuple #[]) ∧ PoB w w' Bl p S z b A F a.kd a.nm := by
  obtain ⟨on, kd, nm, fill, less, at_, mask, ka, kn, kc, torn⟩ := a
  simp only at hk hka hnm hfl hls ⊢
  obtain ⟨w0, hw0⟩ : ∃ w0, w0 = w.alloc (.cells (Ac.cells ⟨on, kd, nm, fill, less, at_, mask, ka, kn, kc, torn⟩).toArray 45) := ⟨_, rfl⟩
  have k0 : Chg (fun _ => False) w w0 := by rw [hw0]; exact (Chg.refl _ _).alloc _
  have q0 : Rw w0 w.heap.size (Ac.cells ⟨on, kd, nm, fill, less, at_, mask, ka, kn, kc, torn⟩).toArray 45 := by rw [hw0]; exact ⟨heap_alloc_new _ _⟩
  have h0 : AB w0 Bl p S z b x A F := h.frame k0 (fun _ _ h => h)
  have d1 : w0.cell? ⟨w.heap.size, 1, none⟩ = some (.int .i64 kd) := Rw.cell q0 1
  have d2 : w0.cell? ⟨w.heap.size, 2, none⟩ = some (.int .i64 nm) := Rw.cell q0 2
  have d5 : w0.cell? ⟨w.heap.size, 5, none⟩ = some (.int .i64 at_) := Rw.cell q0 5
  have d6 : w0.cell? ⟨w.heap.size, 6, none⟩ = some (.int .u8 mask) := Rw.cell q0 6
  have d7 : w0.cell? ⟨w.heap.size, 7, none⟩ = some (.slice ka kn kc) := Rw.cell q0 7
  have d8 : w0.cell? ⟨w.heap.size, 8, none⟩ = some (.int .i64 torn) := Rw.cell q0 8
  have K0 : Hid _ := k0
  have Q0 : Hid _ := q0
  have HLOW : Hid (∀ g, Bl g → g < w.heap.size) := h.low
  have HW : Hid _ := hw0
  have H0 : Hid _ := h0
  have HK : Hid (KB w0 ka kn kl) := hk.chg k0 (fun _ _ _ _ h => h)
  have HKA : Hid _ := hka
  clear h k0 q0 hw0 h0 hk hka
  by_cases t1 : kd = 1
  · subst t1
    have CL : Hid _ := H0.out.aRead hf hS hz hb nm (kd := 1) (nm := nm)
    go_enter Try.func25, Try.ntmps25
    go_upto_region 1 with fail
    rw [← HW.out]
    go_wp2_with fail
    refine Calls.mono CL.out ?_
    rintro e w9 ⟨v, rfl, po⟩
    have PO : Hid _ := po.before K0.out
    clear po CL
    go_wp2_with fail
    go_end0
    exact ⟨rfl, PO.out⟩
  · by_cases t2 : kd = 2
    · subst t2
      have WR : Hid (∀ wq, Calls Try.prog 20 #[.int .i64 z, .agg (actC on 2 nm fill less at_ mask (.slice ka kn kc) torn).toArray] wq fun e w' => ∃ g n, e = .returned (.slice (some ⟨g, 0, none⟩) n n) ∧ n ≤ 8192 ∧ (n = z → Rw w' g (bs (wrB fill z)).toArray 5 ∧ (wrB fill z).length = z) ∧ wq.heap.size ≤ g ∧ Below wq.heap.size wq w') := fun wq => by
        by_cases hn : 0 ≤ (z : Int) - less ∧ (z : Int) - less ≤ 8192
        · obtain ⟨n, hn2⟩ : ∃ n : Nat, (z : Int) - less = n := ⟨((z : Int) - less).toNat, by omega⟩
          refine (written_fit (w := wq) (z : Int) on 2 nm fill less at_ mask (.slice ka kn kc) torn n hn2 (by omega) (by omega) (by omega) hfl).mono ?_
          rintro e w9 ⟨g, rfl, r9, hg, b9⟩
          refine ⟨g, n, rfl, by omega, fun e => ?_, hg, b9⟩
          subst e
          exact ⟨r9, wrB_len _ _⟩
        · refine (written_none (w := wq) (z : Int) on 2 nm fill less at_ mask (.slice ka kn kc) torn hn (by omega) (by omega) hls.1 hls.2).mono ?_
          rintro e w9 ⟨g, rfl, hg, b9⟩
          exact ⟨g, 0, rfl, by omega, fun e => by omega, hg, b9⟩
      have WX : Hid (∀ w3 gw n, n ≤ 8192 → (n = z → Rw w3 gw (bs (wrB fill z)).toArray 5 ∧ (wrB fill z).length = z) → w0.drew.heap.size ≤ gw → Below w0.drew.heap.size w0.drew w3 → Calls Try.prog 19 #[.pointer (some ⟨p, 0, none⟩), .int .i64 nm, .slice (some ⟨gw, 0, none⟩) n n] w3 fun e w' => ∃ v, e = .returned v ∧ PoB w w' Bl p S z b A F 2 nm ∧ Rw w' w.heap.size (Ac.cells ⟨on, 2, nm, fill, less, at_, mask, ka, kn, kc, torn⟩).toArray 45) := fun w3 gw n hn r3 hg3 b3 => by
        have hc3 : Chg (fun _ => False) w0 w3 := ((Chg.refl (fun _ => False) w0).drew).trans (Chg.of_below b3 (fun _ => False)) (fun _ h => h.elim)
        refine ((H0.out.frame hc3 (fun _ _ h => h)).aWrite hf hS hz hz0 hb nm (kd := 2) (nm := nm) rfl rfl hn r3 (by have := H0.out.low p H0.out.bp; have h9 : w0.drew.heap.size = w0.heap.size := rfl; omega)).mono ?_
        rintro e w9 ⟨v, rfl, po⟩
        exact ⟨v, rfl, (po.before hc3).before K0.out, ⟨po.ch.heap_some (hc3.heap_some Q0.out.eq (fun h => h)) (fun e => by have := HLOW.out _ e; omega)⟩⟩
      obtain ⟨Q, hQ⟩ : ∃ Q, Q = w.heap.size := ⟨_, rfl⟩
      rw [← hQ] at Q0 d1 d2 d5 d6 d7 d8
      have HQ : Hid _ := hQ
      clear hQ
      go_enter Try.func25, Try.ntmps25
      go_upto_region 1 with fail
      rw [← HW.out, ← HQ.out]
      go_upto_region 5 with fail
      refine wp_region_held_drew (S := fun w' => Rw w' Q (Ac.cells ⟨on, 2, nm, fill, less, at_, mask, ka, kn, kc, torn⟩).toArray 45) (by kernel_rfl) ⟨Q0.out.eq⟩ (fun hH => ?_)
      refine wpAnyH_take (i := 0) (v := .pointer (some ⟨p, 0, none⟩)) rfl (by kernel_rfl) (by kernel_rfl) (by kernel_rfl) (fun _ _ _ h => h) (Or.inl ⟨by rfl, fun _ _ => by go_simp⟩) hH ?_
      refine wpAnyH_take (i := 1) (v := .pointer (some ⟨Q, 2, none⟩)) rfl (by kernel_rfl) (by kernel_rfl) (by kernel_rfl) (fun _ _ _ h => h) (Or.inl ⟨by rfl, fun _ _ => by go_simp⟩) hH ?_
      refine wpAnyH_take (i := 2) (v := .int .i64 nm) rfl (by kernel_rfl) (by kernel_rfl) (by kernel_rfl) (fun _ _ _ h => h) (Or.inl ⟨by rfl, fun w' hw' => by have q2 : w'.cell? ⟨Q, 2, none⟩ = some (.int .i64 nm) := Rw.cell hw' 2; go_simp⟩) hH ?_
      refine wpAnyH_take (i := 3) (v := .int .i64 z) rfl (by kernel_rfl) (by kernel_rfl) (by kernel_rfl) (fun _ _ _ h => h) (Or.inl ⟨by rfl, fun _ _ => by go_simp⟩) hH ?_
      refine wpAnyH_take (i := 4) (v := .agg (actC on 2 nm fill less at_ mask (.slice ka kn kc) torn).toArray) rfl (by kernel_rfl) (by kernel_rfl) (by kernel_rfl) (fun _ _ _ h => h) (Or.inl ⟨by rfl, fun w' hw' => by
        have q0 : w'.cell? ⟨Q, 0, none⟩ = some (.int .i64 on) := Rw.cell hw' 0
        have q1 : w'.cell? ⟨Q, 1, none⟩ = some (.int .i64 2) := Rw.cell hw' 1
        have q2 : w'.cell? ⟨Q, 2, none⟩ = some (.int .i64 nm) := Rw.cell hw' 2
        have q3 : w'.cell? ⟨Q, 3, none⟩ = some (.int .u8 fill) := Rw.cell hw' 3
        have q4 : w'.cell? ⟨Q, 4, none⟩ = some (.int .i64 less) := Rw.cell hw' 4
        have q5 : w'.cell? ⟨Q, 5, none⟩ = some (.int .i64 at_) := Rw.cell hw' 5
        have q6 : w'.cell? ⟨Q, 6, none⟩ = some (.int .u8 mask) := Rw.cell hw' 6
        have q7 : w'.cell? ⟨Q, 7, none⟩ = some (.slice ka kn kc) := Rw.cell hw' 7
        have q8 : w'.cell? ⟨Q, 8, none⟩ = some (.int .i64 torn) := Rw.cell hw' 8
        go_simp
        rfl⟩) hH ?_
      refine wpAnyH_ready (rs := [5]) (by kernel_rfl) (by simp) ?_
      refine AllReadyH.cons rfl (fun K hK => ?_) AllReadyH.nil
      go_simp
      refine Calls.mono (WR.out _) ?_
      rintro e w3 ⟨gw, n, rfl, hn, rw3, hg3, bel3⟩
      have hq3 : Rw w3 Q (Ac.cells ⟨on, 2, nm, fill, less, at_, mask, ka, kn, kc, torn⟩).toArray 45 := ⟨(Chg.of_below bel3 (fun _ => False)).heap_some Q0.out.eq (fun h => h)⟩
      refine hK.out _ _ hq3 (fun h1 => ?_)
      clear hK K hH
      refine wpAnyH_ready (rs := [6]) (by kernel_rfl) (by simp) ?_
      refine AllReadyH.cons rfl (fun K hK => ?_) AllReadyH.nil
      go_simp
      refine Calls.mono (WX.out _ _ _ hn rw3 hg3 bel3) ?_
      rintro e w9 ⟨v, rfl, po, hq9⟩
      have PO : Hid _ := po
      rw [← HQ.out] at hq9
      refine hK.out _ _ hq9 (fun h2 => ?_)
      clear hK K h1 rw3 hg3 bel3 po h2 hq3 hq9
      refine wpAnyH_done (by kernel_rfl) ?_ _
      go_wp2_with fail
      go_end0
      exact ⟨rfl, PO.out⟩
    · by_cases t3 : kd = 3
      · subst t3
        have CL : Hid _ := H0.out.aFlush hf hS hb (kd := 3) (nm := nm)
        go_enter Try.func25, Try.ntmps25
        go_upto_region 1 with fail
        rw [← HW.out]
        go_wp2_with fail
        refine Calls.mono CL.out ?_
        rintro e w9 ⟨v, rfl, po⟩
        have PO : Hid _ := po.before K0.out
        clear po CL
        go_wp2_with fail
        go_end0
        exact ⟨rfl, PO.out⟩
      · by_cases t4 : kd = 4
        · subst t4
          have CL : Hid _ := H0.out.aFuse hf nm hnm.1 hnm.2 (kd := 4) (nm := nm)
          go_enter Try.func25, Try.ntmps25
          go_upto_region 1 with fail
          rw [← HW.out]
          go_wp2_with fail
          refine Calls.mono CL.out ?_
          rintro e w9 ⟨v, rfl, po⟩
          have PO : Hid _ := po.before K0.out
          clear po CL
          go_wp2_with fail
          go_end0
          exact ⟨rfl, PO.out⟩
        · by_cases t6 : kd = 6
          · subst t6
            have CL : Hid _ := H0.out.aCrash hS hz hb (cN := kc) HK.out HKA.out torn at_ (kd := 6) (nm := nm)
            go_enter Try.func25, Try.ntmps25
            go_upto_region 1 with fail
            rw [← HW.out]
            go_wp2_with fail
            refine Calls.mono CL.out ?_
            rintro e w9 ⟨v, rfl, po⟩
            have PO : Hid _ := po.before K0.out
            clear po CL
            go_wp2_with fail
            go_end0
            exact ⟨rfl, PO.out⟩
          · by_cases t9 : kd = 9
            · subst t9
              have CL : Hid _ := H0.out.aRot hf hS hz hb nm at_ mask (kd := 9) (nm := nm) rfl rfl
              go_enter Try.func25, Try.ntmps25
              go_upto_region 1 with fail
              rw [← HW.out]
              go_wp2_with fail
              refine Calls.mono CL.out ?_
              rintro e w9 ⟨v, rfl, po⟩
              have PO : Hid _ := po.before K0.out
              clear po CL
              go_wp2_with fail
              go_end0
              exact ⟨rfl, PO.out⟩
            · have PO : Hid (PoB w w0 Bl p S z b A F kd nm) := (H0.out.stay hf).before K0.out
              have u1 : (kd == 1) = false := by simp [t1]
              have u2 : (kd == 2) = false := by simp [t2]
              have u3 : (kd == 3) = false := by simp [t3]
              have u4 : (kd == 4) = false := by simp [t4]
              have u6 : (kd == 6) = false := by simp [t6]
              have u9 : (kd == 9) = false := by simp [t9]
              go_enter Try.func25, Try.ntmps25
              go_upto_region 1 with fail
              rw [← HW.out]
              go_wp2_with fail
              go_end0
              exact ⟨rfl, PO.out⟩
end Go.Proofs.Ytjliibiohgcaeaa
