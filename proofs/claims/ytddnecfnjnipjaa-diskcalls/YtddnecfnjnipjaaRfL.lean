/-
  The reference's disk as a state, beside the disk's: every call answers alike, and they stay alike.
-/
import Derived.Test.YtddnecfnjnipjaaActE
import Derived.Test.YtddnecfnjnipjaaActA
namespace Go.Proofs.Ytddnecfnjnipjaa
open Go.RowKit

/-- The numbers of the two are alike. -/
structure Rn (x : Nums) (y : RN) : Prop where
  off : x.off = y.off
  fuse : x.fuse = if y.fused = true then y.fuse else -1
  fu : y.fused = true → 0 ≤ y.fuse ∧ y.fuse ≤ 9223372036854775807
  rd : x.rd = y.rd
  wr : x.wr = y.wr
  fl : x.fl = y.fl
  era : x.era = y.era

theorem Rn.burn {x : Nums} {y : RN} (h : Rn x y) : Rn (burnN x) (rbN y) ∧ (rbE y = true ↔ ¬ (x.off = true ∨ x.fuse = 0)) := by
  obtain ⟨pend, fuse, off, era, rd, wr, fl⟩ := x
  obtain ⟨fused, fuse', off', rd', wr', fl', era'⟩ := y
  obtain ⟨h1, h2, h3, h4, h5, h6, h7⟩ := h
  simp only at h1 h2 h3 h4 h5 h6 h7
  subst h1 h4 h5 h6 h7
  cases off with
  | true =>
    simp only [burnN, rbN, rbE, true_or, if_true, not_true_eq_false, iff_false]
    exact ⟨⟨rfl, h2, h3, rfl, rfl, rfl, rfl⟩, by decide⟩
  | false =>
    cases fused with
    | false =>
      simp only [Bool.false_eq_true, if_false] at h2
      subst h2
      refine ⟨⟨rfl, rfl, fun e => (by cases e), rfl, rfl, rfl, rfl⟩, ?_⟩
      simp [rbE]
    | true =>
      simp only [if_true] at h2
      have h3 := h3 rfl
      subst h2
      by_cases e : fuse = 0
      · subst e
        exact ⟨⟨rfl, rfl, fun _ => by simp [rbN], rfl, rfl, rfl, rfl⟩, by simp [rbE]⟩
      · have e1 : burnN ⟨pend, fuse, false, era, rd, wr, fl⟩ = ⟨pend, fuse - 1, false, era, rd, wr, fl⟩ := by
          simp [burnN, e]
          omega
        have e2 : rbN ⟨true, fuse, false, rd, wr, fl, era⟩ = ⟨true, fuse - 1, false, rd, wr, fl, era⟩ := by simp [rbN, e]
        rw [e1, e2]
        exact ⟨⟨rfl, rfl, fun _ => ⟨by simp only; omega, by simp only; omega⟩, rfl, rfl, rfl, rfl⟩, by simp [rbE, e]⟩

theorem ovD_congr {C C' : Nat → List Int} (t : Nat) : ∀ (dl : List Dd) (u : List Int), (∀ d ∈ dl, d.turn = false → C' d.g = C d.g) → ovD C' t dl u = ovD C t dl u
  | [], _, _ => rfl
  | d :: dl, u, h => by
    have e : ov1 C' t u d = ov1 C t u d := by
      unfold ov1
      cases ht : d.turn with
      | true => rfl
      | false => rw [h d (by simp) ht]
    show ovD C' t dl (ov1 C' t u d) = ovD C t dl (ov1 C t u d)
    rw [e]
    exact ovD_congr t dl _ (fun d hd => h d (by simp [hd]))

/-- The reference's state. -/
structure Rs where
  y : RN
  U : Nat → List Int
  Q : List (Nat × List Int)
/-- The two are alike. -/
structure Re (z : Nat) (s : St) (r : Rs) : Prop where
  n : Rn s.x r.y
  pend : s.x.pend = r.Q.length
  A : ∀ t, s.A t = qA r.Q t
  F : ∀ t, (s.F t).getD (zs z) = r.U t
/-- The reference's disk among the blocks Bl. -/
structure RB (w : World) (Bl : Nat → Prop) (q S z b : Nat) (r : Rs) : Prop where
  ex : ∃ dl cl dv cv C, RD w q S z b r.y dl cl dv cv C ∧ (∀ g, RD.blk q dl cl dv cv g → Bl g) ∧ (∀ t, ovD C t dl (zs z) = r.U t) ∧ cl.map (fun d => (d.s, C d.g)) = r.Q
  low : ∀ g, Bl g → g < w.heap.size
structure PoR (w w' : World) (Bl : Nat → Prop) (q S z b : Nat) (r : Rs) : Prop where
  ch : Chg Bl w w'
  ex : ∃ Bl' : Nat → Prop, (∀ g, Bl' g → grB Bl w w' g) ∧ RB w' Bl' q S z (b + 1) r

section
variable {w w' : World} {Bl : Nat → Prop} {q S z b : Nat} {s : St} {r : Rs}

theorem RD.mono {y : RN} {dl cl : List Dd} {dv cv : Value} {C : Nat → List Int} (h : RD w q S z b y dl cl dv cv C) {b' : Nat} (hb : b ≤ b') : RD w q S z b' y dl cl dv cv C :=
  ⟨h.row, h.dn, h.cn, h.dc, h.db, h.dt, h.cb, h.ds, h.cs, h.nd, h.cd, Nat.le_trans h.len hb⟩
theorem RB.frame (h : RB w Bl q S z b r) {T : Nat → Prop} (k : Chg T w w') (hT : ∀ g, Bl g → ¬ T g) : RB w' Bl q S z b r := by
  obtain ⟨dl, cl, dv, cv, C, hd, hb, hU, hQ⟩ := h.ex
  exact ⟨⟨dl, cl, dv, cv, C, hd.frame k (fun g hg => hT g (hb g hg)), hb, hU, hQ⟩, fun g hg => Nat.lt_of_lt_of_le (h.low g hg) k.size⟩
theorem RB.mono (h : RB w Bl q S z b r) {b' : Nat} (hb : b ≤ b') : RB w Bl q S z b' r := by
  obtain ⟨dl, cl, dv, cv, C, hd, q⟩ := h.ex
  exact ⟨⟨dl, cl, dv, cv, C, hd.mono hb, q⟩, h.low⟩
theorem RB.bq (h : RB w Bl q S z b r) : Bl q := by
  obtain ⟨dl, cl, dv, cv, C, hd, hb, _⟩ := h.ex
  exact hb q (.inl rfl)
theorem RB.stay (h : RB w Bl q S z b r) : PoR w w Bl q S z b r := ⟨Chg.refl _ _, Bl, fun _ h => .inl h, h.mono (Nat.le_succ b)⟩
/-- A call that has turned blocks of its own and made some. -/
theorem PoR.of (h : RB w Bl q S z b r) {r' : Rs} {dl cl : List Dd} {dv cv : Value} {C : Nat → List Int} (ch : Chg Bl w w') (hd : RD w' q S z (b + 1) r'.y dl cl dv cv C) (hb : ∀ g, RD.blk q dl cl dv cv g → Bl g ∨ w.heap.size ≤ g) (hU : ∀ t, ovD C t dl (zs z) = r'.U t) (hQ : cl.map (fun d => (d.s, C d.g)) = r'.Q) : PoR w w' Bl q S z b r' :=
  ⟨ch, grB Bl w w', fun _ h => h, ⟨dl, cl, dv, cv, C, hd, fun g hg => (hb g hg).imp id (fun e => ⟨e, hd.blt hg⟩), hU, hQ⟩, fun g hg => by
    rcases hg with hg | hg
    · exact Nat.lt_of_lt_of_le (h.low g hg) ch.size
    · exact hg.2⟩

theorem RB.write (h : RB w Bl q S z b r) (re : Re z s r) (hz : z ≤ 4096) (hz0 : 0 < z) (hb : b < 2199023255551) (i : Int) {g n cp : Nat} {l : List Int} (hs : n = z → Src w (.slice (some ⟨g, 0, none⟩) n cp) l ∧ l.length = z) (hg : g ≠ q) :
    Calls Try.prog 23 #[.pointer (some ⟨q, 0, none⟩), .int .i64 i, .slice (some ⟨g, 0, none⟩) n cp] w fun e w' => e = .returned (.int .i64 (writeA S z i n s)) ∧ ∃ r', PoR w w' Bl q S z b r' ∧ Re z (writeF S z i n l s) r' := by
  obtain ⟨dl, cl, dv, cv, C, hd, hbl, hU, hQ⟩ := h.ex
  obtain ⟨hbn, hbe⟩ := re.n.burn
  unfold writeA writeF
  by_cases hi : (0 ≤ i ∧ i < S) ∧ n = z
  · rw [if_pos hi, if_pos hi]
    obtain ⟨hi, rfl⟩ := hi
    obtain ⟨j, rfl⟩ : ∃ j : Nat, i = j := ⟨i.toNat, by omega⟩
    by_cases hx : s.x.off = true ∨ s.x.fuse = 0
    · rw [if_pos hx, if_pos hx]
      have hE : rbE r.y = false := by cases e : rbE r.y with
        | false => rfl
        | true => exact absurd hx (hbe.1 e)
      refine (hd.writeOff (j : Int) hi re.n.fu hE).mono ?_
      rintro e w9 ⟨rfl, ch, h9⟩
      exact ⟨rfl, ⟨rbN r.y, r.U, r.Q⟩, PoR.of h (ch.mono (fun i _ e => by rw [e]; exact h.bq)) (h9.mono (Nat.le_succ b)) (fun g hg => .inl (hbl g hg)) hU hQ, hbn, by rw [burnN_pend]; exact re.pend, re.A, re.F⟩
    · rw [if_neg hx, if_neg hx]
      have hE := hbe.2 hx
      obtain ⟨hr, hl⟩ := hs rfl
      refine (hd.write hr hl hz0 hz j (by omega) (by omega) re.n.fu hE (by simp [Value.ownBlock]; exact hg)).mono ?_
      rintro e w9 ⟨rfl, ch, cv', g', cp', h9, hg', hv'⟩
      have hgl := hd.glt
      have hov : ∀ d ∈ dl, d.turn = false → updT C g' l d.g = C d.g := fun d hd ht => updT_other _ _ (by have := hgl.1 d hd ht; omega)
      refine ⟨rfl, ⟨{ rbN r.y with wr := inc (rbN r.y).wr }, r.U, r.Q ++ [(j, l)]⟩, PoR.of h (ch.mono (fun k _ e => ?_)) h9 (fun k hk => ?_) (fun t => ?_) ?_, ?_, ?_, fun t => ?_, re.F⟩
      · rcases e with e | e
        · rw [e]; exact h.bq
        · exact hbl k (.inr (.inr (.inl e.symm)))
      · rcases hk with e | e | e | ⟨d, hd', ht, e⟩ | ⟨d, hd', e⟩
        · exact .inl (hbl k (.inl e))
        · exact .inl (hbl k (.inr (.inl e)))
        · rcases hv' with e1 | ⟨k', e1, e2⟩
          · exact .inl (hbl k (.inr (.inr (.inl (by rw [← e1]; exact e)))))
          · rw [e] at e1; injection e1 with e1; exact .inr (by omega)
        · exact .inl (hbl k (.inr (.inr (.inr (.inl ⟨d, hd', ht, e⟩)))))
        · rcases List.mem_append.1 hd' with hd' | hd'
          · exact .inl (hbl k (.inr (.inr (.inr (.inr ⟨d, hd', e⟩)))))
          · rw [List.mem_singleton.1 hd'] at e
            exact .inr (by rw [← e]; exact hg')
      · rw [← hU t]
        exact ovD_congr t dl _ hov
      · rw [List.map_append, ← hQ]
        congr 1
        · exact List.map_congr_left (fun d hd => by rw [updT_other _ _ (by have := hgl.2 d hd; omega)])
        · show [(j, updT C g' l g')] = _
          rw [updT_same]
      · exact ⟨hbn.off, hbn.fuse, hbn.fu, hbn.rd, by show inc _ = inc _; rw [hbn.wr], hbn.fl, hbn.era⟩
      · show ((s.x.pend.toNat + 1 : Nat) : Int) = _
        rw [re.pend, List.length_append]
        simp
      · show updT s.A ((j : Int).toNat) _ t = _
        rw [Int.toNat_natCast, qA_snoc, re.pend, Int.toNat_natCast]
        by_cases e : j = t
        · rw [if_pos e, ← e, updT_same, re.A]
        · rw [if_neg e, updT_other _ _ (fun e2 => e e2.symm), re.A]
  · rw [if_neg hi, if_neg hi]
    refine (hd.writeNo i hi).mono ?_
    rintro e w9 ⟨rfl, h9⟩
    subst h9
    exact ⟨rfl, r, h.stay, re⟩
theorem RB.flush (h : RB w Bl q S z b r) (re : Re z s r) (hb : b < 2199023255551) :
    Calls Try.prog 26 #[.pointer (some ⟨q, 0, none⟩)] w fun e w' => e = .returned (.int .i64 (flushA s)) ∧ ∃ r', PoR w w' Bl q S z b r' ∧ Re z (flushF s) r' := by
  obtain ⟨dl, cl, dv, cv, C, hd, hbl, hU, hQ⟩ := h.ex
  obtain ⟨hbn, hbe⟩ := re.n.burn
  unfold flushA flushF
  by_cases hx : s.x.off = true ∨ s.x.fuse = 0
  · rw [if_pos hx, if_pos hx]
    have hE : rbE r.y = false := by cases e : rbE r.y with
      | false => rfl
      | true => exact absurd hx (hbe.1 e)
    refine (hd.flushNo re.n.fu hE).mono ?_
    rintro e w9 ⟨rfl, ch, h9⟩
    exact ⟨rfl, ⟨rbN r.y, r.U, r.Q⟩, PoR.of h (ch.mono (fun i _ e => by rw [e]; exact h.bq)) (h9.mono (Nat.le_succ b)) (fun g hg => .inl (hbl g hg)) hU hQ, hbn, by rw [burnN_pend]; exact re.pend, re.A, re.F⟩
  · rw [if_neg hx, if_neg hx]
    refine (hd.flush (by omega) re.n.fu (hbe.2 hx)).mono ?_
    rintro e w9 ⟨rfl, ch, dv', h9, hv'⟩
    refine ⟨rfl, ⟨{ rbN r.y with fl := inc (rbN r.y).fl }, fun t => caQ t r.Q (r.U t), []⟩, PoR.of h (ch.mono (fun k _ e => ?_)) (h9.mono (Nat.le_succ b)) (fun k hk => ?_) (fun t => ?_) rfl, ?_, rfl, fun t => rfl, fun t => ?_⟩
    · rcases e with e | e
      · rw [e]; exact h.bq
      · exact hbl k (.inr (.inl e.symm))
    · rcases hk with e | e | e | ⟨d, hd', ht, e⟩ | ⟨d, hd', e⟩
      · exact .inl (hbl k (.inl e))
      · rcases hv' with e1 | ⟨k', e1, e2⟩
        · exact .inl (hbl k (.inr (.inl (by rw [← e1]; exact e))))
        · rw [e] at e1; injection e1 with e1; exact .inr (by omega)
      · simp [Value.ownBlock] at e
      · rcases List.mem_append.1 hd' with hd' | hd'
        · exact .inl (hbl k (.inr (.inr (.inr (.inl ⟨d, hd', ht, e⟩)))))
        · exact .inl (hbl k (.inr (.inr (.inr (.inr ⟨d, hd', e⟩)))))
      · cases hd'
    · show _ = caQ t r.Q (r.U t)
      rw [ovD_app, ovD_all cl _ (ovD_len dl _ (by simp [zs]) hd.dbl) (fun d hd' => ⟨(hd.cb d hd').1, (hd.cb d hd').2.1, (hd.cb d hd').2.2.2⟩), caD_caQ, hQ, hU t]
    · exact ⟨hbn.off, hbn.fuse, hbn.fu, hbn.rd, hbn.wr, by show inc _ = inc _; rw [hbn.fl], hbn.era⟩
    · show (lastA (s.A t) (s.F t)).getD (zs z) = caQ t r.Q (r.U t)
      rw [re.A, lastA_qA, re.F]

theorem RB.fuse (h : RB w Bl q S z b r) (re : Re z s r) (n : Int) (hn : n ≤ 9223372036854775807) :
    Calls Try.prog 27 #[.pointer (some ⟨q, 0, none⟩), .int .i64 n] w fun e w' => e = .returned (.tuple #[]) ∧ ∃ r', PoR w w' Bl q S z b r' ∧ Re z (fuseF n s) r' := by
  obtain ⟨dl, cl, dv, cv, C, hd, hbl, hU, hQ⟩ := h.ex
  refine (rfuse_any hd.row n).mono ?_
  rintro e w9 ⟨rfl, hr, ch⟩
  refine ⟨rfl, ⟨rfN n r.y, r.U, r.Q⟩, PoR.of h (ch.mono (fun i _ e => by rw [e]; exact h.bq)) ((hd.turn ch hr).mono (Nat.le_succ b)) (fun g hg => .inl (hbl g hg)) hU hQ, ?_, ?_, re.A, re.F⟩
  · have hn' := re.n
    show Rn (if s.x.off then s.x else { s.x with fuse := max n (-1) }) (rfN n r.y)
    unfold rfN
    rw [hn'.off]
    cases e : r.y.off with
    | true => exact hn'
    | false =>
      refine ⟨by show s.x.off = false; rw [hn'.off, e], ?_, ?_, hn'.rd, hn'.wr, hn'.fl, hn'.era⟩
      · show max n (-1) = if decide (0 ≤ n) = true then n else -1
        by_cases h0 : 0 ≤ n
        · rw [if_pos (by simpa using h0)]; omega
        · rw [if_neg (by simpa using h0)]; omega
      · intro h0
        have : 0 ≤ n := by simpa using h0
        exact ⟨this, hn⟩
  · show (if s.x.off then s.x else { s.x with fuse := max n (-1) }).pend = _
    rw [← re.pend]
    split <;> rfl

theorem RB.crash (h : RB w Bl q S z b r) (re : Re z s r) (hb : b < 2199023255551) (hz : z ≤ 4096) (hz0 : 0 < z) {a : Option Addr} {N cN : Nat} {kl : List Bool} (hk : KB w a N kl) (hka : ∀ g o, 0 < N → a = some ⟨g, o, none⟩ → ¬ Bl g) (torn at_ : Int) :
    Calls Try.prog 30 #[.pointer (some ⟨q, 0, none⟩), .slice a N cN, .int .i64 torn, .int .i64 at_] w fun e w' => e = .returned (.tuple #[]) ∧ ∃ r', PoR w w' Bl q S z b r' ∧ Re z (crashF z kl torn at_ s) r' := by
  obtain ⟨dl, cl, dv, cv, C, hd, hbl, hU, hQ⟩ := h.ex
  refine (hd.crash (by omega) hz hk (fun g o h0 e => ⟨fun e2 => hka g o h0 e (by rw [e2]; exact h.bq), fun e2 => hka g o h0 e (hbl g (.inr (.inl e2)))⟩) torn at_).mono ?_
  rintro e w9 ⟨rfl, ch, dv', h9, hv'⟩
  refine ⟨rfl, ⟨crN r.y, fun t => ovD C t (crD kl torn at_ z cl cl.length) (r.U t), []⟩, PoR.of h (ch.mono (fun k _ e => ?_)) (h9.mono (Nat.le_succ b)) (fun k hk => ?_) (fun t => ?_) rfl, ?_, rfl, fun t => rfl, fun t => ?_⟩
  · rcases e with e | e
    · rw [e]; exact h.bq
    · exact hbl k (.inr (.inl e.symm))
  · rcases hk with e | e | e | ⟨d, hd', ht, e⟩ | ⟨d, hd', e⟩
    · exact .inl (hbl k (.inl e))
    · rcases hv' with e1 | ⟨k', e1, e2⟩
      · exact .inl (hbl k (.inr (.inl (by rw [← e1]; exact e))))
      · rw [e] at e1; injection e1 with e1; exact .inr (by omega)
    · simp [Value.ownBlock] at e
    · rcases List.mem_append.1 hd' with hd' | hd'
      · exact .inl (hbl k (.inr (.inr (.inr (.inl ⟨d, hd', ht, e⟩)))))
      · obtain ⟨d0, h0, e1 | e1⟩ := crD_mem kl torn at_ z cl _ d hd'
        · exact .inl (hbl k (.inr (.inr (.inr (.inr ⟨d0, h0, by rw [← e, e1]⟩)))))
        · exact .inl (hbl k (.inr (.inr (.inr (.inr ⟨d0, h0, by rw [← e, e1]⟩)))))
    · cases hd'
  · show _ = ovD C t (crD kl torn at_ z cl cl.length) (r.U t)
    rw [ovD_app, hU t]
  · exact ⟨rfl, rfl, fun e => (by cases e), re.n.rd, re.n.wr, re.n.fl, by show wrap64 _ = wrap64 _; rw [re.n.era]⟩
  · show (foldA z (keptN kl torn at_ z) (s.A t) (s.F t)).getD (zs z) = ovD C t (crD kl torn at_ z cl cl.length) (r.U t)
    rw [← re.F t, crash_same hz0 (fun d hd' => ⟨(hd.cb d hd').1, (hd.cb d hd').2.1, (hd.cb d hd').2.2.2⟩) cl.length (Nat.le_refl _), re.A, ← hQ, List.take_of_length_le (by rw [List.length_map]; exact Nat.le_refl _)]

theorem RB.rot (h : RB w Bl q S z b r) (re : Re z s r) (hb : b < 2199023255551) (hS : S ≤ 65536) (hz : z ≤ 4096) (i at_ mask : Int) :
    Calls Try.prog 52 #[.pointer (some ⟨q, 0, none⟩), .int .i64 i, .int .i64 at_, .int .u8 mask] w fun e w' => e = .returned (.int .i64 (rotA S z i at_)) ∧ ∃ r', PoR w w' Bl q S z b r' ∧ Re z (rotF S z i at_ mask s) r' := by
  obtain ⟨dl, cl, dv, cv, C, hd, hbl, hU, hQ⟩ := h.ex
  unfold rotA rotF
  by_cases hi : (0 ≤ i ∧ i < S) ∧ (0 ≤ at_ ∧ at_ < z)
  · rw [if_pos hi, if_pos hi]
    obtain ⟨hi, ha⟩ := hi
    obtain ⟨j, rfl⟩ : ∃ j : Nat, i = j := ⟨i.toNat, by omega⟩
    obtain ⟨p, rfl⟩ : ∃ p : Nat, at_ = p := ⟨at_.toNat, by omega⟩
    rw [Int.toNat_natCast, Int.toNat_natCast]
    refine (hd.rot hb (s := j) (at_ := p) (by omega) hS (by omega) hz mask).mono ?_
    rintro e w9 ⟨rfl, ch, dv', C', h9, hv', hC1, hC2⟩
    have hov : ∀ d ∈ dl, d.turn = false → C' d.g = C d.g := fun d hd' ht => hC1 d.g (fun d2 hd2 e => hd.cd d2 hd2 d hd' ht e.symm)
    refine ⟨rfl, ⟨r.y, updT r.U j (rotL p mask (r.U j)), r.Q.map (fun x => if x.1 = j then (x.1, rotL p mask x.2) else x)⟩, PoR.of h (ch.mono (fun k _ e => hbl k e)) h9 (fun k hk => ?_) (fun t => ?_) ?_, re.n, ?_, fun t => ?_, fun t => ?_⟩
    · rcases hk with e | e | e | ⟨d, hd', ht, e⟩ | ⟨d, hd', e⟩
      · exact .inl (hbl k (.inl e))
      · rcases hv' with e1 | ⟨k', e1, e2⟩
        · exact .inl (hbl k (.inr (.inl (by rw [← e1]; exact e))))
        · rw [e] at e1; injection e1 with e1; exact .inr (by omega)
      · exact .inl (hbl k (.inr (.inr (.inl e))))
      · rcases List.mem_append.1 hd' with hd' | hd'
        · exact .inl (hbl k (.inr (.inr (.inr (.inl ⟨d, hd', ht, e⟩)))))
        · rw [List.mem_singleton.1 hd'] at ht
          cases ht
      · exact .inl (hbl k (.inr (.inr (.inr (.inr ⟨d, hd', e⟩)))))
    · show _ = updT r.U j (rotL p mask (r.U j)) t
      rw [ovD_snoc, ovD_congr t dl _ hov, hU t]
      unfold ov1
      by_cases e : j = t
      · rw [if_pos e, ← e, updT_same]
        rfl
      · rw [if_neg e, updT_other _ _ (fun e2 => e e2.symm)]
    · show _ = r.Q.map _
      rw [← hQ, List.map_map]
      refine List.map_congr_left (fun d hd' => ?_)
      show (d.s, C' d.g) = if d.s = j then (d.s, rotL p mask (C d.g)) else (d.s, C d.g)
      rw [hC2 d hd']
      split <;> rfl
    · show s.x.pend = _
      rw [re.pend, List.length_map]
    · show updT s.A j _ t = qA (r.Q.map _) t
      rw [qA_map]
      by_cases e : t = j
      · rw [if_pos e, e, updT_same, re.A]
      · rw [if_neg e, updT_other _ _ e, re.A]
    · show (updT s.F j _ t).getD (zs z) = updT r.U j _ t
      by_cases e : t = j
      · rw [e, updT_same, updT_same, re.F]
        rfl
      · rw [updT_other _ _ e, updT_other _ _ e, re.F]
  · rw [if_neg hi, if_neg hi]
    refine (hd.rotNo i at_ mask hi).mono ?_
    rintro e w9 ⟨rfl, h9⟩
    subst h9
    exact ⟨rfl, r, h.stay, re⟩

theorem RB.read (h : RB w Bl q S z b r) (re : Re z s r) (hb : b < 2199023255551) (hz : z ≤ 4096) (i : Int) :
    Calls Try.prog 45 #[.pointer (some ⟨q, 0, none⟩), .int .i64 i] w fun e w' => ∃ v, e = .returned v ∧ ReadA w w' S z i s v ∧ ∃ r', PoR w w' Bl q S z b r' ∧ Re z (readF S i s) r' := by
  obtain ⟨dl, cl, dv, cv, C, hd, hbl, hU, hQ⟩ := h.ex
  unfold readF ReadA
  by_cases hi : 0 ≤ i ∧ i < S
  · obtain ⟨j, rfl⟩ : ∃ j : Nat, i = j := ⟨i.toNat, by omega⟩
    cases ho : s.x.off with
    | false =>
      rw [if_pos ⟨hi, rfl⟩]
      refine (hd.read (by omega) hz j (by omega) (by rw [← re.n.off]; exact ho)).mono ?_
      rintro e w9 ⟨rfl, ch, h9, hr⟩
      refine ⟨_, rfl, ?_, ⟨{ r.y with rd := inc r.y.rd }, r.U, r.Q⟩, PoR.of h (ch.mono (fun i _ e => by rw [e]; exact h.bq)) (h9.mono (Nat.le_succ b)) (fun g hg => .inl (hbl g hg)) hU hQ, ?_, re.pend, re.A, re.F⟩
      · rw [if_pos hi, if_neg (by decide)]
        refine ⟨_, rfl, ?_, Nat.le_refl _⟩
        rw [Int.toNat_natCast, re.A, lastA_qA, re.F, ← hU, ← hQ, ← caD_caQ]
        exact hr
      · exact ⟨re.n.off, re.n.fuse, re.n.fu, by show inc _ = inc _; rw [re.n.rd], re.n.wr, re.n.fl, re.n.era⟩
    | true =>
      rw [if_neg (fun e => by cases e.2)]
      refine (hd.readOff (j : Int) hi (by rw [← re.n.off]; exact ho)).mono ?_
      rintro e w9 ⟨rfl, h9⟩
      subst h9
      exact ⟨_, rfl, by rw [if_pos hi, if_pos rfl], r, h.stay, re⟩
  · rw [if_neg (fun e => hi e.1)]
    refine (hd.readNo i hi).mono ?_
    rintro e w9 ⟨rfl, h9⟩
    subst h9
    exact ⟨_, rfl, by rw [if_neg hi], r, h.stay, re⟩

theorem RB.pending (h : RB w Bl q S z b r) (hb : b < 2199023255551) :
    Calls Try.prog 47 #[.pointer (some ⟨q, 0, none⟩)] w fun e w' => ∃ v, e = .returned v ∧ OwnP w' v (r.Q.map Prod.fst) ∧ (∀ k, v.ownBlock = some k → w.heap.size ≤ k) ∧ PoR w w' Bl q S z b r := by
  obtain ⟨dl, cl, dv, cv, C, hd, hbl, hU, hQ⟩ := h.ex
  refine (hd.pending (by omega)).mono ?_
  rintro e w9 ⟨v, rfl, ho, ch, hv⟩
  refine ⟨v, rfl, ?_, hv, ch.mono (fun _ _ h => h.elim), Bl, fun _ h => .inl h, (h.frame ch (fun _ _ h => h)).mono (Nat.le_succ b)⟩
  rw [← hQ, List.map_map]
  exact ho

theorem RB.image (h : RB w Bl q S z b r) (re : Re z s r) (hb : b < 2199023255551) (hz : z ≤ 4096) (hz0 : 0 < z) (hSz : S * z ≤ 16777216) :
    Calls Try.prog 51 #[.pointer (some ⟨q, 0, none⟩)] w fun e w' => e = .returned (.slice (some ⟨w.heap.size, 0, none⟩) (S * z) (S * z)) ∧ Rw w' w.heap.size (bs (imgT z S s.F)).toArray 5 ∧ PoR w w' Bl q S z b r := by
  obtain ⟨dl, cl, dv, cv, C, hd, hbl, hU, hQ⟩ := h.ex
  refine (hd.image (by omega) hz hz0 hSz).mono ?_
  rintro e w9 ⟨rfl, ch, hr⟩
  refine ⟨rfl, ?_, ch.mono (fun _ _ h => h.elim), Bl, fun _ h => .inl h, (h.frame ch (fun _ _ h => h)).mono (Nat.le_succ b)⟩
  rw [imI_F, show (fun t => (s.F t).getD (zs z)) = fun t => ovD C t dl (zs z) from funext fun t => by rw [re.F, hU]]
  exact hr
end
end Go.Proofs.Ytddnecfnjnipjaa
