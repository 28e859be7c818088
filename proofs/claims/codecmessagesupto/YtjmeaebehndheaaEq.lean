import Derived.Test.YtjmeaebehndheaaUint
import Derived.Test.YtjmeaebehndheaaText
import Derived.Test.YtjmeaebehndheaaLaid
import Derived.Test.YtjmeaebehndheaaSum2
import Derived.Stop.BytesEq
/-
  The walks of a Reader's Text and of NewReader.
-/
namespace Go.Proofs.Ytjmeaebehndheaa
open Go.RowKit

theorem uintS_le {T : List Int} {a : Nat} {err : Int} {most : Nat} (hb : Byts T) (ha : a ≤ T.length) : (uintS T a err most).1 ≤ most ∧ (uintS T a err most).2.1 ≤ T.length := by
  by_cases he : err = 0
  · subst he
    obtain ⟨e, n, u, hg⟩ : ∃ e n u, numG (T.drop a) 0 0 = (e, n, u) := ⟨_, _, _, rfl⟩
    by_cases he : e = 0
    · subst he
      have hu := (numG_fits (T.drop a) 0 0 n u (Byts.drop hb a) (by omega) (by omega) hg).1
      simp only [List.length_drop] at hu
      by_cases hm : most < n
      · rw [uintS_long hg hm]; exact ⟨Nat.zero_le _, ha⟩
      · rw [uintS_ok hg hm]; exact ⟨by show n ≤ most; omega, by show a + u ≤ _; omega⟩
    · rw [uintS_bad hg he]; exact ⟨Nat.zero_le _, ha⟩
  · rw [uintS_err he]; exact ⟨Nat.zero_le _, ha⟩

/-- What the code's way of Text comes to. -/
theorem textC {T : List Int} {a : Nat} {err most : Int} (hb : Byts T) (_ha : a ≤ T.length) (N A : Nat) (E E2 : Int) (hU : uintS T a err (max most 0).toNat = (N, A, E)) (hE : E2 = if most < 0 then failE E 21 else E) :
    pL T A E2 N = (textS T a err most).1 ∧ (if pE T A E2 N = 0 then pA T A E2 N else a) = (textS T a err most).2.1 ∧ pE T A E2 N = (textS T a err most).2.2 := by
  have bad : ∀ (x : Int), ¬ x = 0 → A = a → E2 = x → textS T a err most = ([], a, x) → pL T A E2 N = (textS T a err most).1 ∧ (if pE T A E2 N = 0 then pA T A E2 N else a) = (textS T a err most).2.1 ∧ pE T A E2 N = (textS T a err most).2.2 := by
    intro x hx hA he ht
    subst he
    obtain ⟨e1, e2, e3⟩ := p_err (T := T) (a := A) (n := (N : Int)) hx
    rw [ht, e1, e2, e3, if_neg hx]
    exact ⟨rfl, rfl, rfl⟩
  by_cases he : err = 0
  · subst he
    obtain ⟨e, n, u, hg⟩ : ∃ e n u, numG (T.drop a) 0 0 = (e, n, u) := ⟨_, _, _, rfl⟩
    by_cases he : e = 0
    · subst he
      have hu := (numG_fits (T.drop a) 0 0 n u (Byts.drop hb a) (by omega) (by omega) hg).1
      simp only [List.length_drop] at hu
      by_cases hm0 : most < 0
      · rw [if_pos hm0] at hE
        by_cases hm : (max most 0).toNat < n
        · rw [uintS_long hg hm] at hU
          injection hU with h1 hU
          injection hU with h2 h3
          subst h1 h2 h3
          exact bad 21 (by decide) rfl (by rw [hE]; rfl) (textS_long hg (.inl hm0))
        · rw [uintS_ok hg hm] at hU
          injection hU with h1 hU
          injection hU with h2 h3
          subst h1 h2 h3
          rw [failE_yes] at hE
          subst hE
          obtain ⟨e1, e2, e3⟩ := p_err (T := T) (a := a + u) (n := (n : Int)) (err := 21) (by decide)
          rw [textS_long hg (.inl hm0), e1, e2, e3, if_neg (by decide)]
          exact ⟨rfl, rfl, rfl⟩
      · rw [if_neg hm0] at hE
        by_cases hm : (max most 0).toNat < n
        · rw [uintS_long hg hm] at hU
          injection hU with h1 hU
          injection hU with h2 h3
          subst h1 h2 h3
          exact bad 21 (by decide) rfl hE (textS_long hg (.inr (by omega)))
        · rw [uintS_ok hg hm] at hU
          injection hU with h1 hU
          injection hU with h2 h3
          subst h1 h2 h3 hE
          have hmn : ¬ (most < 0 ∨ most < n) := by omega
          by_cases hsh : T.length < a + u + n
          · obtain ⟨e1, e2, e3⟩ := p_bad (T := T) (a := a + u) (n := (n : Int)) (by omega)
            rw [textS_short hg hmn hsh, e1, e2, e3, if_neg (by decide)]
            exact ⟨rfl, rfl, rfl⟩
          · obtain ⟨e1, e2, e3⟩ := p_good (T := T) (a := a + u) (m := n) (by omega) (by omega)
            rw [textS_ok hg hmn hsh, e1, e2, e3, if_pos rfl]
            exact ⟨rfl, rfl, rfl⟩
    · rw [uintS_bad hg he] at hU
      injection hU with h1 hU
      injection hU with h2 h3
      subst h1 h2 h3
      refine bad e he rfl ?_ (textS_bad hg he)
      rw [hE]; split
      · exact failE_no _ he
      · rfl
  · rw [uintS_err he] at hU
    injection hU with h1 hU
    injection hU with h2 h3
    subst h1 h2 h3
    refine bad err he rfl ?_ (textS_err he)
    rw [hE]; split
    · exact failE_no _ he
    · rfl

set_option maxRecDepth 100000 in
set_option maxHeartbeats 4000000 in
theorem rText_any {w : World} {p : Nat} {t : TypeId} {tv : Value} {T : List Int} {a : Nat} {err : Int} (h : RS w p t tv T a err) (most : Int) (hm : most ≤ 9223372036854775807) (hm2 : -9223372036854775808 ≤ most) :
    Calls Try.prog 68 #[.pointer (some ⟨p, 0, none⟩), .int .i64 most] w fun e w' => ∃ s, e = .returned s ∧ Own w' s (textS T a err most).1 ∧ RP w w' p t tv T (textS T a err most).2.1 (textS T a err most).2.2 ∧ ∀ k, s.ownBlock = some k → w.heap.size ≤ k := by
  obtain ⟨M, hMe⟩ : ∃ M : Nat, M = (max most 0).toNat := ⟨_, rfl⟩
  obtain ⟨N, A, E, hU⟩ : ∃ N A E, uintS T a err M = (N, A, E) := ⟨_, _, _, rfl⟩
  obtain ⟨E2, hE⟩ : ∃ E2, E2 = if most < 0 then failE E 21 else E := ⟨_, rfl⟩
  have hle2 := uintS_le (err := err) (most := M) h.byt h.le
  rw [hU] at hle2
  obtain ⟨hN, hA⟩ := hle2
  have hN : N ≤ M := hN
  have hMb : M ≤ 9223372036854775807 := by omega
  have TC : Hid _ := textC (T := T) (a := a) (err := err) (most := most) h.byt h.le N A E E2 (by rw [← hMe]; exact hU) hE
  have UU := rUint_any h M (by omega)
  rw [hU] at UU
  have HU : Hid _ := UU
  have k1 := h.c1
  obtain ⟨R, hR⟩ : ∃ R, R = textS T a err most := ⟨_, rfl⟩
  rw [← hR] at TC ⊢
  have hle := h.le
  have hp0 := h.lt
  clear UU hR hU
  by_cases hm0 : most < 0
  · rw [if_pos hm0] at hE
    have HE : Hid _ := hE
    obtain rfl : M = 0 := by omega
    clear hE hMe h
    go_enter Try.func68, Try.ntmps68
    go_wp2_with fail
    refine Calls.mono HU.out ?_
    rintro e w1 ⟨rfl, P1⟩
    have P1 : RP w w1 p t tv T A E := P1
    have HP1 : Hid _ := P1
    clear P1 HU
    go_wp2_with fail
    refine (rFail_any HP1.out.1 21).mono ?_
    rintro e w2 ⟨rfl, P2⟩
    rw [← HE.out] at P2
    have PX : Hid _ := P2
    have PY : Chg (fun k => k = p) w w2 := HP1.out.2.trans P2.2 (fun _ e => .inl e)
    clear P2
    go_wp2_with fail
    refine (rRaw_any PX.out.1 N).mono ?_
    rintro e w3 ⟨s3, rfl, o3, r3, b3⟩
    obtain ⟨t1, t2, t3⟩ := TC.out
    rw [t1] at o3
    obtain ⟨X, hX⟩ : ∃ X, X = pE T A E2 N := ⟨_, rfl⟩
    rw [← hX] at r3 t2 t3
    have c2 := r3.1.c2
    have c1 := r3.1.c1
    have fr := r3.1.fr 1
    have O3 : Hid _ := o3
    have R3 : Hid _ := r3
    have CH : Hid (Chg (fun k => k = p) w w3) := PY.trans r3.2 (fun _ e => .inl e)
    have B3 : Hid (∀ k, s3.ownBlock = some k → w.heap.size ≤ k) := fun k hk => Nat.le_trans PY.size (b3 k hk)
    have T2 : Hid _ := t2
    have T3 : Hid _ := t3
    clear o3 r3 b3 t1 t2 t3 hX TC
    by_cases hx0 : X = 0
    · have HX0 : Hid _ := hx0
      go_wp2_with fail
      go_ret
      refine ⟨_, rfl, O3.out, ?_, B3.out⟩
      rw [← T2.out, ← T3.out, if_pos HX0.out]
      exact ⟨R3.out.1, CH.out⟩
    · go_wp2_with fail
      go_ret
      refine ⟨_, rfl, Own.kept O3.out ((Chg.refl (fun k => k = p) w3).setCell (.inl rfl) _) (fun k hk e => by have := B3.out k hk; omega), ?_, B3.out⟩
      rw [← T2.out, ← T3.out, if_neg hx0]
      exact ⟨RS.setAt R3.out.1 a hle, CH.out.setCell (.inl rfl) _⟩
  · rw [if_neg hm0] at hE
    subst hE
    have hMi : most = (M : Int) := by omega
    clear hMe h
    subst hMi
    go_enter Try.func68, Try.ntmps68
    go_wp2_with fail
    refine Calls.mono HU.out ?_
    rintro e w1 ⟨rfl, P1⟩
    have P1 : RP w w1 p t tv T A E2 := P1
    have PX : Hid _ := P1
    have PY : Chg (fun k => k = p) w w1 := P1.2
    clear P1 HU
    go_wp2_with fail
    refine (rRaw_any PX.out.1 N).mono ?_
    rintro e w3 ⟨s3, rfl, o3, r3, b3⟩
    obtain ⟨t1, t2, t3⟩ := TC.out
    rw [t1] at o3
    obtain ⟨X, hX⟩ : ∃ X, X = pE T A E2 N := ⟨_, rfl⟩
    rw [← hX] at r3 t2 t3
    have c2 := r3.1.c2
    have c1 := r3.1.c1
    have fr := r3.1.fr 1
    have O3 : Hid _ := o3
    have R3 : Hid _ := r3
    have CH : Hid (Chg (fun k => k = p) w w3) := PY.trans r3.2 (fun _ e => .inl e)
    have B3 : Hid (∀ k, s3.ownBlock = some k → w.heap.size ≤ k) := fun k hk => Nat.le_trans PY.size (b3 k hk)
    have T2 : Hid _ := t2
    have T3 : Hid _ := t3
    clear o3 r3 b3 t1 t2 t3 hX TC
    by_cases hx0 : X = 0
    · have HX0 : Hid _ := hx0
      go_wp2_with fail
      go_ret
      refine ⟨_, rfl, O3.out, ?_, B3.out⟩
      rw [← T2.out, ← T3.out, if_pos HX0.out]
      exact ⟨R3.out.1, CH.out⟩
    · go_wp2_with fail
      go_ret
      refine ⟨_, rfl, Own.kept O3.out ((Chg.refl (fun k => k = p) w3).setCell (.inl rfl) _) (fun k hk e => by have := B3.out k hk; omega), ?_, B3.out⟩
      rw [← T2.out, ← T3.out, if_neg hx0]
      exact ⟨RS.setAt R3.out.1 a hle, CH.out.setCell (.inl rfl) _⟩

set_option maxRecDepth 100000 in
set_option maxHeartbeats 1000000 in
theorem newReader_any {w : World} {s : Value} {T : List Int} (hs : Src w s T) (hb : Byts T) (hl : T.length ≤ 140737488355328) :
    Calls Try.prog 20 #[s] w fun e w' => ∃ p tv, e = .returned (.pointer (some ⟨p, 0, none⟩)) ∧ RS w' p 143 tv T 0 0 ∧ Own w' tv T ∧ Below w.heap.size w w' ∧ w.heap.size ≤ p ∧ ∀ k, tv.ownBlock = some k → w.heap.size ≤ k := by
  have HS : Hid _ := hs
  obtain ⟨a0, c0, hs2⟩ := hs.form
  subst hs2
  clear hs
  go_enter Try.func20, Try.ntmps20
  go_wp2_with fail
  refine (clone_any HS.out hl).mono ?_
  rintro e w1 ⟨v1, rfl, M1⟩
  obtain ⟨b0, d0, hv, hcap⟩ : ∃ a c, v1 = .slice a T.length c ∧ T.length ≤ c ∧ c ≤ 9223372036854775807 := by
    rcases M1.1.2 with ⟨rfl, h0⟩ | ⟨g, cap, cur, rfl, _, _, h1, h2, _⟩
    · exact ⟨none, 0, by rw [h0], by omega, by omega⟩
    · exact ⟨_, _, rfl, h1, by unfold maxLen at h2; omega⟩
  have HM : Hid _ := M1
  subst hv
  clear M1
  go_wp2_with fail
  go_ret
  refine ⟨_, _, rfl, ⟨heap_alloc_new _ _, Own.src (Own.alloc HM.out.1 _), fun e => ?_, Nat.zero_le _, hl, hb, _, _, rfl, hcap⟩, Own.alloc HM.out.1 _, HM.out.2.1.alloc HM.out.2.1.size _, HM.out.2.1.size, HM.out.2.2⟩
  have := Own.lt HM.out.1 e
  omega
end Go.Proofs.Ytjmeaebehndheaa

/-
  A Reader at work while a record is built in blocks of its own.
-/
namespace Go.Proofs.Ytjmeaebehndheaa
open Go.RowKit

/-- Since w0 only the Reader's block has turned, of all that was there. -/
structure At (w0 w : World) (p : Nat) (t : TypeId) (tv : Value) (T : List Int) (a : Nat) (err : Int) : Prop where
  rp : RP w0 w p t tv T a err
  plt : p < w0.heap.size
  tlt : ∀ k, tv.ownBlock = some k → k < w0.heap.size ∨ T = []

section
variable {w0 w w' : World} {p g : Nat} {t ty : TypeId} {tv : Value} {T : List Int} {a a1 : Nat} {err e1 : Int} {cs : List Value}
theorem At.start (h : RS w p t tv T a err) : At w w p t tv T a err := ⟨h.refl, h.lt, h.tvlt⟩
theorem At.chg (h : At w0 w p t tv T a err) (c : Chg (fun k => k = g) w w') (hg : w0.heap.size ≤ g) : At w0 w' p t tv T a err :=
  ⟨⟨h.rp.1.keep2 c (fun e => by have := h.plt; omega) (fun k hk => (h.tlt k hk).imp (fun hlt e => by omega) id), h.rp.2.trans c (fun i e => .inr (by omega))⟩, h.plt, h.tlt⟩
theorem At.below (h : At w0 w p t tv T a err) (c : Below w.heap.size w w') : At w0 w' p t tv T a err :=
  ⟨⟨h.rp.1.keep0 c, h.rp.2.trans (Chg.of_below c (fun _ => False)) (fun _ e => e.elim)⟩, h.plt, h.tlt⟩
theorem At.alloc (h : At w0 w p t tv T a err) (o : Obj) : At w0 (w.alloc o) p t tv T a err := h.below ((Below.refl _ _).alloc (Nat.le_refl _) _)
theorem At.set (h : At w0 w p t tv T a err) (hg : w0.heap.size ≤ g) (o : Nat) (v : Value) : At w0 (w.setCell ⟨g, o, none⟩ v) p t tv T a err :=
  h.chg (g := g) ((Chg.refl (fun k => k = g) w).setCell (p := ⟨g, o, none⟩) (.inl rfl) v) hg
theorem At.call (h : At w0 w p t tv T a err) (k : RP w w' p t tv T a1 e1) : At w0 w' p t tv T a1 e1 := ⟨h.rp.trans k, h.plt, h.tlt⟩
theorem At.blk (h : At w0 w p t tv T a err) (hb : Blk w g cs ty) (hg : w0.heap.size ≤ g) (k : RP w w' p t tv T a1 e1) : Blk w' g cs ty := hb.keep k.2 (fun e => by have := h.plt; omega)
end

/-- A slice that came in or was made: its bytes, and that it lies in what is there. -/
structure In (w : World) (s : Value) (T : List Int) : Prop where
  src : Src w s T
  byt : Byts T
  big : T.length ≤ 140737488355328
  cap : ∃ a c, s = .slice a T.length c ∧ T.length ≤ c ∧ c ≤ 9223372036854775807
  lt : ∀ k, s.ownBlock = some k → k < w.heap.size

theorem In.keep {w w' : World} {s : Value} {T : List Int} (h : In w s T) (b : Below w.heap.size w w') : In w' s T := ⟨h.src.kept0 b, h.byt, h.big, h.cap, fun k hk => Nat.lt_of_lt_of_le (h.lt k hk) b.size⟩
theorem In.alloc {w : World} {s : Value} {T : List Int} (h : In w s T) (o : Obj) : In (w.alloc o) s T := h.keep ((Below.refl _ _).alloc (Nat.le_refl _) _)
theorem Own.in_ {w : World} {v : Value} {T : List Int} (h : Own w v T) (hb : Byts T) (hl : T.length ≤ 140737488355328) : In w v T := by
  refine ⟨h.src, hb, hl, ?_, fun k hk => h.lt hk⟩
  rcases h.2 with ⟨rfl, h0⟩ | ⟨g, cap, cur, rfl, _, _, h1, h2, _⟩
  · exact ⟨none, 0, by rw [h0], by omega, by omega⟩
  · exact ⟨_, _, rfl, h1, by unfold maxLen at h2; omega⟩

/-- A Reader that was just laid. -/
theorem In.reader {w w' : World} {s : Value} {T : List Int} (h : In w s T) (t : TypeId) (b : Below w.heap.size w w') : RS (w'.alloc (.cells #[s, .int .i64 0, .int .i64 0] t)) w'.heap.size t s T 0 0 :=
  ⟨heap_alloc_new _ _, (h.keep b).src.kept0 ((Below.refl _ _).alloc (Nat.le_refl _) _), fun e => by have := h.lt _ e; have := b.size; omega, Nat.zero_le _, h.big, h.byt, h.cap⟩
end Go.Proofs.Ytjmeaebehndheaa

/-
  Sums and addresses, compared with themselves.
-/
namespace Go.Proofs.Ytjmeaebehndheaa
open Go.RowKit

theorem eq31 (d : Nat) (z : List Int) (hz : z.length = 32) (w : World) : (Op.equalIn (d + 2) 31 (.agg (bs z).toArray) (.agg (bs z).toArray)).run Try.prog w = .ok true w := by
  have hsz : ∀ w, (sizeOf 5).run Try.prog w = .ok 1 w := fun _ => by kernel_rfl
  rw [Op.equalIn]
  simp only [Sem.run_bind, run_underlying Try.underlying31, Result.andThen_ok, hsz, Std.Legacy.Range.forIn_eq_forIn_range', Std.Legacy.Range.size, Nat.sub_zero, Nat.add_sub_cancel, Nat.div_one]
  have hl : ∀ i ∈ List.range' 0 32 1, i < 32 := fun i hi => by simpa using (List.mem_range'_1.1 hi).2
  generalize List.range' 0 32 1 = l at hl ⊢
  induction l with
  | nil => simp
  | cons i l ih =>
    have hi : i < 32 := hl i (by simp)
    have px : (part 5 (bs z).toArray (i * 1)).run Try.prog w = .ok (.int .u8 (z[i]'(by omega))) w := by
      have := bs_get z i (by omega)
      simp [part, isAgg, run_underlying Try.underlying5, this]
    have pe : (Op.equalIn (d + 1) 5 (.int .u8 (z[i]'(by omega))) (.int .u8 (z[i]'(by omega)))).run Try.prog w = .ok true w := by
      rw [run_equalIn_int w d 5 .u8 .u8 _ _ Try.underlying5]
      simp
    simp only [List.forIn_cons, Sem.run_bind, px, pe, Result.andThen_ok]
    simp only [Bool.not_true, Bool.false_eq_true, if_false, Sem.run_pure, Result.andThen_ok]
    exact ih fun j hj => hl j (by simp [hj])

theorem eql31 (z : List Int) (hz : z.length = 32) (w : World) : (binOp .eql 31 (.agg (bs z).toArray) (.agg (bs z).toArray)).run Try.prog w = .ok (.bool true) w := by
  rw [run_eql_struct, eq31 9998 z hz w]; rfl

theorem Try.struct33 : Try.prog.underlying 33 = some (.struct (Try.prog.fieldsOf 33)) := by kernel_rfl
theorem Try.fields33 : (Try.prog.fieldsOf 33).toList.map (fun f => (f.name, f.type, f.offset)) = [("Sum", 31, 0), ("Nth", 5, 32)] := by kernel_rfl
theorem eqF_cons (d : Nat) (xs : Array Value) (f : Field) (fs : List Field) (w : World) (a : Value) (hn : f.name ≠ "_") (hp : (part f.type xs f.offset).run Try.prog w = .ok a w) (hq : (Op.equalIn d f.type a a).run Try.prog w = .ok true w) :
    (Op.eqFields d xs xs (f :: fs)).run Try.prog w = (Op.eqFields d xs xs fs).run Try.prog w := by
  simp only [Op.eqFields, if_pos hn, Sem.run_bind, hp, Result.andThen_ok, hq, Bool.not_true, Bool.false_eq_true, if_false]
theorem eqF_nil (d : Nat) (xs : Array Value) (w : World) : (Op.eqFields d xs xs []).run Try.prog w = .ok true w := by simp only [Op.eqFields, Sem.run_pure]
theorem eqF (d : Nat) (z : List Int) (hz : z.length = 33) (w : World) (f1 f2 : Field) (h1 : f1.name ≠ "_") (h2 : f2.name ≠ "_") (t1 : f1.type = 31) (t2 : f2.type = 5) (o1 : f1.offset = 0) (o2 : f2.offset = 32) :
    (Op.eqFields (d + 2) (bs z).toArray (bs z).toArray [f1, f2]).run Try.prog w = .ok true w := by
  have hs31 : ∀ w, (sizeOf 31).run Try.prog w = .ok 32 w := fun _ => by kernel_rfl
  have p1 : (part 31 (bs z).toArray 0).run Try.prog w = .ok (.agg (bs (z.take 32)).toArray) w := by
    have e : List.take 32 (bs z) = bs (z.take 32) := by simp [bs, List.map_take]
    simp [part, isAgg, run_underlying Try.underlying31, hs31, e]
  have p2 : (part 5 (bs z).toArray 32).run Try.prog w = .ok (.int .u8 (z[32]'(by omega))) w := by
    have := bs_get z 32 (by omega)
    simp [part, isAgg, run_underlying Try.underlying5, this]
  have q1 := eq31 d (z.take 32) (by simp; omega) w
  have q2 : (Op.equalIn (d + 2) 5 (.int .u8 (z[32]'(by omega))) (.int .u8 (z[32]'(by omega)))).run Try.prog w = .ok true w := by
    rw [run_equalIn_int w (d + 1) 5 .u8 .u8 _ _ Try.underlying5]
    simp
  rw [eqF_cons (d + 2) _ f1 _ w _ h1 (by rw [t1, o1]; exact p1) (by rw [t1]; exact q1), eqF_cons (d + 2) _ f2 _ w _ h2 (by rw [t2, o2]; exact p2) (by rw [t2]; exact q2)]
  exact eqF_nil _ _ w
theorem eq33 (d : Nat) (z : List Int) (hz : z.length = 33) (w : World) : (Op.equalIn (d + 3) 33 (.agg (bs z).toArray) (.agg (bs z).toArray)).run Try.prog w = .ok true w := by
  rw [run_equalIn_struct w (d + 2) 33 _ _ Try.struct33 (by kernel_rfl)]
  obtain ⟨f1, f2, e⟩ : ∃ f1 f2, (Try.prog.fieldsOf 33).toList = [f1, f2] := by
    have := congrArg List.length Try.fields33
    rw [List.length_map] at this
    match h : (Try.prog.fieldsOf 33).toList, this with
    | [f1, f2], _ => exact ⟨f1, f2, rfl⟩
  have h := Try.fields33
  rw [e] at h
  simp only [List.map_cons, List.map_nil, List.cons.injEq, Prod.mk.injEq, and_true] at h
  obtain ⟨⟨a1, a2, a3⟩, b1, b2, b3⟩ := h
  rw [e]
  exact eqF d z hz w f1 f2 (by rw [a1]; simp) (by rw [b1]; simp) a2 b2 a3 b3
theorem eql33 (z : List Int) (hz : z.length = 33) (w : World) : (binOp .eql 33 (.agg (bs z).toArray) (.agg (bs z).toArray)).run Try.prog w = .ok (.bool true) w := by
  rw [run_eql_struct, eq33 9997 z hz w]; rfl
end Go.Proofs.Ytjmeaebehndheaa
