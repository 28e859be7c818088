/-
  The last line of HeapSorts: Sort and Least against what came out of the heap.
-/
import Derived.Test.YtbfbjjfjeiihbaaRfQ
import Derived.Test.YtbfbjjfjeiihbaaHsC
namespace Go.Proofs.Ytbfbjjfjeiihbaa
open Go.RowKit

noncomputable def ops50 : Array Oper := (Try.f4.body.bind (regIn 50)).getD #[]

theorem want_of {o : Oper} {y : Nat → Option Bool} {j : Nat} {t : Bool} (hg : o.guard = some (j, t)) (hy : y j = some t) : Region.wanted o y = true := by
  unfold Region.wanted
  rw [hg]
  simp [hy]

theorem want_all {o : Oper} {y : Nat → Option Bool} (hg : o.guard = none) : Region.wanted o y = true := by
  unfold Region.wanted
  rw [hg]

def s50 (i : Nat) : Nat := if i = 26 then 4 else 218 + i

def c50 (lv ov ov2 : Value) (n kk : Nat) : List Value := [lv, undef, ov, .bool true, .bool true, lv, lv, .int .i64 n, .int .i64 kk, undef, ov, lv, .int .i64 n, .int .i64 kk, ov2, .bool true, .bool true, .bool true, lv, lv, .int .i64 n, .int .i64 ((n : Int) + 1), undef, ov, .bool true, .bool true, .bool true]

def V50 (D : List (Int × Int)) (lv ov ov2 : Value) (n kk : Nat) (i : Nat) (w : World) (v : Value) : Prop :=
  match i with
  | 1 => OwnT w v D
  | 9 => OwnT w v (D.take kk)
  | 22 => OwnT w v D
  | i => v = (c50 lv ov ov2 n kk).getD i undef

theorem V50.keep {D : List (Int × Int)} {lv ov ov2 : Value} {n kk i : Nat} {w w' : World} {v : Value} (h : V50 D lv ov ov2 n kk i w v) (k : Chg (fun _ => False) w w') : V50 D lv ov ov2 n kk i w' v := by
  unfold V50 at h ⊢
  split
  · exact OwnT.keep h k (fun _ _ h => h)
  · exact OwnT.keep h k (fun _ _ h => h)
  · exact OwnT.keep h k (fun _ _ h => h)
  · rename_i h1 h2 h3
    split at h
    · exact absurd rfl h1
    · exact absurd rfl h2
    · exact absurd rfl h3
    · exact h

def J50 (wr : World) (D : List (Int × Int)) (lv ov ov2 : Value) (n kk : Nat) : (Nat → Bool) → Act → World → Prop :=
  RJ 244 s50 27 [(6, lv), (16, ov)] (V50 D lv ov ov2 n kk) (Chg (fun _ => False) wr)

theorem s50_ne {i j : Nat} (hi : i < 27) (hj : j < 27) (h : j ≠ i) : s50 j ≠ s50 i := by
  unfold s50
  split <;> split <;> omega

theorem put50 {wr : World} {D : List (Int × Int)} {lv ov ov2 : Value} {n kk : Nat} {d : Nat → Bool} {T : Array Value} {df : List Deferred} {w w' : World} (h : J50 wr D lv ov ov2 n kk d ⟨T, df⟩ w) (i : Nat) {s : Nat} {v : Value} (hi : i < 27) (hs : s = s50 i) (hv : V50 D lv ov ov2 n kk i w' v) (k : Chg (fun _ => False) w w') :
    J50 wr D lv ov ov2 n kk (fun j => if j = i then true else d j) ⟨T.setIfInBounds s v, df⟩ w' :=
  RJ.put h i hs (by unfold s50; split <;> omega) (fun j hj h => s50_ne hi hj h) (fun x hx => by
    simp only [List.mem_cons, List.not_mem_nil, or_false] at hx
    unfold s50
    rcases hx with rfl | rfl <;> (split <;> simp; try omega)) hv (h.ch.trans k (fun _ h => h.elim)) (fun _ _ h => h.keep k)

/-- What the last line asks. -/
theorem ends {W wr : World} {p came : Nat} {v lv gv ov : Value} {L O D : List (Int × Int)} {G : List Bool} {Bs : List (Nat × Int × Int)} {H : List E} (h : HW W wr p v H came lv L gv G ov O Bs) (hO : O = D) (hD : D = (drF (odB false) L.length (pushF (odB false) L [] 0).1).1) (hl : L.length ≤ 1048576) :
    (∀ w', Chg (fun _ => False) wr w' → Calls Try.prog 20 #[lv, .func (.func 11) #[] #[]] w' fun e w'' => ∃ v, e = .returned v ∧ OwnT w'' v D ∧ Chg (fun _ => False) w' w'') ∧
    (∀ w' (n : Int) (kk : Nat), (kk : Int) = max (min n L.length) 0 → Chg (fun _ => False) wr w' → Calls Try.prog 21 #[lv, .int .i64 n, .func (.func 11) #[] #[]] w' fun e w'' => ∃ v, e = .returned v ∧ OwnT w'' v (D.take kk) ∧ Chg (fun _ => False) w' w'') ∧
    (∀ w' (va : Value), OwnT w' va D → Chg (fun _ => False) wr w' → Calls Try.prog 19 #[va, ov] w' fun e w'' => e = .returned (.bool true) ∧ Chg (fun _ => False) w' w'') ∧
    (∀ w' (va vb : Value) (kk : Nat), Ths wr vb (D.take kk) → OwnT w' va (D.take kk) → Chg (fun _ => False) wr w' → Calls Try.prog 19 #[va, vb] w' fun e w'' => e = .returned (.bool true) ∧ Chg (fun _ => False) w' w'') := by
  have hDl : D.length = L.length := by rw [hD, drF_len]
  refine ⟨fun w' k => ?_, fun w' n kk hk k => ?_, fun w' va o k => ?_, fun w' va vb kk t o k => ?_⟩
  · refine (sort_any (od_B false) (oneB_le false) (fB_form false) (h.li.ths.keep k (fun _ _ h => h)) (fun _ _ _ h => h) 0 hl trivial (by omega)).mono ?_
    rintro e w'' ⟨v, rfl, o, _, _, ch⟩
    exact ⟨v, rfl, by rw [hD]; exact o, ch⟩
  · refine (least_any (od_B false) (oneB_le false) (fB_plain false) (h.li.ths.keep k (fun _ _ h => h)) (fun _ _ _ h => h) n kk 0 hk hl trivial (by omega)).mono ?_
    rintro e w'' ⟨v, rfl, o, _, _, ch⟩
    refine ⟨v, rfl, ?_, ch⟩
    rw [least_is false L kk (by omega)] at o
    rw [hD]; exact o
  · refine (same_any o.ths ((hO ▸ h.oi).ths.keep k (fun _ _ h => h)) (by omega)).mono ?_
    rintro e w'' ⟨rfl, ch⟩
    exact ⟨rfl, ch⟩
  · refine (same_any o.ths (t.keep k (fun _ _ h => h)) (by rw [List.length_take]; omega)).mono ?_
    rintro e w'' ⟨rfl, ch⟩
    exact ⟨rfl, ch⟩

theorem own_take {w : World} {g n cap kk : Nat} {l : List (Int × Int)} (h : OwnT w (.slice (some ⟨g, 0, none⟩) n cap) l) (hk : kk ≤ l.length) : Ths w (.slice (some ⟨g, 0, none⟩) kk cap) (l.take kk) := by
  rcases Nat.eq_zero_or_pos l.length with h0 | h0
  · have e : kk = 0 := by omega
    subst e
    exact .inr (.inl ⟨⟨g, 0, none⟩, cap, rfl, rfl⟩)
  · obtain ⟨b, c, e, _, _, hc⟩ := h.at h0
    injection e with e1 _ e2
    injection e1 with e1
    injection e1 with e1 _ _
    subst e1 e2
    exact Ths.take0 hc kk hk

set_option maxRecDepth 100000 in
set_option maxHeartbeats 8000000 in
theorem reg50 {wr w0 : World} {D : List (Int × Int)} {la : Option Addr} {lc n kk : Nat} {ov ov2 : Value} {Q : Exit → Act → World → Prop} {a : Act} (hn : n ≤ 1048576) (hk : kk = n / 2) (hDn : D.length = n)
    (SO : ∀ w', Chg (fun _ => False) wr w' → Calls Try.prog 20 #[.slice la n lc, .func (.func 11) #[] #[]] w' fun e w'' => ∃ v, e = .returned v ∧ OwnT w'' v D ∧ Chg (fun _ => False) w' w'')
    (LE : ∀ w' (m : Int) (kk : Nat), (kk : Int) = max (min m n) 0 → Chg (fun _ => False) wr w' → Calls Try.prog 21 #[.slice la n lc, .int .i64 m, .func (.func 11) #[] #[]] w' fun e w'' => ∃ v, e = .returned v ∧ OwnT w'' v (D.take kk) ∧ Chg (fun _ => False) w' w'')
    (SM : ∀ w' (va : Value), OwnT w' va D → Chg (fun _ => False) wr w' → Calls Try.prog 19 #[va, ov] w' fun e w'' => e = .returned (.bool true) ∧ Chg (fun _ => False) w' w'')
    (SN : ∀ w' (va : Value), OwnT w' va (D.take kk) → Chg (fun _ => False) wr w' → Calls Try.prog 19 #[va, ov2] w' fun e w'' => e = .returned (.bool true) ∧ Chg (fun _ => False) w' w'')
    (hov : (ov = .slice none 0 0 ∧ ov2 = .slice none 0 0 ∧ kk = 0) ∨ ∃ og m oc : Nat, ov = .slice (some ⟨og, 0, none⟩) m oc ∧ ov2 = .slice (some ⟨og, 0, none⟩) kk oc ∧ kk ≤ oc)
    (sz : a.tmps.size = 244) (df : a.defers = []) (h6 : a.tmps.getD 6 undef = .slice la n lc) (h16 : a.tmps.getD 16 undef = ov) (hw : Chg (fun _ => False) wr w0)
    (hQ : ∀ b w', b.tmps.size = 244 → b.defers = [] → b.tmps.getD 4 undef = .bool true → Chg (fun _ => False) wr w' → Q .normal b w') : (Code.region 50 ops50 true).wp Try.prog Q a w0 := by
  have K5 : Hid ((n : Int) / 2 = (kk : Int)) := (by omega : (n : Int) / 2 = (kk : Int))
  have hkn : kk ≤ n := by omega
  have k7 : IntKind.i64.wrap (kk : Int) = (kk : Int) := by rw [IntKind.wrap_i64]; omega
  have k6 : IntKind.i64.wrap ((n : Int) + 1) = (n : Int) + 1 := by rw [IntKind.wrap_i64]; omega
  have TA : D.take n = D := List.take_of_length_le (by omega)
  obtain ⟨lv, hlv⟩ : ∃ lv, lv = Value.slice la n lc := ⟨_, rfl⟩
  rw [← hlv] at h6 SO LE
  have HLV : Hid _ := hlv
  clear hlv hk hDn
  refine region_plain (by kernel_rfl) (J50 wr D lv ov ov2 n kk) ?_ (after_of (by kernel_rfl)) ?_ ?_
  · refine ⟨sz, df, fun x hx => ?_, fun i _ (h : false = true) => (by cases h), hw.drew⟩
    simp only [List.mem_cons, List.not_mem_nil, or_false] at hx
    rcases hx with rfl | rfl
    · exact h6
    · exact h16
  · intro d b w h hall
    exact hQ b w h.sz h.df (h.val 26 (by decide) (hall 26 (by decide))) h.ch
  · rintro d ⟨T, df⟩ w i o hJ hdi ho hdeps K hK
    have hi : i < 27 := (Array.getElem?_eq_some_iff.1 ho).1
    have e6 : T.getD 6 undef = lv := hJ.fix (6, lv) (by simp)
    have e16 : T.getD 16 undef = ov := hJ.fix (16, ov) (by simp)
    clear hdi
    obtain rfl | rfl | rfl | rfl | rfl | rfl | rfl | rfl | rfl | rfl | rfl | rfl | rfl | rfl | rfl | rfl | rfl | rfl | rfl | rfl | rfl | rfl | rfl | rfl | rfl | rfl | rfl : i = 0 ∨ i = 1 ∨ i = 2 ∨ i = 3 ∨ i = 4 ∨ i = 5 ∨ i = 6 ∨ i = 7 ∨ i = 8 ∨ i = 9 ∨ i = 10 ∨ i = 11 ∨ i = 12 ∨ i = 13 ∨ i = 14 ∨ i = 15 ∨ i = 16 ∨ i = 17 ∨ i = 18 ∨ i = 19 ∨ i = 20 ∨ i = 21 ∨ i = 22 ∨ i = 23 ∨ i = 24 ∨ i = 25 ∨ i = 26 := by omega
    · obtain rfl : o = ⟨some 218, .move (.tmp 6), 28, "own.go:66", #[], none⟩ := (Option.some.inj ho).symm
      rw [if_pos (want_all rfl)]
      clear ho hdeps hi 
      go_simp
      exact hK _ _ (put50 hJ 0 (by decide) rfl rfl (Chg.refl _ _))
    · obtain rfl : o = ⟨some 219, .call ⟨.value (.func 20), #[.tmp 218, .func 11], #[28, 27]⟩, 28, "own.go:66", #[⟨0, .data⟩], none⟩ := (Option.some.inj ho).symm
      have c0 := hJ.val 0 (by decide) (hdeps ⟨0, .data⟩ (by simp) rfl)
      have e218 : T.getD 218 undef = lv := c0
      rw [if_pos (want_all rfl)]
      clear ho hdeps hi c0
      go_simp
      refine (SO _ hJ.ch).mono ?_
      rintro e w2 ⟨v, rfl, o2, k2⟩
      exact hK _ _ (put50 hJ 1 (by decide) rfl o2 k2)
    · obtain rfl : o = ⟨some 220, .move (.tmp 16), 28, "own.go:66", #[], none⟩ := (Option.some.inj ho).symm
      rw [if_pos (want_all rfl)]
      clear ho hdeps hi 
      go_simp
      exact hK _ _ (put50 hJ 2 (by decide) rfl rfl (Chg.refl _ _))
    · obtain rfl : o = ⟨some 221, .call ⟨.value (.func 19), #[.tmp 219, .tmp 220], #[28, 28]⟩, 4, "own.go:66", #[⟨1, .data⟩, ⟨2, .data⟩, ⟨1, .chain⟩], none⟩ := (Option.some.inj ho).symm
      have c1 := hJ.val 1 (by decide) (hdeps ⟨1, .data⟩ (by simp) rfl)
      obtain ⟨v1, hv1⟩ : ∃ v, T.getD 219 undef = v := ⟨_, rfl⟩
      have o1 : OwnT w v1 D := by rw [← hv1]; exact c1
      have c2 := hJ.val 2 (by decide) (hdeps ⟨2, .data⟩ (by simp) rfl)
      have e220 : T.getD 220 undef = ov := c2
      rw [if_pos (want_all rfl)]
      clear ho hdeps hi c1 c2
      go_simp
      refine (SM _ _ o1 hJ.ch).mono ?_
      rintro e w2 ⟨rfl, k2⟩
      exact hK _ _ (put50 hJ 3 (by decide) rfl rfl k2)
    · obtain rfl : o = ⟨some 222, .move (.tmp 221), 4, "own.go:66", #[⟨3, .data⟩, ⟨3, .chain⟩], none⟩ := (Option.some.inj ho).symm
      have c3 := hJ.val 3 (by decide) (hdeps ⟨3, .data⟩ (by simp) rfl)
      have e221 : T.getD 221 undef = .bool true := c3
      rw [if_pos (want_all rfl)]
      clear ho hdeps hi c3
      go_simp
      exact hK _ _ (put50 hJ 4 (by decide) rfl rfl (Chg.refl _ _))
    · obtain rfl : o = ⟨some 223, .move (.tmp 6), 28, "own.go:66", #[⟨4, .guard⟩], some (4, true)⟩ := (Option.some.inj ho).symm
      have c4 := hJ.val 4 (by decide) (hdeps ⟨4, .guard⟩ (by simp) rfl)
      have e222 : T.getD 222 undef = .bool true := c4
      rw [if_pos (want_of rfl (yield_of (s := 222) rfl (by rw [hJ.sz]; decide) e222))]
      clear ho hdeps hi c4
      go_simp
      exact hK _ _ (put50 hJ 5 (by decide) rfl rfl (Chg.refl _ _))
    · obtain rfl : o = ⟨some 224, .move (.tmp 6), 28, "own.go:66", #[⟨4, .guard⟩], some (4, true)⟩ := (Option.some.inj ho).symm
      have c4 := hJ.val 4 (by decide) (hdeps ⟨4, .guard⟩ (by simp) rfl)
      have e222 : T.getD 222 undef = .bool true := c4
      rw [if_pos (want_of rfl (yield_of (s := 222) rfl (by rw [hJ.sz]; decide) e222))]
      clear ho hdeps hi c4
      go_simp
      exact hK _ _ (put50 hJ 6 (by decide) rfl rfl (Chg.refl _ _))
    · obtain rfl : o = ⟨some 225, .call ⟨.builtin .len, #[.tmp 224], #[28]⟩, 3, "own.go:66", #[⟨6, .data⟩, ⟨4, .guard⟩], some (4, true)⟩ := (Option.some.inj ho).symm
      have c4 := hJ.val 4 (by decide) (hdeps ⟨4, .guard⟩ (by simp) rfl)
      have e222 : T.getD 222 undef = .bool true := c4
      have c6 := hJ.val 6 (by decide) (hdeps ⟨6, .data⟩ (by simp) rfl)
      have e224 : T.getD 224 undef = lv := c6
      rw [if_pos (want_of rfl (yield_of (s := 222) rfl (by rw [hJ.sz]; decide) e222))]
      clear ho hdeps hi c4 c6
      rw [HLV.out] at e224
      go_simp
      exact hK _ _ (put50 hJ 7 (by decide) rfl rfl (Chg.refl _ _))
    · obtain rfl : o = ⟨some 226, .binOp .quo 3 (.tmp 225) (.const (.int .i64 2)) 3, 3, "own.go:66", #[⟨7, .data⟩, ⟨4, .guard⟩], some (4, true)⟩ := (Option.some.inj ho).symm
      have c4 := hJ.val 4 (by decide) (hdeps ⟨4, .guard⟩ (by simp) rfl)
      have e222 : T.getD 222 undef = .bool true := c4
      have c7 := hJ.val 7 (by decide) (hdeps ⟨7, .data⟩ (by simp) rfl)
      have e225 : T.getD 225 undef = .int .i64 n := c7
      rw [if_pos (want_of rfl (yield_of (s := 222) rfl (by rw [hJ.sz]; decide) e222))]
      clear ho hdeps hi c4 c7
      go_simp
      rw [K5.out, k7]
      exact hK _ _ (put50 hJ 8 (by decide) rfl rfl (Chg.refl _ _))
    · obtain rfl : o = ⟨some 227, .call ⟨.value (.func 21), #[.tmp 223, .tmp 226, .func 11], #[28, 3, 27]⟩, 28, "own.go:66", #[⟨5, .data⟩, ⟨8, .data⟩, ⟨4, .chain⟩, ⟨4, .guard⟩], some (4, true)⟩ := (Option.some.inj ho).symm
      have c4 := hJ.val 4 (by decide) (hdeps ⟨4, .guard⟩ (by simp) rfl)
      have e222 : T.getD 222 undef = .bool true := c4
      have c5 := hJ.val 5 (by decide) (hdeps ⟨5, .data⟩ (by simp) rfl)
      have e223 : T.getD 223 undef = lv := c5
      have c8 := hJ.val 8 (by decide) (hdeps ⟨8, .data⟩ (by simp) rfl)
      have e226 : T.getD 226 undef = .int .i64 kk := c8
      rw [if_pos (want_of rfl (yield_of (s := 222) rfl (by rw [hJ.sz]; decide) e222))]
      clear ho hdeps hi c4 c5 c8
      go_simp
      refine (LE _ _ kk (by omega) hJ.ch).mono ?_
      rintro e w2 ⟨v, rfl, o2, k2⟩
      exact hK _ _ (put50 hJ 9 (by decide) rfl o2 k2)
    · obtain rfl : o = ⟨some 228, .move (.tmp 16), 28, "own.go:66", #[⟨4, .guard⟩], some (4, true)⟩ := (Option.some.inj ho).symm
      have c4 := hJ.val 4 (by decide) (hdeps ⟨4, .guard⟩ (by simp) rfl)
      have e222 : T.getD 222 undef = .bool true := c4
      rw [if_pos (want_of rfl (yield_of (s := 222) rfl (by rw [hJ.sz]; decide) e222))]
      clear ho hdeps hi c4
      go_simp
      exact hK _ _ (put50 hJ 10 (by decide) rfl rfl (Chg.refl _ _))
    · obtain rfl : o = ⟨some 229, .move (.tmp 6), 28, "own.go:66", #[⟨4, .guard⟩], some (4, true)⟩ := (Option.some.inj ho).symm
      have c4 := hJ.val 4 (by decide) (hdeps ⟨4, .guard⟩ (by simp) rfl)
      have e222 : T.getD 222 undef = .bool true := c4
      rw [if_pos (want_of rfl (yield_of (s := 222) rfl (by rw [hJ.sz]; decide) e222))]
      clear ho hdeps hi c4
      go_simp
      exact hK _ _ (put50 hJ 11 (by decide) rfl rfl (Chg.refl _ _))
    · obtain rfl : o = ⟨some 230, .call ⟨.builtin .len, #[.tmp 229], #[28]⟩, 3, "own.go:66", #[⟨11, .data⟩, ⟨4, .guard⟩], some (4, true)⟩ := (Option.some.inj ho).symm
      have c4 := hJ.val 4 (by decide) (hdeps ⟨4, .guard⟩ (by simp) rfl)
      have e222 : T.getD 222 undef = .bool true := c4
      have c11 := hJ.val 11 (by decide) (hdeps ⟨11, .data⟩ (by simp) rfl)
      have e229 : T.getD 229 undef = lv := c11
      rw [if_pos (want_of rfl (yield_of (s := 222) rfl (by rw [hJ.sz]; decide) e222))]
      clear ho hdeps hi c4 c11
      rw [HLV.out] at e229
      go_simp
      exact hK _ _ (put50 hJ 12 (by decide) rfl rfl (Chg.refl _ _))
    · obtain rfl : o = ⟨some 231, .binOp .quo 3 (.tmp 230) (.const (.int .i64 2)) 3, 3, "own.go:66", #[⟨12, .data⟩, ⟨4, .guard⟩], some (4, true)⟩ := (Option.some.inj ho).symm
      have c4 := hJ.val 4 (by decide) (hdeps ⟨4, .guard⟩ (by simp) rfl)
      have e222 : T.getD 222 undef = .bool true := c4
      have c12 := hJ.val 12 (by decide) (hdeps ⟨12, .data⟩ (by simp) rfl)
      have e230 : T.getD 230 undef = .int .i64 n := c12
      rw [if_pos (want_of rfl (yield_of (s := 222) rfl (by rw [hJ.sz]; decide) e222))]
      clear ho hdeps hi c4 c12
      go_simp
      rw [K5.out, k7]
      exact hK _ _ (put50 hJ 13 (by decide) rfl rfl (Chg.refl _ _))
    · obtain rfl : o = ⟨some 232, .slice 28 (.tmp 228) none (some (.tmp 231)) none, 28, "own.go:66", #[⟨10, .data⟩, ⟨13, .data⟩, ⟨4, .guard⟩], some (4, true)⟩ := (Option.some.inj ho).symm
      have c4 := hJ.val 4 (by decide) (hdeps ⟨4, .guard⟩ (by simp) rfl)
      have e222 : T.getD 222 undef = .bool true := c4
      have c10 := hJ.val 10 (by decide) (hdeps ⟨10, .data⟩ (by simp) rfl)
      have e228 : T.getD 228 undef = ov := c10
      have c13 := hJ.val 13 (by decide) (hdeps ⟨13, .data⟩ (by simp) rfl)
      have e231 : T.getD 231 undef = .int .i64 kk := c13
      rw [if_pos (want_of rfl (yield_of (s := 222) rfl (by rw [hJ.sz]; decide) e222))]
      clear ho hdeps hi c4 c10 c13
      rcases hov with ⟨rfl, rfl, h0⟩ | ⟨og, m, oc, rfl, rfl, hko⟩
      · rw [h0] at e231; go_simp; exact hK _ _ (put50 hJ 14 (by decide) rfl rfl (Chg.refl _ _))
      · have hko2 : (kk : Int) ≤ (oc : Int) := by omega
        go_simp; exact hK _ _ (put50 hJ 14 (by decide) rfl rfl (Chg.refl _ _))
    · obtain rfl : o = ⟨some 233, .call ⟨.value (.func 19), #[.tmp 227, .tmp 232], #[28, 28]⟩, 4, "own.go:66", #[⟨9, .data⟩, ⟨14, .data⟩, ⟨9, .chain⟩, ⟨4, .guard⟩], some (4, true)⟩ := (Option.some.inj ho).symm
      have c4 := hJ.val 4 (by decide) (hdeps ⟨4, .guard⟩ (by simp) rfl)
      have e222 : T.getD 222 undef = .bool true := c4
      have c9 := hJ.val 9 (by decide) (hdeps ⟨9, .data⟩ (by simp) rfl)
      obtain ⟨v9, hv9⟩ : ∃ v, T.getD 227 undef = v := ⟨_, rfl⟩
      have o9 : OwnT w v9 (D.take kk) := by rw [← hv9]; exact c9
      have c14 := hJ.val 14 (by decide) (hdeps ⟨14, .data⟩ (by simp) rfl)
      have e232 : T.getD 232 undef = ov2 := c14
      rw [if_pos (want_of rfl (yield_of (s := 222) rfl (by rw [hJ.sz]; decide) e222))]
      clear ho hdeps hi c4 c9 c14
      go_simp
      refine (SN _ _ o9 hJ.ch).mono ?_
      rintro e w2 ⟨rfl, k2⟩
      exact hK _ _ (put50 hJ 15 (by decide) rfl rfl k2)
    · obtain rfl : o = ⟨some 234, .pick (.tmp 222) (.tmp 233) (.const (.bool false)), 4, "own.go:66", #[⟨4, .data⟩, ⟨15, .data⟩], none⟩ := (Option.some.inj ho).symm
      have c4 := hJ.val 4 (by decide) (hdeps ⟨4, .data⟩ (by simp) rfl)
      have e222 : T.getD 222 undef = .bool true := c4
      have c15 := hJ.val 15 (by decide) (hdeps ⟨15, .data⟩ (by simp) rfl)
      have e233 : T.getD 233 undef = .bool true := c15
      rw [if_pos (want_all rfl)]
      clear ho hdeps hi c4 c15
      go_simp
      exact hK _ _ (put50 hJ 16 (by decide) rfl rfl (Chg.refl _ _))
    · obtain rfl : o = ⟨some 235, .move (.tmp 234), 4, "own.go:66", #[⟨16, .data⟩, ⟨15, .chain⟩], none⟩ := (Option.some.inj ho).symm
      have c16 := hJ.val 16 (by decide) (hdeps ⟨16, .data⟩ (by simp) rfl)
      have e234 : T.getD 234 undef = .bool true := c16
      rw [if_pos (want_all rfl)]
      clear ho hdeps hi c16
      go_simp
      exact hK _ _ (put50 hJ 17 (by decide) rfl rfl (Chg.refl _ _))
    · obtain rfl : o = ⟨some 236, .move (.tmp 6), 28, "own.go:66", #[⟨17, .guard⟩], some (17, true)⟩ := (Option.some.inj ho).symm
      have c17 := hJ.val 17 (by decide) (hdeps ⟨17, .guard⟩ (by simp) rfl)
      have e235 : T.getD 235 undef = .bool true := c17
      rw [if_pos (want_of rfl (yield_of (s := 235) rfl (by rw [hJ.sz]; decide) e235))]
      clear ho hdeps hi c17
      go_simp
      exact hK _ _ (put50 hJ 18 (by decide) rfl rfl (Chg.refl _ _))
    · obtain rfl : o = ⟨some 237, .move (.tmp 6), 28, "own.go:66", #[⟨17, .guard⟩], some (17, true)⟩ := (Option.some.inj ho).symm
      have c17 := hJ.val 17 (by decide) (hdeps ⟨17, .guard⟩ (by simp) rfl)
      have e235 : T.getD 235 undef = .bool true := c17
      rw [if_pos (want_of rfl (yield_of (s := 235) rfl (by rw [hJ.sz]; decide) e235))]
      clear ho hdeps hi c17
      go_simp
      exact hK _ _ (put50 hJ 19 (by decide) rfl rfl (Chg.refl _ _))
    · obtain rfl : o = ⟨some 238, .call ⟨.builtin .len, #[.tmp 237], #[28]⟩, 3, "own.go:66", #[⟨19, .data⟩, ⟨17, .guard⟩], some (17, true)⟩ := (Option.some.inj ho).symm
      have c17 := hJ.val 17 (by decide) (hdeps ⟨17, .guard⟩ (by simp) rfl)
      have e235 : T.getD 235 undef = .bool true := c17
      have c19 := hJ.val 19 (by decide) (hdeps ⟨19, .data⟩ (by simp) rfl)
      have e237 : T.getD 237 undef = lv := c19
      rw [if_pos (want_of rfl (yield_of (s := 235) rfl (by rw [hJ.sz]; decide) e235))]
      clear ho hdeps hi c17 c19
      rw [HLV.out] at e237
      go_simp
      exact hK _ _ (put50 hJ 20 (by decide) rfl rfl (Chg.refl _ _))
    · obtain rfl : o = ⟨some 239, .binOp .add 3 (.tmp 238) (.const (.int .i64 1)) 3, 3, "own.go:66", #[⟨20, .data⟩, ⟨17, .guard⟩], some (17, true)⟩ := (Option.some.inj ho).symm
      have c17 := hJ.val 17 (by decide) (hdeps ⟨17, .guard⟩ (by simp) rfl)
      have e235 : T.getD 235 undef = .bool true := c17
      have c20 := hJ.val 20 (by decide) (hdeps ⟨20, .data⟩ (by simp) rfl)
      have e238 : T.getD 238 undef = .int .i64 n := c20
      rw [if_pos (want_of rfl (yield_of (s := 235) rfl (by rw [hJ.sz]; decide) e235))]
      clear ho hdeps hi c17 c20
      go_simp
      try rw [k6]
      exact hK _ _ (put50 hJ 21 (by decide) rfl rfl (Chg.refl _ _))
    · obtain rfl : o = ⟨some 240, .call ⟨.value (.func 21), #[.tmp 236, .tmp 239, .func 11], #[28, 3, 27]⟩, 28, "own.go:66", #[⟨18, .data⟩, ⟨21, .data⟩, ⟨17, .chain⟩, ⟨17, .guard⟩], some (17, true)⟩ := (Option.some.inj ho).symm
      have c17 := hJ.val 17 (by decide) (hdeps ⟨17, .guard⟩ (by simp) rfl)
      have e235 : T.getD 235 undef = .bool true := c17
      have c18 := hJ.val 18 (by decide) (hdeps ⟨18, .data⟩ (by simp) rfl)
      have e236 : T.getD 236 undef = lv := c18
      have c21 := hJ.val 21 (by decide) (hdeps ⟨21, .data⟩ (by simp) rfl)
      have e239 : T.getD 239 undef = .int .i64 ((n : Int) + 1) := c21
      rw [if_pos (want_of rfl (yield_of (s := 235) rfl (by rw [hJ.sz]; decide) e235))]
      clear ho hdeps hi c17 c18 c21
      go_simp
      refine (LE _ _ n (by omega) hJ.ch).mono ?_
      rintro e w2 ⟨v, rfl, o2, k2⟩
      rw [TA] at o2
      exact hK _ _ (put50 hJ 22 (by decide) rfl o2 k2)
    · obtain rfl : o = ⟨some 241, .move (.tmp 16), 28, "own.go:66", #[⟨17, .guard⟩], some (17, true)⟩ := (Option.some.inj ho).symm
      have c17 := hJ.val 17 (by decide) (hdeps ⟨17, .guard⟩ (by simp) rfl)
      have e235 : T.getD 235 undef = .bool true := c17
      rw [if_pos (want_of rfl (yield_of (s := 235) rfl (by rw [hJ.sz]; decide) e235))]
      clear ho hdeps hi c17
      go_simp
      exact hK _ _ (put50 hJ 23 (by decide) rfl rfl (Chg.refl _ _))
    · obtain rfl : o = ⟨some 242, .call ⟨.value (.func 19), #[.tmp 240, .tmp 241], #[28, 28]⟩, 4, "own.go:66", #[⟨22, .data⟩, ⟨23, .data⟩, ⟨22, .chain⟩, ⟨17, .guard⟩], some (17, true)⟩ := (Option.some.inj ho).symm
      have c17 := hJ.val 17 (by decide) (hdeps ⟨17, .guard⟩ (by simp) rfl)
      have e235 : T.getD 235 undef = .bool true := c17
      have c22 := hJ.val 22 (by decide) (hdeps ⟨22, .data⟩ (by simp) rfl)
      obtain ⟨v22, hv22⟩ : ∃ v, T.getD 240 undef = v := ⟨_, rfl⟩
      have o22 : OwnT w v22 D := by rw [← hv22]; exact c22
      have c23 := hJ.val 23 (by decide) (hdeps ⟨23, .data⟩ (by simp) rfl)
      have e241 : T.getD 241 undef = ov := c23
      rw [if_pos (want_of rfl (yield_of (s := 235) rfl (by rw [hJ.sz]; decide) e235))]
      clear ho hdeps hi c17 c22 c23
      go_simp
      refine (SM _ _ o22 hJ.ch).mono ?_
      rintro e w2 ⟨rfl, k2⟩
      exact hK _ _ (put50 hJ 24 (by decide) rfl rfl k2)
    · obtain rfl : o = ⟨some 243, .pick (.tmp 235) (.tmp 242) (.const (.bool false)), 4, "own.go:66", #[⟨17, .data⟩, ⟨24, .data⟩], none⟩ := (Option.some.inj ho).symm
      have c17 := hJ.val 17 (by decide) (hdeps ⟨17, .data⟩ (by simp) rfl)
      have e235 : T.getD 235 undef = .bool true := c17
      have c24 := hJ.val 24 (by decide) (hdeps ⟨24, .data⟩ (by simp) rfl)
      have e242 : T.getD 242 undef = .bool true := c24
      rw [if_pos (want_all rfl)]
      clear ho hdeps hi c17 c24
      go_simp
      exact hK _ _ (put50 hJ 25 (by decide) rfl rfl (Chg.refl _ _))
    · obtain rfl : o = ⟨some 4, .assign (.tmp 243), 4, "own.go:66", #[⟨25, .data⟩, ⟨24, .chain⟩, ⟨0, .phase⟩, ⟨1, .phase⟩, ⟨2, .phase⟩, ⟨3, .phase⟩, ⟨4, .phase⟩, ⟨5, .phase⟩, ⟨6, .phase⟩, ⟨7, .phase⟩, ⟨8, .phase⟩, ⟨9, .phase⟩, ⟨10, .phase⟩, ⟨11, .phase⟩, ⟨12, .phase⟩, ⟨13, .phase⟩, ⟨14, .phase⟩, ⟨15, .phase⟩, ⟨16, .phase⟩, ⟨17, .phase⟩, ⟨18, .phase⟩, ⟨19, .phase⟩, ⟨20, .phase⟩, ⟨21, .phase⟩, ⟨22, .phase⟩, ⟨23, .phase⟩, ⟨24, .phase⟩, ⟨25, .phase⟩], none⟩ := (Option.some.inj ho).symm
      have c25 := hJ.val 25 (by decide) (hdeps ⟨25, .data⟩ (by simp) rfl)
      have e243 : T.getD 243 undef = .bool true := c25
      rw [if_pos (want_all rfl)]
      clear ho hdeps hi c25
      go_simp
      exact hK _ _ (put50 hJ 26 (by decide) rfl rfl (Chg.refl _ _))

end Go.Proofs.Ytbfbjjfjeiihbaa
