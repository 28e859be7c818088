/-
  One act on a disk, exactly.
-/
import Derived.Test.YtpongepfjdgcmaaFoot
namespace Go.Proofs.Ytpongepfjdgcmaa
open Go.RowKit Go.RwLone

/-- A disk's numbers, and what it holds. -/
structure St where
  x : Nums
  A : Nat → List (Nat × List Int)
  F : Nat → Option (List Int)

def readF (S : Nat) (i : Int) (s : St) : St := if (0 ≤ i ∧ i < S) ∧ s.x.off = false then ⟨{ s.x with rd := inc s.x.rd }, s.A, s.F⟩ else s
def writeF (S z : Nat) (i : Int) (n : Nat) (l : List Int) (s : St) : St :=
  if (0 ≤ i ∧ i < S) ∧ n = z then
    if s.x.off = true ∨ s.x.fuse = 0 then ⟨burnN s.x, s.A, s.F⟩
    else ⟨{ burnN s.x with pend := ((s.x.pend.toNat + 1 : Nat) : Int), wr := inc (burnN s.x).wr }, updT s.A i.toNat (s.A i.toNat ++ [(s.x.pend.toNat, l)]), s.F⟩
  else s
def flushF (s : St) : St := if s.x.off = true ∨ s.x.fuse = 0 then ⟨burnN s.x, s.A, s.F⟩ else ⟨{ burnN s.x with pend := 0, fl := inc (burnN s.x).fl }, fun _ => [], fun t => lastA (s.A t) (s.F t)⟩
def fuseF (n : Int) (s : St) : St := ⟨if s.x.off then s.x else { s.x with fuse := max n (-1) }, s.A, s.F⟩
def crashF (z : Nat) (kl : List Bool) (torn at_ : Int) (s : St) : St := ⟨{ s.x with pend := 0, fuse := -1, off := false, era := wrap64 (s.x.era + 1) }, fun _ => [], fun t => foldA z (keptN kl torn at_ z) (s.A t) (s.F t)⟩
def rotF (S z : Nat) (i at_ mask : Int) (s : St) : St :=
  if (0 ≤ i ∧ i < S) ∧ (0 ≤ at_ ∧ at_ < z) then ⟨s.x, updT s.A i.toNat ((s.A i.toNat).map fun y => (y.1, rotL at_.toNat mask y.2)), updT s.F i.toNat (some (rotL at_.toNat mask ((s.F i.toNat).getD (zs z))))⟩ else s
/-- How many bytes a written text has. -/
def wlen (z : Nat) (less : Int) : Nat := if 0 ≤ (z : Int) - less ∧ (z : Int) - less ≤ 8192 then ((z : Int) - less).toNat else 0
def actF (S z : Nat) (a : Ac) (kl : List Bool) (s : St) : St :=
  if a.kd = 1 then readF S a.nm s else if a.kd = 2 then writeF S z a.nm (wlen z a.less) (wrB a.fill z) s else if a.kd = 3 then flushF s else if a.kd = 4 then fuseF a.nm s else if a.kd = 6 then crashF z kl a.torn a.at_ s else if a.kd = 9 then rotF S z a.nm a.at_ a.mask s else s

/-- Behind an act. -/
structure PoE (w w' : World) (Bl : Nat → Prop) (p S z b : Nat) (s : St) : Prop where
  ch : Chg Bl w w'
  ex : ∃ Bl' : Nat → Prop, (∀ g, Bl' g → grB Bl w w' g) ∧ AB w' Bl' p S z (b + 1) s.x s.A s.F
  bd : -1 ≤ s.x.fuse ∧ s.x.fuse ≤ 9223372036854775807

section
variable {w w' : World} {Bl : Nat → Prop} {p S z b : Nat} {s : St}

theorem AB.low' {x : Nums} {A : Nat → List (Nat × List Int)} {F : Nat → Option (List Int)} (h : AB w Bl p S z b x A F) (t : Nat) (ht : S ≤ t) : A t = [] := by
  obtain ⟨m, c, kc, km, L, V, D, K, E, C, hd, hm, hc, hV, hK, hL, hA, hF⟩ := h.ex
  rw [← hA t]
  have : L t = [] := Classical.byContradiction fun e => by have := hd.dd.low t e; omega
  rw [this]
  rfl
theorem AB.pn {x : Nums} {A : Nat → List (Nat × List Int)} {F : Nat → Option (List Int)} (h : AB w Bl p S z b x A F) : ∃ pn : Nat, x.pend = pn := by
  obtain ⟨m, c, kc, km, L, V, D, K, E, C, hd, _⟩ := h.ex
  obtain ⟨n, hn, _⟩ := hd.dd.pn
  exact ⟨n, hn⟩
theorem AB.stay (h : AB w Bl p S z b s.x s.A s.F) (hf : -1 ≤ s.x.fuse ∧ s.x.fuse ≤ 9223372036854775807) : PoE w w Bl p S z b s :=
  ⟨Chg.refl _ _, ⟨Bl, fun _ h => .inl h, h.mono (Nat.le_succ b)⟩, hf⟩
theorem PoE.before {w0 : World} (h : PoE w0 w' Bl p S z b s) (k : Chg (fun _ => False) w w0) : PoE w w' Bl p S z b s := by
  obtain ⟨Bl', h1, h2⟩ := h.ex
  exact ⟨(k.mono (fun _ _ h => h.elim)).trans h.ch (fun _ h => .inl h), ⟨Bl', fun g hg => by
    rcases h1 g hg with e | ⟨e1, e2⟩
    · exact .inl e
    · exact .inr ⟨Nat.le_trans k.size e1, e2⟩, h2⟩, h.bd⟩

theorem AB.eRead (h : AB w Bl p S z b s.x s.A s.F) (hf : -1 ≤ s.x.fuse ∧ s.x.fuse ≤ 9223372036854775807) (hS : S ≤ 65536) (hz : z ≤ 4096) (hb : b < 4398046511104) (i : Int) :
    Calls Try.prog 12 #[.pointer (some ⟨p, 0, none⟩), .int .i64 i] w fun e w' => ∃ v, e = .returned v ∧ PoE w w' Bl p S z b (readF S i s) := by
  obtain ⟨m, c, kc, km, L, V, D, K, E, C, hd, q⟩ := h.ex
  unfold readF
  by_cases hi : 0 ≤ i ∧ i < S
  · obtain ⟨j, rfl⟩ : ∃ j : Nat, i = j := ⟨i.toNat, by omega⟩
    cases ho : s.x.off with
    | false =>
      rw [if_pos ⟨hi, rfl⟩]
      refine (h.read ho j (by omega) hS hz (by omega)).mono ?_
      rintro e w9 ⟨g, rfl, _, _, ch, h9⟩
      exact ⟨_, rfl, ch.mono (fun i _ e => by rw [e]; exact h.bp), ⟨Bl, fun _ h => .inl h, h9.mono (Nat.le_succ b)⟩, hf⟩
    | true =>
      rw [if_neg (fun e => by cases e.2)]
      refine (read_off hd.dd.row ho j (by omega) hS).mono ?_
      rintro e w9 ⟨rfl, hr, ch⟩
      exact ⟨_, rfl, ch.mono (fun i _ e => by rw [e]; exact h.bp), ⟨Bl, fun _ h => .inl h, ⟨⟨m, c, kc, km, L, V, D, K, E, C, hd.turn ch hr rfl (Nat.le_succ b), q⟩, h.bp, fun g hg => Nat.lt_of_lt_of_le (h.low g hg) ch.size, h.nb⟩⟩, hf⟩
  · rw [if_neg (fun e => hi e.1)]
    refine (read_sector hd.dd.row i hi).mono ?_
    rintro e w9 ⟨rfl, h9⟩
    subst h9
    exact ⟨_, rfl, h.stay hf⟩

theorem AB.eFlush (h : AB w Bl p S z b s.x s.A s.F) (hf : -1 ≤ s.x.fuse ∧ s.x.fuse ≤ 9223372036854775807) (hS : S ≤ 65536) (hb : b < 4398046511104) :
    Calls Try.prog 21 #[.pointer (some ⟨p, 0, none⟩)] w fun e w' => ∃ v, e = .returned v ∧ PoE w w' Bl p S z b (flushF s) := by
  obtain ⟨m, c, kc, km, L, V, D, K, E, C, hd, q⟩ := h.ex
  unfold flushF
  by_cases hx : s.x.off = true ∨ s.x.fuse = 0
  · rw [if_pos hx]
    obtain ⟨e1, e2⟩ := burn_no hx
    refine (hd.dd.flush_off hf.1 hf.2 e1).mono ?_
    rintro e w9 ⟨rfl, ch, h9⟩
    exact ⟨_, rfl, ch.mono (fun i _ e => by rw [e]; exact h.bp), ⟨Bl, fun _ h => .inl h, ⟨⟨m, c, kc, km, L, V, D, K, E, C, hd.turn ch h9.row (burnN_pend s.x) (Nat.le_succ b), q⟩, h.bp, fun g hg => Nat.lt_of_lt_of_le (h.low g hg) ch.size, h.nb.of_eq (burnN_pend s.x)⟩⟩, burnN_bd hf⟩
  · rw [if_neg hx]
    obtain ⟨e1, e2, e3⟩ := burn_yes hx
    refine (h.flush hS (by omega) hf.1 hf.2 e1).mono ?_
    rintro e w9 ⟨rfl, ch, h9⟩
    exact ⟨_, rfl, ch, ⟨_, fun _ h => h, h9.mono (Nat.le_succ b)⟩, burnN_bd hf⟩

theorem AB.eFuse (h : AB w Bl p S z b s.x s.A s.F) (hf : -1 ≤ s.x.fuse ∧ s.x.fuse ≤ 9223372036854775807) (n : Int) (hn1 : -9223372036854775808 ≤ n) (hn2 : n ≤ 9223372036854775807) :
    Calls Try.prog 23 #[.pointer (some ⟨p, 0, none⟩), .int .i64 n] w fun e w' => ∃ v, e = .returned v ∧ PoE w w' Bl p S z b (fuseF n s) := by
  obtain ⟨m, c, kc, km, L, V, D, K, E, C, hd, q⟩ := h.ex
  refine (fuse_any hd.dd.row n hn1 hn2).mono ?_
  rintro e w9 ⟨rfl, hr, ch⟩
  refine ⟨_, rfl, ch.mono (fun i _ e => by rw [e]; exact h.bp), ⟨Bl, fun _ h => .inl h, ⟨⟨m, c, kc, km, L, V, D, K, E, C, hd.turn ch hr ?_ (Nat.le_succ b), q⟩, h.bp, fun g hg => Nat.lt_of_lt_of_le (h.low g hg) ch.size, h.nb.of_eq ?_⟩⟩, ?_⟩
  · unfold fuseF
    dsimp only
    split <;> rfl
  · unfold fuseF
    dsimp only
    split <;> rfl
  · unfold fuseF
    dsimp only
    split
    · exact hf
    · simp only
      omega

theorem AB.eCrash (h : AB w Bl p S z b s.x s.A s.F) (hS : S ≤ 65536) (hz : z ≤ 4096) (hb : b < 4398046511104) {a : Option Addr} {n cN : Nat} {kl : List Bool} (hk : KB w a n kl) (hka : ∀ g o, 0 < n → a = some ⟨g, o, none⟩ → ¬ Bl g) (torn at_ : Int) :
    Calls Try.prog 22 #[.pointer (some ⟨p, 0, none⟩), .agg #[.slice a n cN, .int .i64 torn, .int .i64 at_]] w fun e w' => ∃ v, e = .returned v ∧ PoE w w' Bl p S z b (crashF z kl torn at_ s) := by
  refine (h.crash hS (by omega) hz hk hka torn at_).mono ?_
  rintro e w9 ⟨rfl, ch, h9⟩
  exact ⟨_, rfl, ch, ⟨_, fun _ h => h, h9.mono (Nat.le_succ b)⟩, ⟨by unfold crashF; simp, by unfold crashF; simp⟩⟩

theorem AB.eWrite (h : AB w Bl p S z b s.x s.A s.F) (hf : -1 ≤ s.x.fuse ∧ s.x.fuse ≤ 9223372036854775807) (hS : S ≤ 65536) (hz : z ≤ 4096) (hz0 : 0 < z) (hb : b < 4398046511104) (i : Int) {g n : Nat} {l : List Int} (hn : n ≤ 8192) (hs : n = z → Rw w g (bs l).toArray 5 ∧ l.length = z) (hg : g ≠ p) :
    Calls Try.prog 19 #[.pointer (some ⟨p, 0, none⟩), .int .i64 i, .slice (some ⟨g, 0, none⟩) n n] w fun e w' => ∃ v, e = .returned v ∧ PoE w w' Bl p S z b (writeF S z i n l s) := by
  obtain ⟨m, c, kc, km, L, V, D, K, E, C, hd, q⟩ := h.ex
  unfold writeF
  by_cases hi : (0 ≤ i ∧ i < S) ∧ n = z
  · rw [if_pos hi]
    obtain ⟨hi, rfl⟩ := hi
    obtain ⟨j, rfl⟩ : ∃ j : Nat, i = j := ⟨i.toNat, by omega⟩
    by_cases hx : s.x.off = true ∨ s.x.fuse = 0
    · rw [if_pos hx]
      obtain ⟨e1, e2⟩ := burn_no hx
      refine (hd.dd.write_off j (some ⟨g, 0, none⟩) n (by omega) hf.1 hf.2 e1).mono ?_
      rintro e w9 ⟨rfl, ch, h9⟩
      exact ⟨_, rfl, ch.mono (fun i _ e => by rw [e]; exact h.bp), ⟨Bl, fun _ h => .inl h, ⟨⟨m, c, kc, km, L, V, D, K, E, C, hd.turn ch h9.row (burnN_pend s.x) (Nat.le_succ b), q⟩, h.bp, fun g hg => Nat.lt_of_lt_of_le (h.low g hg) ch.size, h.nb.of_eq (burnN_pend s.x)⟩⟩, burnN_bd hf⟩
    · rw [if_neg hx]
      obtain ⟨e1, e2, e3⟩ := burn_yes hx
      obtain ⟨pn, hpn⟩ := h.pn
      obtain ⟨hr, hl⟩ := hs rfl
      refine (h.write (src_row hr hl) hl hz0 hz j (by omega) hS hb hf.1 hf.2 e1 (by simp [Value.ownBlock]; exact hg) hpn).mono ?_
      rintro e w9 ⟨rfl, ch, h9⟩
      rw [Int.toNat_natCast, hpn, Int.toNat_natCast]
      exact ⟨_, rfl, ch, ⟨_, fun _ h => h, h9⟩, burnN_bd hf⟩
  · rw [if_neg hi]
    refine (write_sector hd.dd.row i (some ⟨g, 0, none⟩) n n (by omega) (by omega)).mono ?_
    rintro e w9 ⟨rfl, h9⟩
    subst h9
    exact ⟨_, rfl, h.stay hf⟩

theorem AB.eRot (h : AB w Bl p S z b s.x s.A s.F) (hf : -1 ≤ s.x.fuse ∧ s.x.fuse ≤ 9223372036854775807) (hS : S ≤ 65536) (hz : z ≤ 4096) (hb : b < 4398046511104) (i at_ mask : Int) :
    Calls Try.prog 47 #[.pointer (some ⟨p, 0, none⟩), .int .i64 i, .int .i64 at_, .int .u8 mask] w fun e w' => ∃ v, e = .returned v ∧ PoE w w' Bl p S z b (rotF S z i at_ mask s) := by
  obtain ⟨m, c, kc, km, L, V, D, K, E, C, hd, hm, hc, hV, hK, hL, hA, hF⟩ := h.ex
  unfold rotF
  by_cases hi : (0 ≤ i ∧ i < S) ∧ (0 ≤ at_ ∧ at_ < z)
  · rw [if_pos hi]
    obtain ⟨hi, ha⟩ := hi
    obtain ⟨j, rfl⟩ : ∃ j : Nat, i = j := ⟨i.toNat, by omega⟩
    obtain ⟨q, rfl⟩ : ∃ q : Nat, at_ = q := ⟨at_.toNat, by omega⟩
    rw [Int.toNat_natCast, Int.toNat_natCast]
    refine (hd.rot hS (by omega) hz j (by omega) q (by omega) mask).mono ?_
    rintro e w9 ⟨rfl, ch, km', E', C', G', h9, hG, hl9, hk9, hls9, hG9⟩
    refine ⟨_, rfl, ch.mono (fun k _ e => ?_), ⟨grB Bl w w9, fun _ h => h, ⟨⟨m, c, kc, km', L, V, D, _, E', C', h9, .inl hm, .inl hc, fun t g hg => .inl (hV t g hg), fun t g hg => ?_, fun t y hy => .inl (hL t y hy), fun t => ?_, fun t => ?_⟩, .inl h.bp, fun g hg => ?_, ?_⟩⟩, hf⟩
    · rcases e with e | e | e | ⟨y, hy, e⟩
      · rw [e]; exact h.bp
      · rw [e]; exact hm
      · exact hK j k e
      · rw [← e]; exact hL j y hy
    · by_cases e : t = j
      · have hlt := (h9.kr t g hg).1.lt
        rw [e, updT_same] at hg
        injection hg with hg
        rcases hG with hG | hG
        · exact .inl (hK j g (by rw [← hg]; exact hG))
        · exact .inr ⟨by omega, hlt⟩
      · rw [updT_other _ _ e] at hg
        exact .inl (hK t g hg)
    · dsimp only
      by_cases e : t = j
      · rw [e, updT_same, ← hA j, List.map_map]
        exact List.map_congr_left (fun y hy => by rw [hls9 y hy]; rfl)
      · rw [updT_other _ _ e, ← hA t]
        exact List.map_congr_left (fun y hy => by rw [hl9 t e y hy])
    · dsimp only
      by_cases e : t = j
      · rw [e, updT_same, updT_same, ← hF j]
        show some (C' G') = _
        rw [hG9]
      · rw [updT_other _ _ e, updT_other _ _ e, ← hF t]
        cases hKt : K t with
        | none => rfl
        | some g => show some (C' g) = some (C g); rw [hk9 t e g hKt]
    · rcases hg with hg | hg
      · exact Nat.lt_of_lt_of_le (h.low g hg) ch.size
      · exact hg.2
    · refine h.nb.nums (fun t => ?_)
      dsimp only
      by_cases e : t = j
      · rw [e, updT_same, List.map_map]
        rfl
      · rw [updT_other _ _ e]
  · rw [if_neg hi]
    refine (rot_no hd.dd.row i at_ mask (by omega)).mono ?_
    rintro e w9 ⟨rfl, h9⟩
    subst h9
    exact ⟨_, rfl, h.stay hf⟩
end

set_option maxRecDepth 100000 in
set_option maxHeartbeats 4000000 in
theorem act_exact {w : World} {Bl : Nat → Prop} {p S z b : Nat} {s : St} (h : AB w Bl p S z b s.x s.A s.F) (hf : -1 ≤ s.x.fuse ∧ s.x.fuse ≤ 9223372036854775807) (hS : S ≤ 65536) (hz : z ≤ 4096) (hz0 : 0 < z) (hb : b < 4398046511104) (a : Ac) {kl : List Bool} (hk : KB w a.ka a.kn kl) (hka : ∀ g o, 0 < a.kn → a.ka = some ⟨g, o, none⟩ → ¬ Bl g) (hnm : -9223372036854775808 ≤ a.nm ∧ a.nm ≤ 9223372036854775807) (hfl : 0 ≤ a.fill ∧ a.fill ≤ 255) (hls : -9223372036854775808 ≤ a.less ∧ a.less ≤ 9223372036854775807) :
    Calls Try.prog 25 #[.pointer (some ⟨p, 0, none⟩), .int .i64 z, .agg a.cells.toArray] w fun e w' => e = .returned (.tuple #[]) ∧ PoE w w' Bl p S z b (actF S z a kl s) := by
  obtain ⟨on, kd, nm, fill, less, at_, mask, ka, kn, kc, torn⟩ := a
  simp only at hk hka hnm hfl hls
  obtain ⟨s', hs'⟩ : ∃ s', s' = actF S z ⟨on, kd, nm, fill, less, at_, mask, ka, kn, kc, torn⟩ kl s := ⟨_, rfl⟩
  rw [← hs']
  have HS : Hid _ := hs'
  clear hs'
  obtain ⟨w0, hw0⟩ : ∃ w0, w0 = w.alloc (.cells (Ac.cells ⟨on, kd, nm, fill, less, at_, mask, ka, kn, kc, torn⟩).toArray 45) := ⟨_, rfl⟩
  have k0 : Chg (fun _ => False) w w0 := by rw [hw0]; exact (Chg.refl _ _).alloc _
  have q0 : Rw w0 w.heap.size (Ac.cells ⟨on, kd, nm, fill, less, at_, mask, ka, kn, kc, torn⟩).toArray 45 := by rw [hw0]; exact ⟨heap_alloc_new _ _⟩
  have h0 : AB w0 Bl p S z b s.x s.A s.F := h.frame k0 (fun _ _ h => h)
  have d1 : w0.cell? ⟨w.heap.size, 1, none⟩ = some (.int .i64 kd) := Rw.cell q0 1
  have d2 : w0.cell? ⟨w.heap.size, 2, none⟩ = some (.int .i64 nm) := Rw.cell q0 2
  have d5 : w0.cell? ⟨w.heap.size, 5, none⟩ = some (.int .i64 at_) := Rw.cell q0 5
  have d6 : w0.cell? ⟨w.heap.size, 6, none⟩ = some (.int .u8 mask) := Rw.cell q0 6
  have d7 : w0.cell? ⟨w.heap.size, 7, none⟩ = some (.slice ka kn kc) := Rw.cell q0 7
  have d8 : w0.cell? ⟨w.heap.size, 8, none⟩ = some (.int .i64 torn) := Rw.cell q0 8
  have K0 : Hid _ := k0
  have Q0 : Hid _ := q0
  have HLOW : Hid (∀ g, Bl g → g < w.heap.size) := h.low
  have HW : Hid _ := hw0
  have H0 : Hid _ := h0
  have HK : Hid (KB w0 ka kn kl) := hk.chg k0 (fun _ _ _ _ h => h)
  have HKA : Hid _ := hka
  clear h k0 q0 hw0 h0 hk hka
  by_cases t1 : kd = 1
  · subst t1
    have CL : Hid _ := H0.out.eRead hf hS hz hb nm
    go_enter Try.func25, Try.ntmps25
    go_upto_region 1 with fail
    rw [← HW.out]
    go_wp2_with fail
    refine Calls.mono CL.out ?_
    rintro e w9 ⟨v, rfl, po⟩
    have PO : Hid _ := po.before K0.out
    clear po CL
    go_wp2_with fail
    go_end0
    exact ⟨rfl, by rw [HS.out]; exact PO.out⟩
  · by_cases t2 : kd = 2
    · subst t2
      have WR : Hid (∀ wq, Calls Try.prog 20 #[.int .i64 z, .agg (actC on 2 nm fill less at_ mask (.slice ka kn kc) torn).toArray] wq fun e w' => ∃ g n, e = .returned (.slice (some ⟨g, 0, none⟩) n n) ∧ n ≤ 8192 ∧ (n = z → Rw w' g (bs (wrB fill z)).toArray 5 ∧ (wrB fill z).length = z) ∧ wq.heap.size ≤ g ∧ Below wq.heap.size wq w' ∧ n = wlen z less) := fun wq => by
        by_cases hn : 0 ≤ (z : Int) - less ∧ (z : Int) - less ≤ 8192
        · obtain ⟨n, hn2⟩ : ∃ n : Nat, (z : Int) - less = n := ⟨((z : Int) - less).toNat, by omega⟩
          refine (written_fit (w := wq) (z : Int) on 2 nm fill less at_ mask (.slice ka kn kc) torn n hn2 (by omega) (by omega) (by omega) hfl).mono ?_
          rintro e w9 ⟨g, rfl, r9, hg, b9⟩
          refine ⟨g, n, rfl, by omega, fun e => ?_, hg, b9, by unfold wlen; rw [if_pos hn]; omega⟩
          subst e
          exact ⟨r9, wrB_len _ _⟩
        · refine (written_none (w := wq) (z : Int) on 2 nm fill less at_ mask (.slice ka kn kc) torn hn (by omega) (by omega) hls.1 hls.2).mono ?_
          rintro e w9 ⟨g, rfl, hg, b9⟩
          exact ⟨g, 0, rfl, by omega, fun e => by omega, hg, b9, by unfold wlen; rw [if_neg hn]⟩
      have WX : Hid (∀ w3 gw n, n ≤ 8192 → (n = z → Rw w3 gw (bs (wrB fill z)).toArray 5 ∧ (wrB fill z).length = z) → w0.drew.heap.size ≤ gw → Below w0.drew.heap.size w0.drew w3 → Calls Try.prog 19 #[.pointer (some ⟨p, 0, none⟩), .int .i64 nm, .slice (some ⟨gw, 0, none⟩) n n] w3 fun e w' => ∃ v, e = .returned v ∧ PoE w w' Bl p S z b (writeF S z nm n (wrB fill z) s) ∧ Rw w' w.heap.size (Ac.cells ⟨on, 2, nm, fill, less, at_, mask, ka, kn, kc, torn⟩).toArray 45) := fun w3 gw n hn r3 hg3 b3 => by
        have hc3 : Chg (fun _ => False) w0 w3 := ((Chg.refl (fun _ => False) w0).drew).trans (Chg.of_below b3 (fun _ => False)) (fun _ h => h.elim)
        refine ((H0.out.frame hc3 (fun _ _ h => h)).eWrite hf hS hz hz0 hb nm hn r3 (by have := H0.out.low p H0.out.bp; have h9 : w0.drew.heap.size = w0.heap.size := rfl; omega)).mono ?_
        rintro e w9 ⟨v, rfl, po⟩
        exact ⟨v, rfl, (po.before hc3).before K0.out, ⟨po.ch.heap_some (hc3.heap_some Q0.out.eq (fun h => h)) (fun e => by have := HLOW.out _ e; omega)⟩⟩
      obtain ⟨Q, hQ⟩ : ∃ Q, Q = w.heap.size := ⟨_, rfl⟩
      rw [← hQ] at Q0 d1 d2 d5 d6 d7 d8
      have HQ : Hid _ := hQ
      clear hQ
      go_enter Try.func25, Try.ntmps25
      go_upto_region 1 with fail
      rw [← HW.out, ← HQ.out]
      go_upto_region 5 with fail
      refine wp_region_held_drew (S := fun w' => Rw w' Q (Ac.cells ⟨on, 2, nm, fill, less, at_, mask, ka, kn, kc, torn⟩).toArray 45) (by kernel_rfl) ⟨Q0.out.eq⟩ (fun hH => ?_)
      refine wpAnyH_take (i := 0) (v := .pointer (some ⟨p, 0, none⟩)) rfl (by kernel_rfl) (by kernel_rfl) (by kernel_rfl) (fun _ _ _ h => h) (Or.inl ⟨by rfl, fun _ _ => by go_simp⟩) hH ?_
      refine wpAnyH_take (i := 1) (v := .pointer (some ⟨Q, 2, none⟩)) rfl (by kernel_rfl) (by kernel_rfl) (by kernel_rfl) (fun _ _ _ h => h) (Or.inl ⟨by rfl, fun _ _ => by go_simp⟩) hH ?_
      refine wpAnyH_take (i := 2) (v := .int .i64 nm) rfl (by kernel_rfl) (by kernel_rfl) (by kernel_rfl) (fun _ _ _ h => h) (Or.inl ⟨by rfl, fun w' hw' => by have q2 : w'.cell? ⟨Q, 2, none⟩ = some (.int .i64 nm) := Rw.cell hw' 2; go_simp⟩) hH ?_
      refine wpAnyH_take (i := 3) (v := .int .i64 z) rfl (by kernel_rfl) (by kernel_rfl) (by kernel_rfl) (fun _ _ _ h => h) (Or.inl ⟨by rfl, fun _ _ => by go_simp⟩) hH ?_
      refine wpAnyH_take (i := 4) (v := .agg (actC on 2 nm fill less at_ mask (.slice ka kn kc) torn).toArray) rfl (by kernel_rfl) (by kernel_rfl) (by kernel_rfl) (fun _ _ _ h => h) (Or.inl ⟨by rfl, fun w' hw' => by
        have q0 : w'.cell? ⟨Q, 0, none⟩ = some (.int .i64 on) := Rw.cell hw' 0
        have q1 : w'.cell? ⟨Q, 1, none⟩ = some (.int .i64 2) := Rw.cell hw' 1
        have q2 : w'.cell? ⟨Q, 2, none⟩ = some (.int .i64 nm) := Rw.cell hw' 2
        have q3 : w'.cell? ⟨Q, 3, none⟩ = some (.int .u8 fill) := Rw.cell hw' 3
        have q4 : w'.cell? ⟨Q, 4, none⟩ = some (.int .i64 less) := Rw.cell hw' 4
        have q5 : w'.cell? ⟨Q, 5, none⟩ = some (.int .i64 at_) := Rw.cell hw' 5
        have q6 : w'.cell? ⟨Q, 6, none⟩ = some (.int .u8 mask) := Rw.cell hw' 6
        have q7 : w'.cell? ⟨Q, 7, none⟩ = some (.slice ka kn kc) := Rw.cell hw' 7
        have q8 : w'.cell? ⟨Q, 8, none⟩ = some (.int .i64 torn) := Rw.cell hw' 8
        go_simp
        rfl⟩) hH ?_
      refine wpAnyH_ready (rs := [5]) (by kernel_rfl) (by simp) ?_
      refine AllReadyH.cons rfl (fun K hK => ?_) AllReadyH.nil
      go_simp
      refine Calls.mono (WR.out _) ?_
      rintro e w3 ⟨gw, n, rfl, hn, rw3, hg3, bel3, hnw⟩
      have HNW : Hid _ := hnw
      clear hnw
      have hq3 : Rw w3 Q (Ac.cells ⟨on, 2, nm, fill, less, at_, mask, ka, kn, kc, torn⟩).toArray 45 := ⟨(Chg.of_below bel3 (fun _ => False)).heap_some Q0.out.eq (fun h => h)⟩
      refine hK.out _ _ hq3 (fun h1 => ?_)
      clear hK K hH
      refine wpAnyH_ready (rs := [6]) (by kernel_rfl) (by simp) ?_
      refine AllReadyH.cons rfl (fun K hK => ?_) AllReadyH.nil
      go_simp
      refine Calls.mono (WX.out _ _ _ hn rw3 hg3 bel3) ?_
      rintro e w9 ⟨v, rfl, po, hq9⟩
      have PO : Hid _ := po
      rw [← HQ.out] at hq9
      refine hK.out _ _ hq9 (fun h2 => ?_)
      clear hK K h1 rw3 hg3 bel3 po h2 hq3 hq9
      refine wpAnyH_done (by kernel_rfl) ?_ _
      go_wp2_with fail
      go_end0
      refine ⟨rfl, ?_⟩
      have po9 := PO.out
      rw [HNW.out] at po9
      rw [HS.out]
      exact po9
    · by_cases t3 : kd = 3
      · subst t3
        have CL : Hid _ := H0.out.eFlush hf hS hb
        go_enter Try.func25, Try.ntmps25
        go_upto_region 1 with fail
        rw [← HW.out]
        go_wp2_with fail
        refine Calls.mono CL.out ?_
        rintro e w9 ⟨v, rfl, po⟩
        have PO : Hid _ := po.before K0.out
        clear po CL
        go_wp2_with fail
        go_end0
        exact ⟨rfl, by rw [HS.out]; exact PO.out⟩
      · by_cases t4 : kd = 4
        · subst t4
          have CL : Hid _ := H0.out.eFuse hf nm hnm.1 hnm.2
          go_enter Try.func25, Try.ntmps25
          go_upto_region 1 with fail
          rw [← HW.out]
          go_wp2_with fail
          refine Calls.mono CL.out ?_
          rintro e w9 ⟨v, rfl, po⟩
          have PO : Hid _ := po.before K0.out
          clear po CL
          go_wp2_with fail
          go_end0
          exact ⟨rfl, by rw [HS.out]; exact PO.out⟩
        · by_cases t6 : kd = 6
          · subst t6
            have CL : Hid _ := H0.out.eCrash hS hz hb (cN := kc) HK.out HKA.out torn at_
            go_enter Try.func25, Try.ntmps25
            go_upto_region 1 with fail
            rw [← HW.out]
            go_wp2_with fail
            refine Calls.mono CL.out ?_
            rintro e w9 ⟨v, rfl, po⟩
            have PO : Hid _ := po.before K0.out
            clear po CL
            go_wp2_with fail
            go_end0
            exact ⟨rfl, by rw [HS.out]; exact PO.out⟩
          · by_cases t9 : kd = 9
            · subst t9
              have CL : Hid _ := H0.out.eRot hf hS hz hb nm at_ mask
              go_enter Try.func25, Try.ntmps25
              go_upto_region 1 with fail
              rw [← HW.out]
              go_wp2_with fail
              refine Calls.mono CL.out ?_
              rintro e w9 ⟨v, rfl, po⟩
              have PO : Hid _ := po.before K0.out
              clear po CL
              go_wp2_with fail
              go_end0
              exact ⟨rfl, by rw [HS.out]; exact PO.out⟩
            · have PO : Hid (PoE w w0 Bl p S z b s) := (H0.out.stay hf).before K0.out
              have u1 : (kd == 1) = false := by simp [t1]
              have u2 : (kd == 2) = false := by simp [t2]
              have u3 : (kd == 3) = false := by simp [t3]
              have u4 : (kd == 4) = false := by simp [t4]
              have u6 : (kd == 6) = false := by simp [t6]
              have u9 : (kd == 9) = false := by simp [t9]
              go_enter Try.func25, Try.ntmps25
              go_upto_region 1 with fail
              rw [← HW.out]
              go_wp2_with fail
              go_end0
              exact ⟨rfl, by rw [HS.out]; unfold actF; rw [if_neg t1, if_neg t2, if_neg t3, if_neg t4, if_neg t6, if_neg t9]; exact PO.out⟩
end Go.Proofs.Ytpongepfjdgcmaa
