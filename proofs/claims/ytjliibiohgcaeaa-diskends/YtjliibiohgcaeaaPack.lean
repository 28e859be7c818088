/-
  A disk between two calls, as the laws see it: how far its fuse has burnt; all its blocks lie above those that came in.
-/
import Derived.Test.YtjliibiohgcaeaaCrash0
namespace Go.Proofs.Ytjliibiohgcaeaa
open Go.RowKit Go.RwLone

/-- A disk of S sectors of z bytes; b bounds what has grown; all its blocks are N or above. -/
structure FD (w : World) (N p S z b : Nat) (f : Int) (o : Bool) : Prop where
  ex : ∃ m c kc km x L V D K E, DD w p m c S z kc km b x L V D K E ∧ x.fuse = f ∧ x.off = o ∧ N ≤ m ∧ N ≤ c ∧ ∀ t g, (V t).ownBlock = some g → N ≤ g
  np : N ≤ p

/-- Whether burn refuses, and what it leaves. -/
def bnE (f : Int) (o : Bool) : Int := if o = true ∨ f = 0 then 32 else 0
def bnF (f : Int) (o : Bool) : Int := if o = true ∨ f = 0 then f else if f = -1 then -1 else f - 1
def bnO (f : Int) (o : Bool) : Bool := o || decide (f = 0)

theorem burn_no {x : Nums} (h : x.off = true ∨ x.fuse = 0) : burnE x = 32 ∧ burnN x = { x with off := true } := by
  unfold burnE burnN
  rw [if_pos h, if_pos h]
  exact ⟨rfl, rfl⟩
theorem burn_yes {x : Nums} (h : ¬ (x.off = true ∨ x.fuse = 0)) : burnE x = 0 ∧ (burnN x).off = x.off ∧ (burnN x).fuse = if x.fuse = -1 then -1 else x.fuse - 1 := by
  unfold burnE burnN
  rw [if_neg h, if_neg h]
  refine ⟨rfl, ?_⟩
  split
  · rename_i e
    exact ⟨rfl, e⟩
  · exact ⟨rfl, rfl⟩

section
variable {w w' : World} {N p S z b : Nat} {f : Int} {o : Bool}

theorem FD.lt (h : FD w N p S z b f o) : p < w.heap.size := by
  obtain ⟨m, c, kc, km, x, L, V, D, K, E, hd, _⟩ := h.ex
  exact hd.row.lt

/-- New memory alone. -/
theorem FD.more (h : FD w N p S z b f o) (k : Chg (fun _ => False) w w') : FD w' N p S z b f o := by
  obtain ⟨m, c, kc, km, x, L, V, D, K, E, hd, r⟩ := h.ex
  exact ⟨⟨m, c, kc, km, x, L, V, D, K, E, hd.more k, r⟩, h.np⟩

theorem FD.mono (h : FD w N p S z b f o) {b' : Nat} (hb : b ≤ b') : FD w N p S z b' f o := by
  obtain ⟨m, c, kc, km, x, L, V, D, K, E, hd, r⟩ := h.ex
  exact ⟨⟨m, c, kc, km, x, L, V, D, K, E, hd.turn (Chg.refl _ _) hd.row rfl hb, r⟩, h.np⟩

theorem FD.write (h : FD w N p S z b f o) (hN : N ≤ w.heap.size) {l : List Int} {ab : Option Addr} {cb : Nat} (hs : Src w (.slice ab z cb) l) (hl : l.length = z) (hz0 : 0 < z) (hz : z ≤ 4096) (s : Nat) (hsS : s < S) (hS : S ≤ 65536) (hb : b < 4398046511104) (hf : -1 ≤ f) (hf2 : f ≤ 9223372036854775807) (hsp : (Value.slice ab z cb).ownBlock ≠ some p) :
    Calls Try.prog 19 #[.pointer (some ⟨p, 0, none⟩), .int .i64 s, .slice ab z cb] w fun e w' => e = .returned (.int .i64 (bnE f o)) ∧ Below N w w' ∧ FD w' N p S z (b + 1) (bnF f o) (bnO f o) := by
  obtain ⟨m, c, kc, km, x, L, V, D, K, E, hd, rfl, rfl, hm, hc, hV⟩ := h.ex
  have hp := h.np
  unfold bnE bnF bnO
  by_cases hx : x.off = true ∨ x.fuse = 0
  · obtain ⟨e1, e2⟩ := burn_no hx
    rw [if_pos hx, if_pos hx]
    refine (hd.write_off s ab cb hsS hf hf2 e1).mono ?_
    rintro e w9 ⟨rfl, ch, h9⟩
    refine ⟨rfl, ch.below hN (fun k e => by omega), ⟨⟨m, c, kc, km, _, L, V, D, K, E, h9.turn (Chg.refl _ _) h9.row rfl (Nat.le_succ _), ?_, ?_, hm, hc, hV⟩, hp⟩⟩
    · rw [e2]
    · rw [e2]; rcases hx with hx | hx <;> simp [hx]
  · obtain ⟨e1, e2, e3⟩ := burn_yes hx
    rw [if_neg hx, if_neg hx]
    refine (hd.write_on hs hl hz0 hz s hsS hS hb hf hf2 e1 hsp).mono ?_
    rintro e w9 ⟨rfl, ch, n, q, kc', L', V', D', h9, hV'⟩
    refine ⟨rfl, ch.below hN (fun k e => ?_), ⟨⟨m, c, kc', km, _, L', V', D', K, E, h9, e3, ?_, hm, hc, fun t g hg => ?_⟩, hp⟩⟩
    · rcases e with e | e | e
      · omega
      · omega
      · exact hV s k e.symm
    · simp only [not_or, Bool.not_eq_true] at hx
      show (burnN x).off = _
      rw [e2, hx.1]; simp [hx.2]
    · rcases hV' t g hg with h1 | h1
      · exact hV t g h1
      · omega

theorem FD.flush (h : FD w N p S z b f o) (hN : N ≤ w.heap.size) (hS : S ≤ 65536) (hb : b ≤ 4398046511104) (hf : -1 ≤ f) (hf2 : f ≤ 9223372036854775807) :
    Calls Try.prog 21 #[.pointer (some ⟨p, 0, none⟩)] w fun e w' => e = .returned (.int .i64 (bnE f o)) ∧ Below N w w' ∧ FD w' N p S z b (bnF f o) (bnO f o) := by
  obtain ⟨m, c, kc, km, x, L, V, D, K, E, hd, rfl, rfl, hm, hc, hV⟩ := h.ex
  have hp := h.np
  unfold bnE bnF bnO
  by_cases hx : x.off = true ∨ x.fuse = 0
  · obtain ⟨e1, e2⟩ := burn_no hx
    rw [if_pos hx, if_pos hx]
    refine (hd.flush_off hf hf2 e1).mono ?_
    rintro e w9 ⟨rfl, ch, h9⟩
    refine ⟨rfl, ch.below hN (fun k e => by omega), ⟨⟨m, c, kc, km, _, L, V, D, K, E, h9, ?_, ?_, hm, hc, hV⟩, hp⟩⟩
    · rw [e2]
    · rw [e2]; rcases hx with hx | hx <;> simp [hx]
  · obtain ⟨e1, e2, e3⟩ := burn_yes hx
    rw [if_neg hx, if_neg hx]
    refine (hd.flush_on hS hb hf hf2 e1).mono ?_
    rintro e w9 ⟨rfl, ch, c', km', q, E', hc', h9⟩
    refine ⟨rfl, ch.below hN (fun k e => by omega), ⟨⟨m, c', 0, km', _, _, _, _, _, E', h9, e3, ?_, hm, by omega, fun t g hg => by simp [Value.ownBlock] at hg⟩, hp⟩⟩
    simp only [not_or, Bool.not_eq_true] at hx
    show (burnN x).off = _
    rw [e2, hx.1]; simp [hx.2]

theorem FD.off (h : FD w N p S z b f o) (hN : N ≤ w.heap.size) :
    Calls Try.prog 24 #[.pointer (some ⟨p, 0, none⟩)] w fun e w' => e = .returned (.bool o) ∧ Below N w w' ∧ FD w' N p S z b f o := by
  obtain ⟨m, c, kc, km, x, L, V, D, K, E, hd, rfl, rfl, r⟩ := h.ex
  have hp := h.np
  refine hd.off.mono ?_
  rintro e w9 ⟨rfl, ch, h9⟩
  exact ⟨rfl, ch.below hN (fun k e => by omega), ⟨⟨m, c, kc, km, x, L, V, D, K, E, h9, rfl, rfl, r⟩, hp⟩⟩

theorem FD.read_on (h : FD w N p S z b f false) (hN : N ≤ w.heap.size) (s : Nat) (hs : s < S) (hS : S ≤ 65536) (hz : z ≤ 4096) (hb : b ≤ 4398046511104) :
    Calls Try.prog 12 #[.pointer (some ⟨p, 0, none⟩), .int .i64 s] w fun e w' => ∃ g, e = .returned (.tuple #[.slice (some ⟨g, 0, none⟩) z z, .int .i64 0]) ∧ Below N w w' ∧ FD w' N p S z b f false := by
  obtain ⟨m, c, kc, km, x, L, V, D, K, E, hd, rfl, ho, r⟩ := h.ex
  have hp := h.np
  refine (hd.read_on ho s hs hS hz hb).mono ?_
  rintro e w9 ⟨g, rfl, ch, q, h9⟩
  exact ⟨g, rfl, ch.below hN (fun k e => by omega), ⟨⟨m, c, kc, km, _, L, V, D, K, E, h9, rfl, ho, r⟩, hp⟩⟩

theorem FD.read_off (h : FD w N p S z b f true) (hN : N ≤ w.heap.size) (s : Nat) (hs : s < S) (hS : S ≤ 65536) :
    Calls Try.prog 12 #[.pointer (some ⟨p, 0, none⟩), .int .i64 s] w fun e w' => e = .returned (.tuple #[.slice none 0 0, .int .i64 32]) ∧ Below N w w' ∧ FD w' N p S z b f true := by
  obtain ⟨m, c, kc, km, x, L, V, D, K, E, hd, rfl, ho, r⟩ := h.ex
  have hp := h.np
  refine (hd.read_off ho s hs hS).mono ?_
  rintro e w9 ⟨rfl, ch, h9⟩
  exact ⟨rfl, ch.below hN (fun k e => by omega), ⟨⟨m, c, kc, km, x, L, V, D, K, E, h9, rfl, ho, r⟩, hp⟩⟩

theorem FD.fuse (h : FD w N p S z b f false) (hN : N ≤ w.heap.size) (n : Int) (hn : -9223372036854775808 ≤ n) (hn2 : n ≤ 9223372036854775807) :
    Calls Try.prog 23 #[.pointer (some ⟨p, 0, none⟩), .int .i64 n] w fun e w' => e = .returned (.tuple #[]) ∧ Below N w w' ∧ FD w' N p S z b (max n (-1)) false := by
  obtain ⟨m, c, kc, km, x, L, V, D, K, E, hd, rfl, ho, r⟩ := h.ex
  have hp := h.np
  refine (hd.fuse ho n hn hn2).mono ?_
  rintro e w9 ⟨rfl, ch, h9⟩
  exact ⟨rfl, ch.below hN (fun k e => by omega), ⟨⟨m, c, kc, km, _, L, V, D, K, E, h9, rfl, ho, r⟩, hp⟩⟩

theorem FD.crash (h : FD w N p S z b f o) (hN : N ≤ w.heap.size) (hS : S ≤ 65536) (hb : b ≤ 4398046511104) (at_ : Int) :
    Calls Try.prog 22 #[.pointer (some ⟨p, 0, none⟩), .agg #[.slice none 0 0, .int .i64 (-1), .int .i64 at_]] w fun e w' => e = .returned (.tuple #[]) ∧ Below N w w' ∧ FD w' N p S z b (-1) false := by
  obtain ⟨m, c, kc, km, x, L, V, D, K, E, hd, _, _, hm, hc, hV⟩ := h.ex
  have hp := h.np
  refine (hd.crash_none hS hb at_).mono ?_
  rintro e w9 ⟨rfl, ch, c', era, hc', h9⟩
  exact ⟨rfl, ch.below hN (fun k e => by omega), ⟨⟨m, c', 0, km, _, _, _, _, K, E, h9, rfl, rfl, hm, by omega, fun t g hg => by simp [Value.ownBlock] at hg⟩, hp⟩⟩

theorem FD.made {m c : Nat} (h : DK w p S z m c 0 0) (hmc : m ≠ c) (hp : N ≤ p) (hm : N ≤ m) (hc : N ≤ c) : FD w N p S z 0 (-1) false :=
  ⟨⟨m, c, 0, 0, _, _, _, _, _, _, DD.made h hmc, rfl, rfl, hm, hc, fun t g hg => by simp [Value.ownBlock] at hg⟩, hp⟩
end
end Go.Proofs.Ytjliibiohgcaeaa
