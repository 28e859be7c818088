/-
  The disk's calls once more: what they answer.
-/
import Derived.Test.YtddnecfnjnipjaaActE
namespace Go.Proofs.Ytddnecfnjnipjaa
open Go.RowKit Go.RwLone

def flushA (s : St) : Int := if s.x.off = true ∨ s.x.fuse = 0 then 32 else 0
def writeA (S z : Nat) (i : Int) (n : Nat) (s : St) : Int := if (0 ≤ i ∧ i < S) ∧ n = z then (if s.x.off = true ∨ s.x.fuse = 0 then 32 else 0) else 31
def rotA (S z : Nat) (i at_ : Int) : Int := if (0 ≤ i ∧ i < S) ∧ (0 ≤ at_ ∧ at_ < z) then 0 else 31
/-- What a Read answers. -/
def ReadA (w w' : World) (S z : Nat) (i : Int) (s : St) (v : Value) : Prop :=
  if 0 ≤ i ∧ i < S then (if s.x.off = true then v = .tuple #[.slice none 0 0, .int .i64 32] else ∃ g, v = .tuple #[.slice (some ⟨g, 0, none⟩) z z, .int .i64 0] ∧ Rw w' g (bs ((lastA (s.A i.toNat) (s.F i.toNat)).getD (zs z))).toArray 5 ∧ w.heap.size ≤ g)
  else v = .tuple #[.slice none 0 0, .int .i64 31]

section
variable {w w' : World} {Bl : Nat → Prop} {p S z b : Nat} {s : St}

theorem AB.aRead (h : AB w Bl p S z b s.x s.A s.F) (hf : -1 ≤ s.x.fuse ∧ s.x.fuse ≤ 9223372036854775807) (hS : S ≤ 65536) (hz : z ≤ 4096) (hb : b < 4398046511104) (i : Int) :
    Calls Try.prog 44 #[.pointer (some ⟨p, 0, none⟩), .int .i64 i] w fun e w' => ∃ v, e = .returned v ∧ ReadA w w' S z i s v ∧ PoE w w' Bl p S z b (readF S i s) := by
  obtain ⟨m, c, kc, km, L, V, D, K, E, C, hd, q⟩ := h.ex
  unfold readF ReadA
  by_cases hi : 0 ≤ i ∧ i < S
  · obtain ⟨j, rfl⟩ : ∃ j : Nat, i = j := ⟨i.toNat, by omega⟩
    cases ho : s.x.off with
    | false =>
      rw [if_pos ⟨hi, rfl⟩]
      refine (h.read ho j (by omega) hS hz (by omega)).mono ?_
      rintro e w9 ⟨g, rfl, hr, hg, ch, h9⟩
      exact ⟨_, rfl, by rw [if_pos hi, if_neg (by decide)]; exact ⟨g, rfl, hr, hg⟩, ch.mono (fun i _ e => by rw [e]; exact h.bp), ⟨Bl, fun _ h => .inl h, h9.mono (Nat.le_succ b)⟩, hf⟩
    | true =>
      rw [if_neg (fun e => by cases e.2)]
      refine (read_off hd.dd.row ho j (by omega) hS).mono ?_
      rintro e w9 ⟨rfl, hr, ch⟩
      exact ⟨_, rfl, by rw [if_pos hi, if_pos rfl], ch.mono (fun i _ e => by rw [e]; exact h.bp), ⟨Bl, fun _ h => .inl h, ⟨⟨m, c, kc, km, L, V, D, K, E, C, hd.turn ch hr rfl (Nat.le_succ b), q⟩, h.bp, fun g hg => Nat.lt_of_lt_of_le (h.low g hg) ch.size, h.nb⟩⟩, hf⟩
  · rw [if_neg (fun e => hi e.1)]
    refine (read_sector hd.dd.row i hi).mono ?_
    rintro e w9 ⟨rfl, h9⟩
    subst h9
    exact ⟨_, rfl, by rw [if_neg hi], h.stay hf⟩

theorem AB.aFlush (h : AB w Bl p S z b s.x s.A s.F) (hf : -1 ≤ s.x.fuse ∧ s.x.fuse ≤ 9223372036854775807) (hS : S ≤ 65536) (hb : b < 4398046511104) :
    Calls Try.prog 15 #[.pointer (some ⟨p, 0, none⟩)] w fun e w' => e = .returned (.int .i64 (flushA s)) ∧ PoE w w' Bl p S z b (flushF s) := by
  obtain ⟨m, c, kc, km, L, V, D, K, E, C, hd, q⟩ := h.ex
  unfold flushF flushA
  by_cases hx : s.x.off = true ∨ s.x.fuse = 0
  · rw [if_pos hx, if_pos hx]
    obtain ⟨e1, e2⟩ := burn_no hx
    refine (hd.dd.flush_off hf.1 hf.2 e1).mono ?_
    rintro e w9 ⟨rfl, ch, h9⟩
    exact ⟨rfl, ch.mono (fun i _ e => by rw [e]; exact h.bp), ⟨Bl, fun _ h => .inl h, ⟨⟨m, c, kc, km, L, V, D, K, E, C, hd.turn ch h9.row (burnN_pend s.x) (Nat.le_succ b), q⟩, h.bp, fun g hg => Nat.lt_of_lt_of_le (h.low g hg) ch.size, h.nb.of_eq (burnN_pend s.x)⟩⟩, burnN_bd hf⟩
  · rw [if_neg hx, if_neg hx]
    obtain ⟨e1, e2, e3⟩ := burn_yes hx
    refine (h.flush hS (by omega) hf.1 hf.2 e1).mono ?_
    rintro e w9 ⟨rfl, ch, h9⟩
    exact ⟨rfl, ch, ⟨_, fun _ h => h, h9.mono (Nat.le_succ b)⟩, burnN_bd hf⟩

theorem AB.aWrite (h : AB w Bl p S z b s.x s.A s.F) (hf : -1 ≤ s.x.fuse ∧ s.x.fuse ≤ 9223372036854775807) (hS : S ≤ 65536) (hz : z ≤ 4096) (hz0 : 0 < z) (hb : b < 4398046511104) (i : Int) {g n cp : Nat} {l : List Int} (hn : n ≤ 8192) (hs : n = z → Src w (.slice (some ⟨g, 0, none⟩) n cp) l ∧ l.length = z) (hg : g ≠ p) :
    Calls Try.prog 12 #[.pointer (some ⟨p, 0, none⟩), .int .i64 i, .slice (some ⟨g, 0, none⟩) n cp] w fun e w' => e = .returned (.int .i64 (writeA S z i n s)) ∧ PoE w w' Bl p S z b (writeF S z i n l s) := by
  obtain ⟨m, c, kc, km, L, V, D, K, E, C, hd, q⟩ := h.ex
  unfold writeF writeA
  by_cases hi : (0 ≤ i ∧ i < S) ∧ n = z
  · rw [if_pos hi, if_pos hi]
    obtain ⟨hi, rfl⟩ := hi
    obtain ⟨j, rfl⟩ : ∃ j : Nat, i = j := ⟨i.toNat, by omega⟩
    by_cases hx : s.x.off = true ∨ s.x.fuse = 0
    · rw [if_pos hx, if_pos hx]
      obtain ⟨e1, e2⟩ := burn_no hx
      refine (hd.dd.write_off j (some ⟨g, 0, none⟩) cp (by omega) hf.1 hf.2 e1).mono ?_
      rintro e w9 ⟨rfl, ch, h9⟩
      exact ⟨rfl, ch.mono (fun i _ e => by rw [e]; exact h.bp), ⟨Bl, fun _ h => .inl h, ⟨⟨m, c, kc, km, L, V, D, K, E, C, hd.turn ch h9.row (burnN_pend s.x) (Nat.le_succ b), q⟩, h.bp, fun g hg => Nat.lt_of_lt_of_le (h.low g hg) ch.size, h.nb.of_eq (burnN_pend s.x)⟩⟩, burnN_bd hf⟩
    · rw [if_neg hx, if_neg hx]
      obtain ⟨e1, e2, e3⟩ := burn_yes hx
      obtain ⟨pn, hpn⟩ := h.pn
      obtain ⟨hr, hl⟩ := hs rfl
      refine (h.write hr hl hz0 hz j (by omega) hS hb hf.1 hf.2 e1 (by simp [Value.ownBlock]; exact hg) hpn).mono ?_
      rintro e w9 ⟨rfl, ch, h9⟩
      rw [Int.toNat_natCast, hpn, Int.toNat_natCast]
      exact ⟨rfl, ch, ⟨_, fun _ h => h, h9⟩, burnN_bd hf⟩
  · rw [if_neg hi, if_neg hi]
    refine (write_sector hd.dd.row i (some ⟨g, 0, none⟩) n cp (by omega) (by omega)).mono ?_
    rintro e w9 ⟨rfl, h9⟩
    subst h9
    exact ⟨rfl, h.stay hf⟩

theorem AB.aRot (h : AB w Bl p S z b s.x s.A s.F) (hf : -1 ≤ s.x.fuse ∧ s.x.fuse ≤ 9223372036854775807) (hS : S ≤ 65536) (hz : z ≤ 4096) (hb : b < 4398046511104) (i at_ mask : Int) :
    Calls Try.prog 13 #[.pointer (some ⟨p, 0, none⟩), .int .i64 i, .int .i64 at_, .int .u8 mask] w fun e w' => e = .returned (.int .i64 (rotA S z i at_)) ∧ PoE w w' Bl p S z b (rotF S z i at_ mask s) := by
  obtain ⟨m, c, kc, km, L, V, D, K, E, C, hd, hm, hc, hV, hK, hL, hA, hF⟩ := h.ex
  unfold rotF rotA
  by_cases hi : (0 ≤ i ∧ i < S) ∧ (0 ≤ at_ ∧ at_ < z)
  · rw [if_pos hi, if_pos hi]
    obtain ⟨hi, ha⟩ := hi
    obtain ⟨j, rfl⟩ : ∃ j : Nat, i = j := ⟨i.toNat, by omega⟩
    obtain ⟨q, rfl⟩ : ∃ q : Nat, at_ = q := ⟨at_.toNat, by omega⟩
    rw [Int.toNat_natCast, Int.toNat_natCast]
    refine (hd.rot hS (by omega) hz j (by omega) q (by omega) mask).mono ?_
    rintro e w9 ⟨rfl, ch, km', E', C', G', h9, hG, hl9, hk9, hls9, hG9⟩
    refine ⟨rfl, ch.mono (fun k _ e => ?_), ⟨grB Bl w w9, fun _ h => h, ⟨⟨m, c, kc, km', L, V, D, _, E', C', h9, .inl hm, .inl hc, fun t g hg => .inl (hV t g hg), fun t g hg => ?_, fun t y hy => .inl (hL t y hy), fun t => ?_, fun t => ?_⟩, .inl h.bp, fun g hg => ?_, ?_⟩⟩, hf⟩
    · rcases e with e | e | e | ⟨y, hy, e⟩
      · rw [e]; exact h.bp
      · rw [e]; exact hm
      · exact hK j k e
      · rw [← e]; exact hL j y hy
    · by_cases e : t = j
      · have hlt := (h9.kr t g hg).1.lt
        rw [e, updT_same] at hg
        injection hg with hg
        rcases hG with hG | hG
        · exact .inl (hK j g (by rw [← hg]; exact hG))
        · exact .inr ⟨by omega, hlt⟩
      · rw [updT_other _ _ e] at hg
        exact .inl (hK t g hg)
    · dsimp only
      by_cases e : t = j
      · rw [e, updT_same, ← hA j, List.map_map]
        exact List.map_congr_left (fun y hy => by rw [hls9 y hy]; rfl)
      · rw [updT_other _ _ e, ← hA t]
        exact List.map_congr_left (fun y hy => by rw [hl9 t e y hy])
    · dsimp only
      by_cases e : t = j
      · rw [e, updT_same, updT_same, ← hF j]
        show some (C' G') = _
        rw [hG9]
      · rw [updT_other _ _ e, updT_other _ _ e, ← hF t]
        cases hKt : K t with
        | none => rfl
        | some g => show some (C' g) = some (C g); rw [hk9 t e g hKt]
    · rcases hg with hg | hg
      · exact Nat.lt_of_lt_of_le (h.low g hg) ch.size
      · exact hg.2
    · refine h.nb.nums (fun t => ?_)
      dsimp only
      by_cases e : t = j
      · rw [e, updT_same, List.map_map]
        rfl
      · rw [updT_other _ _ e]
  · rw [if_neg hi, if_neg hi]
    refine (rot_no hd.dd.row i at_ mask (by omega)).mono ?_
    rintro e w9 ⟨rfl, h9⟩
    subst h9
    exact ⟨rfl, h.stay hf⟩
end
end Go.Proofs.Ytddnecfnjnipjaa
