/-
  For DiskEnds: the disk ahead of its copies; a list of true; what the crashes leave; a loaded disk beside others.
-/
import Derived.Test.YtjliibiohgcaeaaDs
import Derived.Test.YtjliibiohgcaeaaLoadB
import Derived.Test.YtjliibiohgcaeaaActB
import Derived.Test.YtjliibiohgcaeaaKeepsA
namespace Go.Proofs.Ytjliibiohgcaeaa
open Go.RowKit Go.RwLone

/-- The disk while acts are done to it. -/
structure DB (w : World) (B p S Z b : Nat) : Prop where
  ex : ∃ Bl x A F, AB w Bl p S Z b x A F ∧ (-1 ≤ x.fuse ∧ x.fuse ≤ 9223372036854775807) ∧ (∀ t, S ≤ t → F t = none) ∧ ∀ g, Bl g → B ≤ g

section
variable {w w' : World} {B p S Z b : Nat}
theorem DB.act (h : DB w B p S Z b) (hN : B ≤ w.heap.size) (hS : S ≤ 65536) (hz : Z ≤ 4096) (hz0 : 0 < Z) (hb : b < 4398046511104) (a : Ac) {kl : List Bool} (hk : KB w a.ka a.kn kl) (hka : ∀ g o, 0 < a.kn → a.ka = some ⟨g, o, none⟩ → g < B) (hnm : -9223372036854775808 ≤ a.nm ∧ a.nm ≤ 9223372036854775807) (hfl : 0 ≤ a.fill ∧ a.fill ≤ 255) (hls : -9223372036854775808 ≤ a.less ∧ a.less ≤ 9223372036854775807) :
    Calls Try.prog 25 #[.pointer (some ⟨p, 0, none⟩), .int .i64 Z, .agg a.cells.toArray] w fun e w' => e = .returned (.tuple #[]) ∧ Below B w w' ∧ DB w' B p S Z (b + 1) := by
  obtain ⟨Bl, x, A, F, ab, hf, hFS, hBl⟩ := h.ex
  refine (act_foot ab hf hS hz hz0 hb a hk (fun g o h0 e e2 => by have := hka g o h0 e; have := hBl g e2; omega) hnm hfl hls).mono ?_
  rintro e w9 ⟨rfl, po⟩
  obtain ⟨Bl', x', A', F', h1, h2, h3, h4⟩ := po.ex
  refine ⟨rfl, po.ch.below hN hBl, ⟨Bl', x', A', F', h2, h3, h4.2 hFS, fun g hg => ?_⟩⟩
  rcases h1 g hg with e | e
  · exact hBl g e
  · omega
theorem DB.write (h : AB w (fun g => g = p ∨ g = p - 2 ∨ g = p - 1) p S Z 0 ⟨0, -1, false, 0, 0, 0, 0⟩ (fun _ => []) (fun _ => none)) (hp : B + 2 ≤ p) (hN : B ≤ w.heap.size) {l : List Int} {ab : Option Addr} {cb : Nat} (hs : Src w (.slice ab Z cb) l) (hl : l.length = Z) (hz0 : 0 < Z) (hz : Z ≤ 4096) (hS1 : 0 < S) (hS : S ≤ 65536) (hsp : (Value.slice ab Z cb).ownBlock ≠ some p) :
    Calls Try.prog 19 #[.pointer (some ⟨p, 0, none⟩), .int .i64 0, .slice ab Z cb] w fun e w' => e = .returned (.int .i64 0) ∧ Below B w w' ∧ DB w' B p S Z 1 := by
  refine (AB.write h hs hl hz0 hz 0 hS1 hS (by omega) (by decide) (by decide) rfl hsp (pn := 0) rfl).mono ?_
  rintro e w9 ⟨rfl, ch, q, ab9⟩
  have hBl : ∀ g, (g = p ∨ g = p - 2 ∨ g = p - 1) → B ≤ g := fun g hg => by omega
  refine ⟨rfl, ch.below hN hBl, ⟨_, _, _, _, ab9, burnN_bd ⟨by decide, by decide⟩, fun _ _ => rfl, fun g hg => ?_⟩⟩
  rcases hg with e | e
  · exact hBl g e
  · omega
end

theorem Ds.one {w : World} {Bl : Nat → Prop} {B S z : Nat} {s : Sp} (h : AS w Bl S z s) (hBl : ∀ g, Bl g → B ≤ g) (hB : B ≤ w.heap.size) : Ds w B S z (fun i => if i = 0 then some s else none) (fun _ => False) := by
  classical
  refine ⟨⟨fun g => if Bl g then some 0 else none, fun i t hi => ?_, fun g i hg => ?_, fun _ h => h.elim⟩, hB⟩
  · by_cases e : i = 0
    · rw [if_pos e] at hi
      injection hi with hi
      subst hi
      refine AB.up h (fun g hg => by dsimp only; rw [if_pos hg, e]) (fun g hg => h.low g ?_)
      dsimp only at hg
      by_cases e2 : Bl g
      · exact e2
      · rw [if_neg e2] at hg
        cases hg
    · rw [if_neg e] at hi
      cases hi
  · dsimp only at hg
    split at hg
    · rename_i e
      exact ⟨hBl g e, h.low g e⟩
    · cases hg

theorem Ds.lens {w : World} {B S z : Nat} {d : Nat → Option Sp} {fr : Nat → Prop} (h : Ds w B S z d fr) {i : Nat} {s : Sp} (hi : d i = some s) : (∀ t y, y ∈ s.A t → y.2.length = z ∧ (y.1 : Int) < s.x.pend) ∧ (∀ t, ((s.F t).getD (zs z)).length = z) ∧ ∀ t, S ≤ t → s.A t = [] := by
  obtain ⟨Bl, a, _⟩ := h.step hi
  exact ⟨fun t y hy => ⟨(AB.lens a).1 t y hy, a.nb.lt t y hy⟩, (AB.lens a).2, AB.low' a⟩

theorem keptN_none (at_ : Int) (z n : Nat) : keptN [] (-1) at_ z n = 0 := by
  unfold keptN
  rw [if_neg (by omega)]
  rfl
theorem keptN_all {k n : Nat} (at_ : Int) (z : Nat) (h : k < n) : keptN (List.replicate n true) (-1) at_ z k = z := by
  unfold keptN
  rw [if_neg (by omega), if_pos]
  rw [List.getD_eq_getElem?_getD, List.getElem?_replicate, if_pos h]
  rfl

theorem info4 : (Try.prog.info? 4).map (fun i => (i.zero, i.size, i.bytes)) = some (some (.bool false), 1, 1) := by kernel_rfl
def fal (n : Nat) : List Value := List.replicate n (.bool false)
theorem made_fal (n : Nat) : madeCells (Value.bool false).cells (n * 1) = (fal n).toArray := by
  apply Array.ext_getElem?
  intro i
  simp [madeCells, fal, Value.cells]
  by_cases h : i < n <;> simp [h, Nat.mod_one]
theorem run_mk43 (n : Nat) (h : n ≤ 4398046511104) (w : World) : (Instr.makeSlice 43 (.int .i64 n) (.int .i64 n)).run Try.prog w = .ok (.slice (some ⟨w.heap.size, 0, none⟩) n n) (w.alloc (.cells (fal n).toArray 4)) := by
  obtain ⟨i0, hi, hz0, hz1, hz2⟩ := info_parts info4
  have := run_make (P := Try.prog) w 43 4 i0 (.bool false) Try.underlying43 hi hz0 .i64 .i64 n n (by omega) (Int.le_refl _) (by rw [hz2]; omega) (by omega)
  rw [this, hz1, Int.toNat_natCast, made_fal]

/-- The list of true while it is filled: the first i are. -/
structure Tr (w : World) (g n i : Nat) : Prop where
  ex : ∃ cs : Array Value, Rw w g cs 4 ∧ cs.size = n ∧ ∀ j, j < i → cs[j]? = some (.bool true)
theorem Tr.kb {w : World} {g n : Nat} (h : Tr w g n n) (hn : n ≤ 9223372036854775807) : KB w (some ⟨g, 0, none⟩) n (List.replicate n true) := by
  obtain ⟨cs, h1, h2, h3⟩ := h.ex
  refine ⟨by simp, fun i hi => ⟨g, 0, rfl, ?_⟩, hn⟩
  rw [Nat.zero_add, Rw.cell h1 i, h3 i hi, List.getD_eq_getElem?_getD, List.getElem?_replicate, if_pos hi]
  rfl
theorem Tr.set {w : World} {g n i : Nat} (h : Tr w g n i) (hi : i < n) : (∃ v, w.cell? ⟨g, i, none⟩ = some v) ∧ w.frozen? ⟨g, i, none⟩ = false ∧ Tr (w.setCell ⟨g, i, none⟩ (.bool true)) g n (i + 1) := by
  obtain ⟨cs, h1, h2, h3⟩ := h.ex
  refine ⟨⟨cs[i]'(by omega), by rw [Rw.cell h1 i]; exact Array.getElem?_eq_getElem (by omega)⟩, Rw.fr h1 i, ⟨_, Rw.set h1 i (.bool true), by simp [h2], fun j hj => ?_⟩⟩
  by_cases e : j = i
  · rw [e, Array.getElem?_setIfInBounds_self_of_lt (by omega)]
  · rw [Array.getElem?_setIfInBounds_ne (fun e2 => e e2.symm)]
    exact h3 j (by omega)
theorem Tr.made {w : World} (n : Nat) : Tr (w.alloc (.cells (fal n).toArray 4)) w.heap.size n 0 := ⟨_, ⟨heap_alloc_new _ _⟩, by simp [fal], fun j hj => by omega⟩

theorem LD.frame {w w' : World} {p m c S z : Nat} {rd : Int} {gs : Nat → Nat} {D : DataW Unit} {T : List Int} (h : LD w p m c rd S z gs D T) {q : Nat} (k : Chg (fun i => i = q) w w') (hp : p ≠ q) (hm : m ≠ q) (hc : c ≠ q) (hg : ∀ i, i < S → gs i ≠ q) : LD w' p m c rd S z gs D T :=
  ⟨Rw.chg1 h.row k hp, Mp.chg h.mp k hm, k.heap_some h.mc hc, fun i hi => Rw.chg1 (h.blk i hi) k (hg i hi), h.pm, h.pc⟩
end Go.Proofs.Ytjliibiohgcaeaa
