/-
  The texts of package node: begun, key.
-/
import Derived.Test.YtoilnommhkmioaaDoorStruct
import Derived.Deep.Cut
namespace Go.Proofs.YtoilnommhkmioaaDoor
open Go.RowKit

/-- The table of first bytes. -/
def Tags (w : World) : Prop := ∀ (i : Nat) (x : Int), [17, 18, 19, 20, 23][i]? = some x → w.cell? ⟨0, i, none⟩ = some (.int .u8 x)
theorem Tags.keep {w w' : World} (h : Tags w) (b : Below w.heap.size w w') : Tags w' := fun i x hx => by
  have := h i x hx
  rw [b.cell (World.block_lt_of_cell? _ _ this)]; exact this

/-- A text under way since w, by a writer in block p. -/
def TX (w w' : World) (p : Nat) (l : List Int) : Prop :=
  ∃ cs v, WS w' p 0 cs 49 v l ∧ Below w.heap.size w w' ∧ w.heap.size ≤ p ∧ ∀ g, v.ownBlock = some g → w.heap.size ≤ g

section
variable {w w1 w2 : World} {p : Nat} {l l' : List Int}
theorem TX.go {f : FuncId} {args : Array Value} (h : TX w w1 p l) (hc : ∀ cs v, WS w1 p 0 cs 49 v l → Calls Tryd.prog f args w1 fun e w2 => e = .returned (.tuple #[]) ∧ PW w1 w2 p 0 cs 49 v l') :
    Calls Tryd.prog f args w1 fun e w2 => e = .returned (.tuple #[]) ∧ TX w w2 p l' := by
  obtain ⟨cs, v, s, b, hp, hv⟩ := h
  refine (hc cs v s).mono fun e w2 ⟨he, v2, s2, c2, a2⟩ => ⟨he, _, v2, s2, ?_, hp, fun g hg => ?_⟩
  · exact ((Chg.of_below b (fun _ => False)).trans c2 (fun i e => .inr (by rcases e with e | e; (rw [e]; exact hp); (exact hv i e.symm)))).below (Nat.le_refl _) (fun _ h => h.elim)
  · rcases a2 with e | ⟨g', e, hg'⟩
    · exact hv g (by rw [← e]; exact hg)
    · rw [hg] at e; injection e with e; have := b.size; omega
theorem TX.drew (h : TX w w1 p l) : TX w w1.drew p l := by
  obtain ⟨cs, v, s, b, hp, hv⟩ := h
  exact ⟨cs, v, ⟨s.blk, s.at_, s.own, s.ne⟩, ⟨b.os, b.tape, b.output, b.size, b.block⟩, hp, hv⟩
theorem TX.below (h : TX w w1 p l) : Below w.heap.size w w1 := by
  obtain ⟨cs, v, s, b, hp, hv⟩ := h
  exact b
theorem TX.src (h : TX w w1 p l) {s : Value} {m : List Int} (hs : Src w s m) : Src w1 s m := hs.kept0 h.below
theorem TX.outer {w0 : World} (h : TX w w1 p l) (b0 : Below w0.heap.size w0 w) : TX w0 w1 p l := by
  obtain ⟨cs, v, s, b, hp, hv⟩ := h
  have hs := b0.size
  exact ⟨cs, v, s, b0.trans (b.mono hs), by omega, fun g hg => by have := hv g hg; omega⟩
theorem TX.bytes (h : TX w w1 p l) (hl : l.length ≤ 140737488355328) : Calls Tryd.prog 21 #[.pointer (some ⟨p, 0, none⟩)] w1 fun e w2 => ∃ u, e = .returned u ∧ Made w w2 u l := by
  obtain ⟨cs, v, s, b, hp, hv⟩ := h
  refine (wBytes_any s hl).mono fun e w2 ⟨u, he, o, bl, hu⟩ => ⟨u, he, o, b.trans (bl.mono b.size), fun k hk => ?_⟩
  have := hu k hk
  have := b.size
  omega
end

set_option maxRecDepth 100000 in
set_option maxHeartbeats 1000000 in
theorem begun_any {w : World} (hT : Tags w) (k : Nat) (x : Int) (hk : [17, 18, 19, 20, 23][k]? = some x) (hk5 : (k : Int) < 5) :
    Calls Tryd.prog 18 #[.int .i64 k] w fun e w' => ∃ p, e = .returned (.pointer (some ⟨p, 0, none⟩)) ∧ TX w w' p [x] := by
  obtain ⟨W, hW⟩ : ∃ W, W = w.alloc (.cells #[.slice none 0 0] 49) := ⟨_, rfl⟩
  have b0 : Below w.heap.size w W := by rw [hW]; exact (Below.refl _ _).alloc (Nat.le_refl _) _
  have hc : W.cell? ⟨0, k, none⟩ = some (.int .u8 x) := (hT.keep b0) k x hk
  have T0 : Hid (TX w W.drew w.heap.size []) := by
    refine TX.drew ⟨#[.slice none 0 0], .slice none 0 0, ⟨by rw [hW]; exact heap_alloc_new _ _, rfl, Own.nil _, by simp [Value.ownBlock]⟩, b0, Nat.le_refl _, fun g hg => by simp [Value.ownBlock] at hg⟩
  have T1 : Hid (∀ w1 l, TX w w1 w.heap.size l → w1.cell? ⟨0, k, none⟩ = some (.int .u8 x)) := fun w1 l h => hT.keep h.below k x hk
  have C0 : Hid (W.drew.cell? ⟨0, k, none⟩ = some (.int .u8 x)) := hc
  clear hT hk b0 hc
  go_enter Tryd.func18, Tryd.ntmps18
  go_upto_region 2 with fail
  rw [← hW]
  clear hW
  refine wp_region_held_drew (S := fun w' => w'.cell? ⟨0, k, none⟩ = some (.int .u8 x)) (by kernel_rfl) C0.out (fun hH => ?_)
  refine wpAnyH_take (i := 0) (v := .pointer (some ⟨w.heap.size, 0, none⟩)) rfl (by kernel_rfl) (by kernel_rfl) (by kernel_rfl) (fun _ _ _ h => h) (Or.inl ⟨by rfl, fun w' _ => by go_simp⟩) hH ?_
  refine wpAnyH_take (i := 1) (v := .pointer (some ⟨w.heap.size, 0, none⟩)) rfl (by kernel_rfl) (by kernel_rfl) (by kernel_rfl) (fun _ _ _ h => h) (Or.inl ⟨by rfl, fun w' _ => by go_simp⟩) hH ?_
  refine wpAnyH_take (i := 2) (v := .pointer (some ⟨w.heap.size, 0, none⟩)) rfl (by kernel_rfl) (by kernel_rfl) (by kernel_rfl) (fun _ _ _ h => h) (Or.inl ⟨by rfl, fun w' _ => by go_simp⟩) hH ?_
  refine wpAnyH_take (i := 3) (v := .int .i64 k) rfl (by kernel_rfl) (by kernel_rfl) (by kernel_rfl) (fun _ _ _ h => h) (Or.inl ⟨by rfl, fun w' _ => by go_simp⟩) hH ?_
  refine wpAnyH_take (i := 4) (v := .pointer (some ⟨0, k, none⟩)) rfl (by kernel_rfl) (by kernel_rfl) (by kernel_rfl) (fun _ _ _ h => h) (Or.inl ⟨by rfl, fun w' _ => by go_simp⟩) hH ?_
  refine wpAnyH_take (i := 5) (v := .int .u8 x) rfl (by kernel_rfl) (by kernel_rfl) (by kernel_rfl) (fun _ _ _ h => h) (Or.inl ⟨by rfl, fun w' hw' => by go_simp⟩) hH ?_
  refine wpAnyH_ready (rs := [6]) (by kernel_rfl) (by simp) ?_
  refine AllReadyH.cons rfl (fun K hK => ?_) AllReadyH.nil
  go_simp
  refine Calls.mono (TX.go T0.out (fun cs1 v1 s1 => wByte_any s1 x (by simp))) ?_
  rintro e w1 ⟨rfl, p1⟩
  refine hK.out _ _ (by have := T1.out w1 _ p1; exact this) (fun _ => ?_)
  clear hK K hH
  refine wpAnyH_done (by kernel_rfl) ?_ _
  have P1 : Hid _ := p1
  clear p1
  go_wp2_with fail
  go_ret
  exact ⟨_, rfl, P1.out⟩

set_option maxRecDepth 100000 in
set_option maxHeartbeats 1000000 in
theorem key_any {w w1 : World} {p : Nat} {l : List Int} (h : TX w w1 p l) {s : Value} {m : List Int} (hs : Src w s m) (hl : l.length + m.length + 4 ≤ 140737488355328) :
    Calls Tryd.prog 19 #[.pointer (some ⟨p, 0, none⟩), s] w1 fun e w2 => e = .returned (.tuple #[]) ∧ TX w w2 p (l ++ word ((m.length : Int) % 4294967296) ++ m) := by
  obtain ⟨a0, c0, hs2⟩ := hs.form
  subst hs2
  have H : Hid _ := h
  have HS : Hid _ := hs
  clear h hs
  go_enter Tryd.func19, Tryd.ntmps19
  go_wp2_with fail
  refine Calls.mono (TX.go H.out (fun cs1 v1 s1 => wWord_any s1 ((m.length : Int) % 4294967296) (by omega) (by omega) (by omega))) ?_
  rintro e w2 ⟨rfl, p2⟩
  have H2 : Hid _ := p2
  clear p2
  go_wp2_with fail
  refine Calls.mono (TX.go H2.out (fun cs1 v1 s1 => wRaw_any s1 (m := m) (TX.src H2.out HS.out) (by simp [word]; omega))) ?_
  rintro e w3 ⟨rfl, p3⟩
  have H3 : Hid _ := p3
  clear p3
  go_wp2_with fail
  exact bodyPost_end (results_none rfl _ _ _) rfl ⟨rfl, H3.out⟩

end Go.Proofs.YtoilnommhkmioaaDoor
