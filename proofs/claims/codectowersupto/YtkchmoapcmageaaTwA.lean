/-
  The writing of towers: a writer that leaves some blocks alone; flags, numbers; what a tower and a kid are in memory.
-/
import Derived.Test.YtkchmoapcmageaaLeafW
namespace Go.Proofs.Ytkchmoapcmageaa
open Go.RowKit

theorem Src.nil {w w' : World} {s : Value} (h : Src w s []) : Src w' s [] := by
  rcases h with h | ⟨a, c, e, _⟩
  · exact .inl h
  · exact .inr ⟨a, c, e, fun j u hu => by simp [bs] at hu⟩
theorem Src.keptE {w w' : World} {S : Nat → Prop} {v : Value} {l : List Int} (h : Src w v l) (c : Chg S w w') (hn : ∀ k, v.ownBlock = some k → ¬ S k ∨ l = []) : Src w' v l := by
  by_cases e : l = []
  · subst e; exact h.nil
  · exact h.kept c (fun k hk => (hn k hk).resolve_right e)

set_option maxRecDepth 100000 in
set_option maxHeartbeats 1000000 in
/-- As wText_any; where the text is empty its address may be any. -/
theorem wTextE_any {w : World} {p o : Nat} {cs : Array Value} {t : TypeId} {v s : Value} {l m : List Int} (h : WS w p o cs t v l) (hs : Src w s m) (hsp : ∀ k, s.ownBlock = some k → (k ≠ p ∧ some k ≠ v.ownBlock) ∨ m = []) (hl : l.length + m.length + 10 ≤ 140737488355328) :
    Calls Try.prog 46 #[.pointer (some ⟨p, o, none⟩), s] w fun e w' => e = .returned (.tuple #[]) ∧ PW w w' p o cs t v (l ++ (numB m.length ++ m)) := by
  have H : Hid _ := h
  have HS : Hid _ := hs
  have h10 := numB_ten (n := m.length) (by omega)
  obtain ⟨a0, c0, hs2⟩ := hs.form
  subst hs2
  clear h hs
  go_enter Try.func46, Try.ntmps46
  go_wp2_with fail
  refine (wUint_any H.out m.length (by omega) (by omega)).mono ?_
  rintro e w1 ⟨rfl, v1, s1, c1, a1⟩
  have S1 : Hid _ := Src.keptE HS.out c1 (fun k hk => (hsp k hk).imp (fun this e => by rcases e with e | e; exact this.1 e; exact this.2 e) id)
  have H1 : Hid _ := s1
  have C1 : Hid _ := c1
  have A1 : Hid _ := a1
  clear s1 c1 a1
  go_wp2_with fail
  refine (wRaw_any H1.out S1.out (by rw [List.length_append]; omega)).mono ?_
  rintro e w2 ⟨rfl, P2⟩
  have R : Hid _ := PW.then H1.out C1.out A1.out P2
  clear P2
  go_wp2_with fail
  refine bodyPost_end (results_none rfl _ _ _) rfl ⟨rfl, ?_⟩
  have R2 := R.out
  rwa [List.append_assoc] at R2

/-- A writer at p (its cell 0) that has written l; since w0 no block of Av has turned. -/
structure WB (w0 w : World) (Av : Nat → Prop) (p : Nat) (t : TypeId) (l : List Int) : Prop where
  ex : ∃ cs v, WS w p 0 cs t v l ∧ ∀ g, v.ownBlock = some g → ¬ Av g
  np : ¬ Av p
  ch : Chg (fun g => ¬ Av g) w0 w
  lo : ∀ g, Av g → g < w0.heap.size

section
variable {w0 w w' : World} {Av : Nat → Prop} {p : Nat} {t : TypeId} {l l' : List Int}
theorem WB.go (h : WB w0 w Av p t l) {f : FuncId} {args : Array Value} (hc : ∀ cs v, WS w p 0 cs t v l → (∀ g, v.ownBlock = some g → ¬ Av g) → Calls Try.prog f args w fun e w' => e = .returned (.tuple #[]) ∧ PW w w' p 0 cs t v l') :
    Calls Try.prog f args w fun e w' => e = .returned (.tuple #[]) ∧ WB w0 w' Av p t l' := by
  obtain ⟨cs, v, ws, hv⟩ := h.ex
  refine (hc cs v ws hv).mono ?_
  rintro e w' ⟨rfl, v', ws', ch, hb⟩
  have new : ∀ g, w.heap.size ≤ g → ¬ Av g := fun g hg ha => by have := h.lo g ha; have := h.ch.size; omega
  refine ⟨rfl, ⟨_, v', ws', fun g hg => ?_⟩, h.np, h.ch.trans ch (fun g e => .inl ?_), h.lo⟩
  · rcases hb with e | ⟨q, e, hq⟩
    · exact hv g (by rw [← e]; exact hg)
    · rw [hg] at e; injection e with e; subst e; exact new _ hq
  · rcases e with e | e
    · rw [e]; exact h.np
    · exact hv g e.symm
theorem WB.fresh (h : WB w0 w Av p t l) (c : Chg (fun _ => False) w w') : WB w0 w' Av p t l := by
  obtain ⟨cs, v, ws, hv⟩ := h.ex
  exact ⟨⟨cs, v, ⟨c.heap_some ws.blk (fun e => e), ws.at_, Own.kept ws.own c (fun _ _ e => e), ws.ne⟩, hv⟩, h.np, h.ch.trans c (fun _ e => e.elim), h.lo⟩
theorem WB.drew (h : WB w0 w Av p t l) : WB w0 w.drew Av p t l := h.fresh ((Chg.refl _ _).drew)
theorem WB.src (h : WB w0 w Av p t l) {s : Value} {m : List Int} (hs : Src w0 s m) (ha : ∀ g, s.ownBlock = some g → Av g ∨ m = []) : Src w s m := hs.keptE h.ch (fun g hg => (ha g hg).imp (fun a e => e a) id)
theorem WB.blk (h : WB w0 w Av p t l) {g : Nat} {cs : List Value} {ty : TypeId} (hb : Blk w0 g cs ty) (ha : Av g) : Blk w g cs ty := hb.keep h.ch (fun e => e ha)
theorem WB.pw (h : WB w0 w Av p t l) : p < w.heap.size := by
  obtain ⟨cs, v, ws, _⟩ := h.ex
  exact ws.lt
/-- One block more is left alone. -/
def AvX (Av : Nat → Prop) (X : Nat) : Nat → Prop := fun g => Av g ∨ g = X
theorem WB.box (h : WB w0 w Av p t l) (c : Chg (fun _ => False) w w') (hX : w.heap.size < w'.heap.size) : WB w' w' (AvX Av w.heap.size) p t l := by
  obtain ⟨cs, v, ws, hv⟩ := h.ex
  refine ⟨⟨cs, v, ⟨c.heap_some ws.blk (fun e => e), ws.at_, Own.kept ws.own c (fun _ _ e => e), ws.ne⟩, fun g hg e => ?_⟩, fun e => ?_, Chg.refl _ _, fun g e => ?_⟩
  · rcases e with e | e
    · exact hv g hg e
    · have := Own.lt ws.own hg; omega
  · rcases e with e | e
    · exact h.np e
    · have := ws.lt; omega
  · rcases e with e | e
    · have := h.lo g e; have := h.ch.size; have := c.size; omega
    · omega
theorem WB.leave {X : Nat} {w1 w2 : World} (h : WB w0 w Av p t l) (c : Chg (fun _ => False) w w1) (h2 : WB w1 w2 (AvX Av X) p t l') : WB w0 w2 Av p t l' := by
  obtain ⟨cs, v, ws, hv⟩ := h2.ex
  exact ⟨⟨cs, v, ws, fun g hg e => hv g hg (.inl e)⟩, h.np, (h.ch.trans c (fun _ e => e.elim)).trans h2.ch (fun g e => .inl (fun e2 => e (.inl e2))), h.lo⟩
end

set_option maxRecDepth 100000 in
set_option maxHeartbeats 1000000 in
theorem wFlag_any {w : World} {p : Nat} {cs : Array Value} {t : TypeId} {v : Value} {l : List Int} (h : WS w p 0 cs t v l) (b : Bool) (hl : l.length + 1 ≤ 140737488355328) :
    Calls Try.prog 145 #[.pointer (some ⟨p, 0, none⟩), .bool b] w fun e w' => e = .returned (.tuple #[]) ∧ PW w w' p 0 cs t v (l ++ [if b then 1 else 0]) := by
  have H : Hid _ := fun x => wByte_any h x hl
  clear h
  cases b
  · go_enter Try.func145, Try.ntmps145
    go_wp2_with fail
    refine Calls.mono (H.out 0) ?_
    rintro e w1 ⟨rfl, r⟩
    have R : Hid _ := r
    clear r
    go_wp2_with fail
    go_end0
    exact ⟨rfl, R.out⟩
  · go_enter Try.func145, Try.ntmps145
    go_wp2_with fail
    refine Calls.mono (H.out 1) ?_
    rintro e w1 ⟨rfl, r⟩
    have R : Hid _ := r
    clear r
    go_wp2_with fail
    go_end0
    exact ⟨rfl, R.out⟩
set_option maxRecDepth 100000 in
set_option maxHeartbeats 1000000 in
theorem wNumber_any {w : World} {p : Nat} {cs : Array Value} {t : TypeId} {v : Value} {l : List Int} (h : WS w p 0 cs t v l) (n : Nat) (hn : n ≤ 9223372036854775807) (hl : l.length + 10 ≤ 140737488355328) :
    Calls Try.prog 142 #[.pointer (some ⟨p, 0, none⟩), .int .i64 n] w fun e w' => e = .returned (.tuple #[]) ∧ PW w w' p 0 cs t v (l ++ numB n) := by
  have H : Hid _ := wUint_any h n (by omega) hl
  clear h
  go_enter Try.func142, Try.ntmps142
  go_wp2_with fail
  refine Calls.mono H.out ?_
  rintro e w1 ⟨rfl, r⟩
  have R : Hid _ := r
  clear r
  go_wp2_with fail
  go_end0
  exact ⟨rfl, R.out⟩

/-- A kid. -/
structure Kd where
  lv : Int
  ka : Option Addr
  kn : Nat
  kc : Nat
  kl : List Int
  ct : Nat
  ad : List Int
  lb : List Int
def Kd.cells (k : Kd) : List Value := .int .i64 k.lv :: .slice k.ka k.kn k.kc :: .int .u64 k.ct :: bs (k.ad ++ k.lb)
def Kd.bytes (k : Kd) : List Int := [k.lv % 256] ++ (numB k.kl.length ++ k.kl) ++ numB k.ct ++ k.ad ++ k.lb
/-- It lies in memory, its key among Av. -/
structure KdIn (w : World) (Av : Nat → Prop) (k : Kd) : Prop where
  src : Src w (.slice k.ka k.kn k.kc) k.kl
  av : ∀ g, (Value.slice k.ka k.kn k.kc).ownBlock = some g → Av g ∨ k.kl = []
  lv : -9223372036854775808 ≤ k.lv ∧ k.lv ≤ 9223372036854775807
  ct : k.ct < 18446744073709551616
  ad : k.ad.length = 33
  lb : k.lb.length = 32
theorem Kd.one (k : Kd) : ∀ u ∈ k.cells, u.oneCell' = true := by
  intro u hu
  simp only [Kd.cells, List.mem_cons] at hu
  rcases hu with rfl | rfl | rfl | hu
  · rfl
  · rfl
  · rfl
  · exact bs_one _ u hu
theorem Kd.ad_at (k : Kd) : (k.cells.drop 3).take (bs k.ad).length = bs k.ad := by simp [Kd.cells, bs]
theorem Kd.lb_at (k : Kd) (h : k.ad.length = 33) : (k.cells.drop 36).take (bs k.lb).length = bs k.lb := by
  have e : k.cells.drop 36 = bs k.lb := by
    show (bs (k.ad ++ k.lb)).drop 33 = bs k.lb
    rw [bs_app, List.drop_append_of_le_length (by rw [bs_len]; omega), List.drop_eq_nil_of_le (by rw [bs_len]; omega), List.nil_append]
  rw [e, List.take_length]
end Go.Proofs.Ytkchmoapcmageaa
