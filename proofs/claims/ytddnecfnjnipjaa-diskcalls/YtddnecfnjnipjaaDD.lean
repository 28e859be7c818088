import Derived.Test.YtddnecfnjnipjaaCache
import Derived.Test.YtddnecfnjnipjaaReadN
import Derived.Test.YtddnecfnjnipjaaWrite
/-
  The disk's calls in general: Off; a Write that is refused.
-/
namespace Go.Proofs.Ytddnecfnjnipjaa
open Go.RowKit Go.RwLone

set_option maxRecDepth 100000 in
set_option maxHeartbeats 1000000 in
theorem has_row {w : World} {p : Nat} {cs : Array Value} {S : Int} (h : Rw w p cs 86) (h0 : cs[0]? = some (.int .i64 S)) (i : Int) :
    Calls Try.prog 36 #[.pointer (some ⟨p, 0, none⟩), .int .i64 i] w fun e w' => e = .returned (.bool (decide (0 ≤ i ∧ i < S))) ∧ w = w' := by
  have c0 : w.cell? ⟨p, 0, none⟩ = some (.int .i64 S) := (Rw.cell h 0).trans h0
  clear h h0
  by_cases h1 : 0 ≤ i
  · by_cases h2 : i < S
    · go_enter Try.func36, Try.ntmps36
      go_wp2_with fail
      go_ret
      exact ⟨by simp [h1, h2], rfl⟩
    · go_enter Try.func36, Try.ntmps36
      go_wp2_with fail
      go_ret
      exact ⟨by simp [h2], rfl⟩
  · go_enter Try.func36, Try.ntmps36
    go_wp2_with fail
    go_ret
    exact ⟨by simp; omega, rfl⟩

set_option maxRecDepth 100000 in
set_option maxHeartbeats 2000000 in
theorem off_row {w : World} {p m c : Nat} {s z : Int} {x : Nums} (h : Rw w p (dkG s z m c x) 86) :
    Calls Try.prog 28 #[.pointer (some ⟨p, 0, none⟩)] w fun e w' => e = .returned (.bool x.off) ∧ Rw w' p (dkG s z m c x) 86 ∧ Chg (fun k => k = p) w w' := by
  have c2 : w.cell? ⟨p, 2, none⟩ = some (.int .i32 0) := Rw.cell h 2
  have c5 : w.cell? ⟨p, 5, none⟩ = some (.int .u32 0) := Rw.cell h 5
  have c6 : w.cell? ⟨p, 6, none⟩ = some (.int .i32 0) := Rw.cell h 6
  have f6 := Rw.fr h 6
  have H : Hid _ := h
  clear h
  go_enter_defers Try.func28, Try.ntmps28
  go_wp2_with fail
  refine (rlock_open Try.rwRLib p 2 0 _ _ _ c2 c5 c6 f6 (by rw [wr1]; decide)).mono ?_
  rintro e w' ⟨rfl, rfl⟩
  rw [wr1]
  have R1 := Rw.set H.out 6 (.int .i32 1)
  obtain ⟨w1, hw1⟩ : ∃ w1, w1 = w.setCell ⟨p, 6, none⟩ (.int .i32 1) := ⟨_, rfl⟩
  rw [← hw1] at R1
  have e1 : w.setCell ⟨p, 2 + 4, none⟩ (.int .i32 1) = w1 := hw1.symm
  rw [e1]
  have K1 : Hid _ := R1
  have HW : Hid _ := hw1
  have d12 : w1.cell? ⟨p, 12, none⟩ = some (.bool x.off) := Rw.cell R1 12
  clear c2 c5 c6 f6 R1 hw1 e1
  go_wp2_with fail
  refine leaves_cons (f := 32) (args := #[.pointer (some ⟨p, 2, none⟩)]) (by simp) (by simp [go_sem]) ?_
  refine (runlock_deferred Try.rwRLib p 2 1 _ _ .returning _ (Rw.cell K1.out 2) (Rw.cell K1.out 4) (Rw.cell K1.out 6) (Rw.fr K1.out 6) (by rw [wr0]; decide)).mono ?_
  rintro e u' w'' ⟨rfl, rfl, rfl⟩
  have hc : Chg (fun k => k = p) w w1 := by rw [HW.out]; exact (Chg.refl (fun k => k = p) w).setCell (.inl rfl) _
  refine ⟨_, results_tmp rfl _ _ _, rfl, ?_, hc.setCell (.inl rfl) _⟩
  rw [wr0]
  exact Rw.set K1.out 6 (.int .i32 0)

set_option maxRecDepth 100000 in
set_option maxHeartbeats 2000000 in
theorem write_sector {w : World} {p m c : Nat} {s z : Int} {x : Nums} (h : Rw w p (dkG s z m c x) 86) (i : Int) (ab : Option Addr) (nb cb : Nat) (_hn : (nb : Int) ≤ 9223372036854775807) (hno : ¬ (0 ≤ i ∧ i < s) ∨ ¬ (nb : Int) = z) :
    Calls Try.prog 12 #[.pointer (some ⟨p, 0, none⟩), .int .i64 i, .slice ab nb cb] w fun e w' => e = .returned (.int .i64 31) ∧ w = w' := by
  have HH : Hid _ := has_row h rfl i
  have c1 : w.cell? ⟨p, 1, none⟩ = some (.int .i64 z) := Rw.cell h 1
  clear h
  by_cases hin : 0 ≤ i ∧ i < s
  · have hne : ¬ (nb : Int) = z := hno.resolve_left (fun h => h hin)
    have e9 := HH.out
    rw [decide_eq_true hin] at e9
    have HE : Hid _ := e9
    clear e9 HH hno hin
    go_enter_defers Try.func12, Try.ntmps12
    go_wp2_with (go_at_call 36; refine Calls.mono HE.out ?_; rintro e w9 ⟨rfl, h9⟩; subst h9)
    exact ⟨_, results_tmp rfl _ _ _, rfl, rfl⟩
  · have e9 := HH.out
    rw [decide_eq_false hin] at e9
    have HE : Hid _ := e9
    clear e9 HH hno hin
    go_enter_defers Try.func12, Try.ntmps12
    go_wp2_with (go_at_call 36; refine Calls.mono HE.out ?_; rintro e w9 ⟨rfl, h9⟩; subst h9)
    exact ⟨_, results_tmp rfl _ _ _, rfl, rfl⟩

set_option maxRecDepth 100000 in
set_option maxHeartbeats 2000000 in
theorem write_power {w : World} {p m c : Nat} {s z : Int} {x : Nums} (h : Rw w p (dkG s z m c x) 86) (i : Int) (ab : Option Addr) (nb cb : Nat) (hin : 0 ≤ i ∧ i < s) (hnb : (nb : Int) = z) (hf : -1 ≤ x.fuse) (hf2 : x.fuse ≤ 9223372036854775807) (hb : burnE x = 32) :
    Calls Try.prog 12 #[.pointer (some ⟨p, 0, none⟩), .int .i64 i, .slice ab nb cb] w fun e w' => e = .returned (.int .i64 32) ∧ Rw w' p (dkG s z m c (burnN x)) 86 ∧ Chg (fun k => k = p) w w' := by
  have e9 := has_row h rfl i
  rw [decide_eq_true hin] at e9
  have HE : Hid _ := e9
  have c1 : w.cell? ⟨p, 1, none⟩ = some (.int .i64 nb) := by rw [hnb]; exact Rw.cell h 1
  have c2 : w.cell? ⟨p, 2, none⟩ = some (.int .i32 0) := Rw.cell h 2
  have c4 : w.cell? ⟨p, 4, none⟩ = some (.int .u32 0) := Rw.cell h 4
  have c5 : w.cell? ⟨p, 5, none⟩ = some (.int .u32 0) := Rw.cell h 5
  have c6 : w.cell? ⟨p, 6, none⟩ = some (.int .i32 0) := Rw.cell h 6
  have f6 := Rw.fr h 6
  have f2 := Rw.fr h 2
  have H : Hid _ := h
  have HB : Hid _ := hb
  clear h hb e9 hnb
  go_enter_defers Try.func12, Try.ntmps12
  go_wp2_with (go_at_call 36; refine Calls.mono HE.out ?_; rintro e w9 ⟨rfl, h9⟩; subst h9)
  refine (wlock_free Try.rwWLib p 2 _ _ _ c2 c4 c5 c6 f2 f6).mono ?_
  rintro e w' ⟨rfl, rfl⟩
  have R1 : Rw ((w.setCell ⟨p, 2, none⟩ (.int .i32 1)).setCell ⟨p, 6, none⟩ (.int .i32 (-1073741824))) p (heldG s z m c x) 86 := Rw.two H.out 2 6 (.int .i32 1) (.int .i32 (-1073741824))
  obtain ⟨w1, hw1⟩ : ∃ w1, w1 = (w.setCell ⟨p, 2, none⟩ (.int .i32 1)).setCell ⟨p, 6, none⟩ (.int .i32 (-1073741824)) := ⟨_, rfl⟩
  rw [← hw1] at R1
  have e1 : (w.setCell ⟨p, 2, none⟩ (.int .i32 1)).setCell ⟨p, 2 + 4, none⟩ (.int .i32 (-1073741824)) = w1 := hw1.symm
  rw [e1]
  have C1 : Hid (Chg (fun i => i = p) w w1) := by rw [hw1]; exact ((Chg.refl (fun i => i = p) w).setCell (.inl rfl) _).setCell (.inl rfl) _
  have BU : Hid _ := burn_held R1 hf hf2
  clear c1 c2 c4 c5 c6 f2 f6 R1 hw1 e1 HE
  go_wp2_with fail
  refine Calls.mono BU.out ?_
  rintro e w2 ⟨rfl, r2, ch2⟩
  rw [HB.out]
  have R2 : Hid _ := r2
  have C2 : Hid (Chg (fun i => i = p) w w2) := C1.out.trans ch2 (fun _ e => .inl e)
  clear r2 ch2 BU C1
  go_wp2_with fail
  refine leaves_cons (f := 38) (args := #[.pointer (some ⟨p, 2, none⟩)]) (by simp) (by simp [go_sem]) ?_
  refine (wunlock_deferred Try.rwWLib p 2 _ _ .returning _ (Rw.cell R2.out 2) (Rw.cell R2.out 4) (Rw.cell R2.out 5) (Rw.cell R2.out 6) (Rw.fr R2.out 2) (Rw.fr R2.out 6)).mono ?_
  rintro e u' w'' ⟨rfl, rfl, rfl⟩
  exact ⟨_, results_tmp rfl _ _ _, rfl, Rw.two R2.out 6 2 (.int .i32 0) (.int .i32 0), (C2.out.setCell (.inl rfl) _).setCell (.inl rfl) _⟩
end Go.Proofs.Ytddnecfnjnipjaa

/-
  A disk between two calls, both maps filled.
-/
namespace Go.Proofs.Ytddnecfnjnipjaa
open Go.RowKit Go.RwLone

theorem Ca.map {w : World} {c k z : Nat} {L : Nat → List (Nat × Nat)} {V : Nat → Value} {D : DataW Unit} (h : Ca w c k z L V D) : ∃ es cl, w.heap[c]? = some (.map es cl) := by
  obtain ⟨es, cl, hm, _⟩ := h.own
  exact ⟨es, cl, hm⟩
theorem Du.map {w : World} {m k z : Nat} {K : Nat → Option Nat} {D : DataW Unit} (h : Du w m k z K D) : ∃ es cl, w.heap[m]? = some (.map es cl) := by
  obtain ⟨es, cl, hm, _⟩ := h.own
  exact ⟨es, cl, hm⟩
theorem Ca.cells {w : World} {c k z : Nat} {L : Nat → List (Nat × Nat)} {V : Nat → Value} {D : DataW Unit} (h : Ca w c k z L V D) {t g : Nat} (hg : (V t).ownBlock = some g) : ∃ cur, w.heap[g]? = some (.cells cur 90 (0, 0)) := by
  rcases (h.row t).2 with ⟨e2, _⟩ | ⟨b, cap, cur, e2, _, hgg, _⟩
  · rw [e2] at hg; simp [Value.ownBlock] at hg
  · rw [e2] at hg
    simp [Value.ownBlock] at hg
    rw [← hg]
    exact ⟨cur, hgg⟩
theorem ne_map {w : World} {p q : Nat} {cs : Array Value} {t : TypeId} (h : Rw w p cs t) (k : ∃ es cl, w.heap[q]? = some (.map es cl)) : q ≠ p := fun e => by
  obtain ⟨es, cl, hk⟩ := k
  rw [e, h.eq] at hk
  cases hk
theorem ne_row {w : World} {p q : Nat} {cs : Array Value} {t : TypeId} (h : Rw w p cs t) (k : ∃ cur, w.heap[q]? = some (.cells cur 90 (0, 0))) (ht : t ≠ 90) : q ≠ p := fun e => by
  obtain ⟨cur, hk⟩ := k
  rw [e, h.eq] at hk
  injection hk with hk
  injection hk with _ h2
  exact ht h2

/-- Bytes of a sector that lie in a block. -/
def Bt (w : World) (z g : Nat) : Prop := ∃ l : List Int, l.length = z ∧ Rw w g (bs l).toArray 5

theorem Bt.chg {w w' : World} {z g : Nat} {S : Nat → Prop} (h : Bt w z g) (k : Chg S w w') (hn : ¬ S g) : Bt w' z g := by
  obtain ⟨l, h1, h2⟩ := h
  exact ⟨l, h1, ⟨k.heap_some h2.eq hn⟩⟩
theorem Bt.ne {w : World} {z g p : Nat} {cs : Array Value} {t : TypeId} (h : Bt w z g) (k : Rw w p cs t) (ht : t ≠ 5) : g ≠ p := by
  obtain ⟨l, _, h2⟩ := h
  exact Rw.ne h2 k (Ne.symm ht)
theorem Bt.nem {w : World} {z g c : Nat} (h : Bt w z g) (k : ∃ es cl, w.heap[c]? = some (.map es cl)) : g ≠ c := by
  obtain ⟨l, _, h2⟩ := h
  exact (ne_map h2 k).symm
theorem Bt.nev {w : World} {z g c : Nat} (h : Bt w z g) (k : ∃ cur, w.heap[c]? = some (.cells cur 90 (0, 0))) : g ≠ c := by
  obtain ⟨l, _, h2⟩ := h
  exact (ne_row h2 k (by decide)).symm

/-- A disk: its row, its two maps, the bytes that they name; b bounds what has grown. -/
structure DD (w : World) (p m c S z kc km b : Nat) (x : Nums) (L : Nat → List (Nat × Nat)) (V : Nat → Value) (D : DataW Unit) (K : Nat → Option Nat) (E : DataW Unit) : Prop where
  row : Rw w p (dkG S z m c x) 86
  ca : Ca w c kc z L V D
  du : Du w m km z K E
  mc : m ≠ c
  lb : ∀ t y, y ∈ L t → Bt w z y.2
  kb : ∀ t g, K t = some g → Bt w z g
  low : ∀ t, L t ≠ [] → t < S
  pn : ∃ n : Nat, x.pend = n ∧ n ≤ b
  ll : ∀ t, (L t).length ≤ b
  kk : kc + km ≤ b
  nm : ∀ t y, y ∈ L t → y.1 ≤ b

section
variable {w w' : World} {p m c S z kc km b : Nat} {x : Nums} {L : Nat → List (Nat × Nat)} {V : Nat → Value} {D : DataW Unit} {K : Nat → Option Nat} {E : DataW Unit}

theorem DD.cp (h : DD w p m c S z kc km b x L V D K E) : c ≠ p := ne_map h.row h.ca.map
theorem DD.mp (h : DD w p m c S z kc km b x L V D K E) : m ≠ p := ne_map h.row h.du.map
theorem DD.vp (h : DD w p m c S z kc km b x L V D K E) : ∀ t, (V t).ownBlock ≠ some p := fun t e => ne_row h.row (h.ca.cells e) (by decide) rfl

/-- Only the row has turned. -/
theorem DD.turn (h : DD w p m c S z kc km b x L V D K E) (k : Chg (fun i => i = p) w w') {x' : Nums} (r : Rw w' p (dkG S z m c x') 86) (hp : x'.pend = x.pend) {b' : Nat} (hb : b ≤ b') : DD w' p m c S z kc km b' x' L V D K E := by
  have hlt := h.row.lt
  refine ⟨r, h.ca.kept (grown_of k) (fun e => h.cp (by injection e)) (fun t g hg e => h.vp t (by rw [hg, e])), h.du.kept (grown_of k) (fun e => h.mp (by injection e)), h.mc, fun t y hy => (h.lb t y hy).chg k ((h.lb t y hy).ne h.row (by decide)), fun t g hg => (h.kb t g hg).chg k ((h.kb t g hg).ne h.row (by decide)), h.low, ?_, fun t => Nat.le_trans (h.ll t) hb, Nat.le_trans h.kk hb, fun t y hy => Nat.le_trans (h.nm t y hy) hb⟩
  obtain ⟨n, h1, h2⟩ := h.pn
  exact ⟨n, hp.trans h1, Nat.le_trans h2 hb⟩

/-- New memory alone. -/
theorem DD.more (h : DD w p m c S z kc km b x L V D K E) (k : Chg (fun _ => False) w w') : DD w' p m c S z kc km b x L V D K E :=
  h.turn (k.mono (fun _ _ h => h.elim)) ⟨k.heap_some h.row.eq (fun h => h)⟩ rfl (Nat.le_refl _)

/-- What Read gives with the power on. -/
theorem DD.lat (h : DD w p m c S z kc km b x L V D K E) (s : Nat) : latV z (L s) (K s) = .slice none 0 0 ∨ ∃ B, latV z (L s) (K s) = .slice (some ⟨B, 0, none⟩) z z ∧ Bt w z B := by
  unfold latV
  split
  · rename_i y hy
    exact .inr ⟨y.2, rfl, h.lb s y (List.mem_of_getLast? hy)⟩
  · cases hK : K s with
    | none => exact .inl rfl
    | some g => exact .inr ⟨g, rfl, h.kb s g hK⟩

theorem DD.write_off (h : DD w p m c S z kc km b x L V D K E) (s : Nat) (ab : Option Addr) (cb : Nat) (hsS : s < S) (hf : -1 ≤ x.fuse) (hf2 : x.fuse ≤ 9223372036854775807) (hbu : burnE x = 32) :
    Calls Try.prog 12 #[.pointer (some ⟨p, 0, none⟩), .int .i64 s, .slice ab z cb] w fun e w' => e = .returned (.int .i64 32) ∧ Chg (fun i => i = p) w w' ∧ DD w' p m c S z kc km b (burnN x) L V D K E := by
  refine (write_power h.row (s : Int) ab z cb ⟨by omega, by omega⟩ rfl hf hf2 hbu).mono ?_
  rintro e w9 ⟨rfl, hr, ch⟩
  refine ⟨rfl, ch, h.turn ch hr ?_ (Nat.le_refl _)⟩
  unfold burnN
  split
  · rfl
  · split <;> rfl

end
end Go.Proofs.Ytddnecfnjnipjaa
