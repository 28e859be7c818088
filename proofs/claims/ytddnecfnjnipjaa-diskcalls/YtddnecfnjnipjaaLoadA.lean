/-
  Bytes compared, copied; a disk that was loaded: its map, its reads.
-/
import Derived.Test.YtddnecfnjnipjaaDisk2
import Derived.Test.YtddnecfnjnipjaaNew2
import Derived.Maps.Views
namespace Go.Proofs.Ytddnecfnjnipjaa
open Go.RowKit Go.RwLone

theorem Src.at {w : World} {a : Option Addr} {n c : Nat} {l : List Int} (h : Src w (.slice a n c) l) (k : Nat) (hk : k < l.length) : ∃ g o, a = some ⟨g, o, none⟩ ∧ w.cell? ⟨g, o + k, none⟩ = some (.int .u8 l[k]) := by
  rcases h with ⟨_, rfl⟩ | ⟨⟨g, o, sp⟩, c', e, hc⟩
  · simp at hk
  · injection e with e1 e2 e3
    obtain ⟨h1, h2⟩ := hc k _ (bs_get l k hk)
    simp only at h1
    subst h1
    exact ⟨g, o, e1, h2⟩
theorem Src.adds {w : World} {a : Option Addr} {n c : Nat} {l : List Int} (h : Src w (.slice a n c) l) (h0 : 0 < l.length) : ∃ ad, a = some ad ∧ ∀ j v, (bs l)[j]? = some v → w.cell? (ad.add j) = some v := by
  obtain ⟨g, o, e, _⟩ := Src.at h 0 h0
  refine ⟨_, e, fun j v hv => ?_⟩
  have hj : j < l.length := by have := (List.getElem?_eq_some_iff.1 hv).1; rwa [bs_len] at this
  obtain ⟨g2, o2, e2, hc⟩ := Src.at h j hj
  rw [e] at e2
  injection e2 with e2
  injection e2 with e3 e4
  subst e3 e4
  rw [addr_add, hc, ← hv, bs_get _ _ hj]

set_option maxRecDepth 100000 in
set_option maxHeartbeats 1000000 in
theorem same_src {w : World} {s u : Value} {l : List Int} (h1 : Src w s l) (h2 : Src w u l) (hl : l.length ≤ 9223372036854775807) :
    Calls Try.prog 24 #[s, u] w fun e w' => e = .returned (.bool true) ∧ ∃ j, w' = w.drewN j := by
  have H1 : Hid _ := h1
  have H2 : Hid _ := h2
  obtain ⟨a0, c0, e0⟩ := h1.form
  obtain ⟨b0, d0, e1⟩ := h2.form
  subst e0 e1
  clear h1 h2
  go_enter Try.func24, Try.ntmps24
  go_wp2_with fail
  go_loopw [5] (fun x wr => ∃ (k j : Nat), x = .int .i64 k ∧ wr = w.drewN j ∧ k ≤ l.length) (fun x _ => l.length - (intOf x).toNat)
  case atStart => exact ⟨0, 0, rfl, rfl, Nat.zero_le _⟩
  case round =>
    obtain ⟨k, j, rfl, rfl, hk⟩ := hrel
    by_cases hlt : k < l.length
    · obtain ⟨g, o, rfl, hc1⟩ := Src.at H1.out k hlt
      obtain ⟨g2, o2, rfl, hc2⟩ := Src.at H2.out k hlt
      obtain ⟨x, hx⟩ : ∃ x, x = l[k] := ⟨_, rfl⟩
      rw [← hx] at hc1 hc2
      have hc1' : ∀ n, (w.drewN n).cell? ⟨g, o + k, none⟩ = some (.int .u8 x) := fun n => hc1
      have hc2' : ∀ n, (w.drewN n).cell? ⟨g2, o2 + k, none⟩ = some (.int .u8 x) := fun n => hc2
      clear hc1 hc2 hx
      go_wp2_with fail
      go_quiet (fail)
      go_wp2_with fail
      go_roundw
      case rel => exact ⟨k + 1, _, by go_num, rfl, by omega⟩
      case measure => simp [intOf]; omega
    · go_wp2_with fail
      go_ret
      exact ⟨rfl, _, rfl⟩

theorem splice_zer (m : List Int) : splice (zer m.length) 0 (bs m) = bs m := by
  unfold splice zer
  rw [List.drop_of_length_le (by simp [bs])]
  simp

set_option maxRecDepth 100000 in
set_option maxHeartbeats 1000000 in
theorem copied_any {w : World} {s : Value} {m : List Int} (hs : Src w s m) (hl : m.length ≤ 140737488355328) (h0 : 0 < m.length) :
    Calls Try.prog 33 #[s] w fun e w' => e = .returned (.slice (some ⟨w.heap.size, 0, none⟩) m.length m.length) ∧ Rw w' w.heap.size (bs m).toArray 5 ∧ Below w.heap.size w w' := by
  obtain ⟨a0, c0, hs2⟩ := hs.form
  subst hs2
  have hmk := run_mk m.length hl
  have HA : Hid _ := Src.adds (Src.kept0 hs ((Below.refl _ _).alloc (Nat.le_refl _) (.cells (zer m.length).toArray 5))) h0
  clear hs
  go_enter Try.func33, Try.ntmps33
  go_wp2_with (refine wpList_copy_splice rfl (.tmp 7) (.tmp 8) 48 48 rfl 5 Try.underlying48 (by kernel_rfl) _ _ _ _ _ _ rfl rfl w.heap.size 0 (zer m.length) 5 (heap_alloc_new _ _) (bs m) (by simp [bs]) (fun _ => ⟨rfl, HA.out⟩) (by simp [bs, zer]) (bs_one m) w.heap.size w ((Below.refl _ _).alloc (Nat.le_refl _) _) (Nat.le_refl _) ?_; intro w1 hw1 hb1)
  rw [splice_zer] at hw1
  go_ret
  exact ⟨rfl, ⟨hw1.out⟩, hb1⟩

/-- An element that lies in a block of its own, or is none. -/
def blkElem (z : Nat) : Value → Option (DataW Unit × List MemPlace)
  | .slice none 0 0 => some (.nil, [])
  | .slice (some ⟨g, 0, none⟩) n c => if n = z ∧ c = z then some (.lit (.int .i64 g), []) else none
  | _ => none
theorem blkElem_mk (z g : Nat) : blkElem z (.slice (some ⟨g, 0, none⟩) z z) = some (.lit (.int .i64 g), []) := by simp [blkElem]
theorem blkElem_inv {z g : Nat} {v : Value} {ps : List MemPlace} (h : blkElem z v = some (.lit (.int .i64 g), ps)) : v = .slice (some ⟨g, 0, none⟩) z z := by
  unfold blkElem at h
  split at h
  · cases h
  · rename_i g' n c
    split at h
    · rename_i hh
      obtain ⟨rfl, rfl⟩ := hh
      simp at h
      have : g' = g := by omega
      rw [this]
    · cases h
  · cases h

/-- The map of what is durable: sector i lies in block gs i, for the first k. -/
structure Mp (w : World) (m k z : Nat) (gs : Nat → Nat) (D : DataW Unit) : Prop where
  own : w.ownsMap Try.prog 3 (blkElem z) m k D
  at_ : ∀ i : Nat, i < k → D.atKey (.int .i64 i) .nil = .lit (.int .i64 (gs i))
  has : ∀ kl, Maps.has D kl = true ↔ ∃ i : Nat, i < k ∧ kl = .int .i64 i

theorem look81b {w : World} {m k z : Nat} {gs : Nat → Nat} {D : DataW Unit} (h : Mp w m k z gs D) (i : Nat) (hi : i < k) (hk : k ≤ 65536) : (Instr.lookup 80 (.map (some m)) (.int .i64 i) false).run Try.prog w = .ok (.slice (some ⟨gs i, 0, none⟩) z z) w := by
  have hwf : (Lit.int .i64 (i : Int)).wf = true := WalkArith.wf_i64 (by omega)
  obtain ⟨v, ps, h1, h2⟩ := h.own.lookup (t := 80) (e := 48) keyed3 Try.underlying80 (z := .slice none 0 0) (by kernel_rfl) (zd := .nil) (zp := []) rfl (Maps.keyOf_int_mk Try.underlying3 hwf)
  rw [h.at_ i hi] at h2
  rw [h1, blkElem_inv h2]

/-- The bytes of sector i. -/
def piece (T : List Int) (z i : Nat) : List Int := (T.drop (i * z)).take z
theorem piece_len {T : List Int} {z i S : Nat} (hT : T.length = S * z) (hi : i < S) : (piece T z i).length = z := by
  have h1 : (i + 1) * z ≤ S * z := Nat.mul_le_mul_right z hi
  rw [Nat.add_mul, Nat.one_mul] at h1
  simp [piece]
  omega

/-- A disk that was loaded. -/
structure LD (w : World) (p m c : Nat) (rd : Int) (S z : Nat) (gs : Nat → Nat) (D : DataW Unit) (T : List Int) : Prop where
  row : Rw w p (dk S z m c rd 0) 86
  mp : Mp w m S z gs D
  mc : w.heap[c]? = some (.map #[] 0)
  blk : ∀ i, i < S → Rw w (gs i) (bs (piece T z i)).toArray 5
  pm : m ≠ p
  pc : c ≠ p

theorem Rw.ne {w : World} {p q : Nat} {cs ds : Array Value} {t u : TypeId} (h : Rw w p cs t) (k : Rw w q ds u) (hn : t ≠ u) : p ≠ q := fun e => by
  subst e
  have := h.eq.symm.trans k.eq
  injection this with this
  injection this with _ e
  exact hn e

theorem grown_of {w w' : World} {g : Nat} (c : Chg (fun k => k = g) w w') : w.grownBy w' (some g) := ⟨c.os, c.tape, c.output, c.size, fun k hk hn => c.block k hk (fun e => hn (by rw [e]))⟩
theorem Mp.chg {w w' : World} {m k z g : Nat} {gs : Nat → Nat} {D : DataW Unit} (h : Mp w m k z gs D) (c : Chg (fun i => i = g) w w') (hn : m ≠ g) : Mp w' m k z gs D :=
  ⟨h.own.kept (grown_of c) (by simp [hn]), h.at_, h.has⟩
theorem Rw.chg1 {w w' : World} {g q : Nat} {cs : Array Value} {t : TypeId} (h : Rw w q cs t) (c : Chg (fun i => i = g) w w') (hn : q ≠ g) : Rw w' q cs t := ⟨c.heap_some h.eq hn⟩
theorem Mp.lt {w : World} {m k z : Nat} {gs : Nat → Nat} {D : DataW Unit} (h : Mp w m k z gs D) : m < w.heap.size := h.own.lt
theorem Mp.alloc {w : World} {m k z : Nat} {gs : Nat → Nat} {D : DataW Unit} (h : Mp w m k z gs D) (o : Obj) : Mp (w.alloc o) m k z gs D := ⟨h.own.alloc o, h.at_, h.has⟩

set_option maxRecDepth 100000 in
set_option maxHeartbeats 1000000 in
theorem latestL {w : World} {p m c S z : Nat} {gs : Nat → Nat} {D : DataW Unit} (hm : Mp w m S z gs D) (hc : w.heap[c]? = some (.map #[] 0)) (h8 : w.cell? ⟨p, 8, none⟩ = some (.map (some m))) (h9 : w.cell? ⟨p, 9, none⟩ = some (.map (some c))) (i : Nat) (hi : i < S) (hS : S ≤ 65536) :
    Calls Try.prog 42 #[.pointer (some ⟨p, 0, none⟩), .int .i64 i] w fun e w' => e = .returned (.slice (some ⟨gs i, 0, none⟩) z z) ∧ w = w' := by
  have k1 := look81b hm i hi hS
  have k2 := look82 w c i (WalkArith.wf_i64 (by omega)) hc
  go_enter Try.func42, Try.ntmps42
  go_wp2_with fail
  go_ret
  exact ⟨rfl, rfl⟩

theorem setRow_chg (w : World) (g : Nat) (cs : Array Value) : Chg (fun k => k = g) w (w.setRow g cs) := ⟨rfl, rfl, rfl, by simp [World.setRow], fun k _ hk => setRow_other w g k cs hk⟩

theorem wpList_copy_to {w : World} {ops : Array Oper} {rest : List Oper} {o : Oper} {a : Act} {Q : Exit → Act → World → Prop} (hgd : o.guard = none) (d s : Operand)
    (ho : o.op = .call { callee := .builtin .copy, args := #[d, s], argTypes := #[48, 48] }) (g off dLen dCap : Nat) (ad : Addr) (sLen sCap : Nat) (hd : a.eval d = .slice (some ⟨g, off, none⟩) dLen dCap) (hs : a.eval s = .slice (some ad) sLen sCap)
    {cur : List Value} {t : TypeId} (hg : Rw w g cur.toArray t) (cs : List Value) (hn : cs.length = Nat.min sLen dLen)
    (hsrc : ∀ j v, cs[j]? = some v → w.cell? (ad.add j) = some v) (hfit : off + cs.length ≤ cur.length) (h1 : ∀ v ∈ cs, v.oneCell' = true)
    (h : ∀ w', Rw w' g (splice cur off cs).toArray t → Chg (fun k => k = g) w w' → wpList Try.prog ops Q rest (a.put o.dst (goInt cs.length)) w') : wpList Try.prog ops Q (o :: rest) a w :=
  wpList_copy_own hgd d s 48 48 ho 5 Try.underlying48 (by kernel_rfl) g off dLen dCap ad sLen sCap hd hs cur.toArray t hg.eq cs hn hsrc (by simpa using hfit) h1
    (h _ ⟨by simpa [splice] using setRow_heap w g _ _ t _ hg.eq⟩ (setRow_chg _ _ _))

set_option maxRecDepth 100000 in
set_option maxHeartbeats 2000000 in
theorem readL {w : World} {p m c S z : Nat} {rd : Int} {gs : Nat → Nat} {D : DataW Unit} {T : List Int} (h : LD w p m c rd S z gs D T) (hz : z ≤ 4096) (hz0 : 0 < z) (hT : T.length = S * z) (i : Nat) (hi : i < S) (hS : S ≤ 65536) :
    Calls Try.prog 44 #[.pointer (some ⟨p, 0, none⟩), .int .i64 i] w fun e w' => ∃ g, e = .returned (.tuple #[.slice (some ⟨g, 0, none⟩) z z, .int .i64 0]) ∧ Rw w' g (bs (piece T z i)).toArray 5 ∧ w.heap.size ≤ g ∧ (∃ rd', LD w' p m c rd' S z gs D T) ∧ Chg (fun k => k = p) w w' := by
  have HP := piece_len hT hi
  have DKh : Calls Try.prog 36 #[.pointer (some ⟨p, 0, none⟩), .int .i64 i] w fun e w' => e = .returned (.bool true) ∧ w = w' := by
    have c0 : w.cell? ⟨p, 0, none⟩ = some (.int .i64 S) := h.row.cell 0
    clear h
    go_enter Try.func36, Try.ntmps36
    go_wp2_with fail
    go_ret
    exact ⟨rfl, rfl⟩
  have HH : Hid _ := DKh
  have r0 := h.row
  have c2 : w.cell? ⟨p, 2, none⟩ = some (.int .i32 0) := r0.cell 2
  have c5 : w.cell? ⟨p, 5, none⟩ = some (.int .u32 0) := r0.cell 5
  have c6 : w.cell? ⟨p, 6, none⟩ = some (.int .i32 0) := r0.cell 6
  have f6 := r0.fr 6
  have hmk := run_mk z (by omega)
  have HD : Hid _ := h
  have R0 : Hid _ := r0
  clear h r0 DKh
  go_enter_defers Try.func44, Try.ntmps44
  go_wp2_with (go_at_call 36; refine Calls.mono HH.out ?_; rintro e w9 ⟨rfl, h9⟩; subst h9)
  refine (rlock_open Try.rwRLib p 2 0 _ _ _ c2 c5 c6 f6 (by rw [wr1]; decide)).mono ?_
  rintro e w' ⟨rfl, rfl⟩
  rw [wr1]
  obtain ⟨w1, hw1⟩ : ∃ w1, w1 = w.setCell ⟨p, 2 + 4, none⟩ (.int .i32 1) := ⟨_, rfl⟩
  rw [← hw1]
  have r1 : Rw w1 p ((dk S z m c rd 0).setIfInBounds 6 (.int .i32 1)) 86 := by rw [hw1]; exact R0.out.set 6 _
  have hc1 : Chg (fun k => k = p) w w1 := by rw [hw1]; exact (Chg.refl (fun k => k = p) w).setCell (.inl rfl) _
  have C1 : Hid _ := hc1
  have R1 : Hid _ := r1
  have M1 : Hid _ := Mp.chg HD.out.mp hc1 HD.out.pm
  have N1 : Hid (w1.heap[c]? = some (.map #[] 0)) := hc1.heap_some HD.out.mc HD.out.pc
  have G1 : Hid (∀ j, j < S → Rw w1 (gs j) (bs (piece T z j)).toArray 5) := fun j hj => Rw.chg1 (HD.out.blk j hj) hc1 (Rw.ne (HD.out.blk j hj) R0.out (by decide))
  have d12 : w1.cell? ⟨p, 12, none⟩ = some (.bool false) := r1.cell 12
  have d1 : w1.cell? ⟨p, 1, none⟩ = some (.int .i64 z) := r1.cell 1
  clear c2 c5 c6 f6 hw1 r1 R0 HH hc1
  go_wp2_with fail
  obtain ⟨w2, hw2⟩ : ∃ w2, w2 = w1.alloc (.cells (zer z).toArray 5) := ⟨_, rfl⟩
  rw [← hw2]
  have hb2 : Below w1.heap.size w1 w2 := by rw [hw2]; exact (Below.refl _ _).alloc (Nat.le_refl _) _
  have hsz1 : w.heap.size ≤ w1.heap.size := C1.out.size
  have R2 : Hid _ := Rw.keep R1.out hb2
  have Z2 : Hid (Rw w2 w1.heap.size (zer z).toArray 5) := by rw [hw2]; exact ⟨heap_alloc_new _ _⟩
  have M2 : Hid (Mp w2 m S z gs D) := by rw [hw2]; exact Mp.alloc M1.out _
  have N2 : Hid (w2.heap[c]? = some (.map #[] 0)) := by rw [hb2.block _ (Array.getElem?_eq_some_iff.1 N1.out).1]; exact N1.out
  have G2 : Hid (∀ j, j < S → Rw w2 (gs j) (bs (piece T z j)).toArray 5 ∧ gs j < w1.heap.size) := fun j hj => ⟨Rw.keep (G1.out j hj) hb2, Rw.lt (G1.out j hj)⟩
  have C2 : Hid (Chg (fun k => k = p) w w2) := C1.out.trans (Chg.of_below hb2 (fun _ => False)) (fun _ h => h.elim)
  have plt : p < w1.heap.size := Rw.lt R1.out
  have mlt : m < w1.heap.size := Mp.lt M1.out
  have clt : c < w1.heap.size := (Array.getElem?_eq_some_iff.1 N1.out).1
  clear hw2 R1 M1 N1 C1 G1 d12 d1 hmk hb2
  refine Calls.mono (latestL M2.out N2.out (Rw.cell R2.out 8) (Rw.cell R2.out 9) i hi hS) ?_
  rintro e w9 ⟨rfl, h9⟩
  subst h9
  go_wp2_with (refine wpList_copy_to rfl (.tmp 27) (.tmp 30) rfl w1.heap.size 0 z z ⟨gs i, 0, none⟩ z z rfl rfl Z2.out (bs (piece T z i)) (by rw [bs_len, HP]; exact (Nat.min_self z).symm) (fun j v hv => by rw [addr_add, Nat.zero_add, Rw.cell (G2.out i hi).1 j]; simpa using hv) (by simp [bs_len, HP, zer]) (bs_one _) ?_; intro w3 r3 c3; have Z3 : Hid _ := r3; have C3 : Hid _ := c3; clear r3 c3)
  have e3 : splice (zer z) 0 (bs (piece T z i)) = bs (piece T z i) := by have := splice_zer (piece T z i); rwa [HP] at this
  have R3 : Hid _ := Rw.chg1 R2.out C3.out (by omega)
  refine Calls.mono (u64add_any ⟨p, 14, none⟩ rd 1 w3 (Rw.cell R3.out 14) (Rw.fr R3.out 14)) ?_
  rintro e w9 ⟨q, -, rfl, rfl⟩
  have K3 : Hid (Rw (w3.setCell ⟨p, 14, none⟩ (.int .u64 q)) p _ 86) := Rw.set R3.out 14 (.int .u64 q)
  go_wp2_with fail
  refine leaves_cons (f := 32) (args := #[.pointer (some ⟨p, 2, none⟩)]) (by simp) (by simp [go_sem]) ?_
  refine (runlock_deferred Try.rwRLib p 2 1 _ _ .returning _ (Rw.cell K3.out 2) (Rw.cell K3.out 4) (Rw.cell K3.out 6) (Rw.fr K3.out 6) (by rw [wr0]; decide)).mono ?_
  rintro e u' w'' ⟨rfl, rfl, rfl⟩
  refine ⟨_, results_tmp2 rfl _ _ _, w1.heap.size, rfl, ?_⟩
  rw [wr0]
  have c4 : Chg (fun k => k = p) w3 ((w3.setCell ⟨p, 14, none⟩ (.int .u64 q)).setCell ⟨p, 2 + 4, none⟩ (.int .i32 0)) := ((Chg.refl (fun k => k = p) w3).setCell (.inl rfl) _).setCell (.inl rfl) _
  have K4 := Rw.set K3.out 6 (.int .i32 0)
  have zr := Rw.chg1 Z3.out c4 (by omega)
  rw [e3] at zr
  refine ⟨zr, hsz1, ⟨q, K4, Mp.chg (Mp.chg M2.out C3.out (by omega)) c4 HD.out.pm, c4.heap_some (C3.out.heap_some N2.out (by omega)) HD.out.pc, fun j hj => Rw.chg1 (Rw.chg1 (G2.out j hj).1 C3.out (by have := (G2.out j hj).2; omega)) c4 ?_, HD.out.pm, HD.out.pc⟩, ?_⟩
  · exact Rw.ne (HD.out.blk j hj) HD.out.row (by decide)
  · refine (C2.out.trans C3.out (fun k e => .inr (by omega))).trans c4 (fun _ e => .inl e)
end Go.Proofs.Ytddnecfnjnipjaa
