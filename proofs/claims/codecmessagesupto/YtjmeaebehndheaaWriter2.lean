import Derived.Test.YtjmeaebehndheaaBase
import Derived.Deep.MidRow
/-
  The walks of a Writer's calls.
-/
namespace Go.Proofs.Ytjmeaebehndheaa
open Go.RowKit

/-- A Writer lies at place o of block p, and has laid down l. -/
structure WS (w : World) (p o : Nat) (cs : Array Value) (t : TypeId) (v : Value) (l : List Int) : Prop where
  blk : w.heap[p]? = some (.cells cs t (0, 0))
  at_ : cs[o]? = some v
  own : Own w v l
  ne : v.ownBlock ≠ some p

/-- What a call on it leaves. -/
def PW (w w' : World) (p o : Nat) (cs : Array Value) (t : TypeId) (v : Value) (l : List Int) : Prop :=
  ∃ v', WS w' p o (cs.setIfInBounds o v') t v' l ∧ Chg (fun k => k = p ∨ some k = v.ownBlock) w w' ∧ (v'.ownBlock = v.ownBlock ∨ ∃ g, v'.ownBlock = some g ∧ w.heap.size ≤ g)

theorem WS.cell {w : World} {p o : Nat} {cs : Array Value} {t : TypeId} {v : Value} {l : List Int} (h : WS w p o cs t v l) : w.cell? ⟨p, o, none⟩ = some v := by
  rw [cell_of_row w p o cs t (0, 0) h.blk]; exact h.at_
theorem WS.lt {w : World} {p o : Nat} {cs : Array Value} {t : TypeId} {v : Value} {l : List Int} (h : WS w p o cs t v l) : p < w.heap.size := (Array.getElem?_eq_some_iff.1 h.blk).1

theorem src_new (w : World) (l : List Int) (c : Nat) : Src (w.alloc (.cells (bs l).toArray 5)) (.slice (some ⟨w.heap.size, 0, none⟩) l.length c) l :=
  .inr ⟨_, _, rfl, fun j u hu => ⟨rfl, by
    rw [cell_of_row _ _ _ (bs l).toArray 5 _ (heap_alloc_new _ _)]
    simpa using hu⟩⟩
theorem Own.alloc {w : World} {v : Value} {l : List Int} (h : Own w v l) (o : Obj) : Own (w.alloc o) v l := h.kept ((Chg.refl (fun _ => False) _).alloc _) (fun _ _ h => h)

theorem WS.stay {w w1 : World} {p o : Nat} {cs : Array Value} {t : TypeId} {v : Value} {l : List Int} (h : WS w p o cs t v l) (c : Chg (fun k => some k = v.ownBlock) w w1) : w1.heap[p]? = some (.cells cs t (0, 0)) ∧ w1.cell? ⟨p, o, none⟩ = some v ∧ w1.frozen? ⟨p, o, none⟩ = false := by
  have hb := c.heap_some h.blk (fun e => h.ne e.symm)
  exact ⟨hb, by rw [cell_of_row w1 p o cs t (0, 0) hb]; exact h.at_, frozen_of_row w1 p o cs t hb⟩

theorem WS.stored {w w1 : World} {p o : Nat} {cs : Array Value} {t : TypeId} {v v' : Value} {l l' : List Int} (h : WS w p o cs t v l) (c : Chg (fun k => some k = v.ownBlock) w w1) (hv : Own w1 v' l')
    (hat : v'.ownBlock = v.ownBlock ∨ ∃ g, v'.ownBlock = some g ∧ w.heap.size ≤ g) : PW w (w1.setCell ⟨p, o, none⟩ v') p o cs t v l' := by
  have hb := (h.stay c).1
  have hne : v'.ownBlock ≠ some p := by
    rcases hat with e | ⟨g, e, hg⟩
    · rw [e]; exact h.ne
    · rw [e]; intro e2; have := h.lt; simp at e2; omega
  refine ⟨v', ⟨heap_setCell_same w1 p o cs t v' hb, ?_, ?_, hne⟩, ?_, hat⟩
  · rw [Array.getElem?_setIfInBounds_self_of_lt (Array.getElem?_eq_some_iff.1 h.at_).1]
  · exact hv.kept ((Chg.refl (fun k => k = p) _).setCell (.inl rfl) _) (fun k hk e => hne (by rw [hk, e]))
  · exact (c.mono (fun _ _ e => .inr e)).setCell (.inl (.inl rfl)) _

theorem WS.after {w w0 w1 : World} {p o : Nat} {cs : Array Value} {t : TypeId} {v v' : Value} {l l' : List Int} (h : WS w p o cs t v l) (c0 : Chg (fun k => some k = v.ownBlock) w w0) (hv : Own w1 v' l') (hch : Chg (fun k => some k = v.ownBlock) w0 w1)
    (hat : v'.ownBlock = v.ownBlock ∨ v'.ownBlock = some w0.heap.size) : w1.cell? ⟨p, o, none⟩ = some v ∧ w1.frozen? ⟨p, o, none⟩ = false ∧ Hid (PW w (w1.setCell ⟨p, o, none⟩ v') p o cs t v l') ∧ ∃ a c, v' = .slice a l'.length c := by
  have c := c0.trans hch (fun i e => .inl e)
  obtain ⟨_, b, d⟩ := h.stay c
  exact ⟨b, d, h.stored c hv (hat.imp id fun e => ⟨_, e, c0.size⟩), hv.form⟩

theorem PW.then {w w1 w2 : World} {p o : Nat} {cs : Array Value} {t : TypeId} {v v1 : Value} {l1 l2 : List Int} (h1 : WS w1 p o (cs.setIfInBounds o v1) t v1 l1) (c : Chg (fun k => k = p ∨ some k = v.ownBlock) w w1) (hat : v1.ownBlock = v.ownBlock ∨ ∃ g, v1.ownBlock = some g ∧ w.heap.size ≤ g)
    (h : PW w1 w2 p o (cs.setIfInBounds o v1) t v1 l2) : PW w w2 p o cs t v l2 := by
  obtain ⟨v2, a, b, d⟩ := h
  refine ⟨v2, by simpa using a, c.trans b ?_, ?_⟩
  · rintro i (rfl | e)
    · exact .inl (.inl rfl)
    · rcases hat with x | ⟨g, x, hg⟩
      · exact .inl (.inr (by rw [e, x]))
      · rw [x] at e; simp at e; exact .inr (by omega)
  · rcases d with d | ⟨g, d, hg⟩
    · rw [d]; exact hat
    · exact .inr ⟨g, d, Nat.le_trans c.size hg⟩

set_option maxRecDepth 100000 in
set_option maxHeartbeats 1000000 in
theorem wByte_any {w : World} {p o : Nat} {cs : Array Value} {t : TypeId} {v : Value} {l : List Int} (h : WS w p o cs t v l) (b : Int) (hl : l.length + 1 ≤ 140737488355328) :
    Calls Try.prog 41 #[.pointer (some ⟨p, o, none⟩), .int .u8 b] w fun e w' => e = .returned (.tuple #[]) ∧ PW w w' p o cs t v (l ++ [b]) := by
  have hc := h.cell
  have H : Hid _ := h
  clear h
  go_enter Try.func41, Try.ntmps41
  go_wp2_with (refine wpList_app rfl (.tmp 8) (.tmp 10) rfl (v := v) rfl rfl (H.out.own.alloc _) (src_new _ [b] 1) hl ?_; intro v' w1 hv hch hat; obtain ⟨hc1, hf1, R, a1, c1, hv2⟩ := H.out.after ((Chg.refl _ _).alloc _) hv hch hat; subst hv2; clear hv hch hat)
  refine bodyPost_end (results_none rfl _ _ _) rfl ⟨rfl, ?_⟩
  have R2 := R.out
  rwa [List.length_append] at R2

set_option maxRecDepth 100000 in
set_option maxHeartbeats 1000000 in
theorem wRaw_any {w : World} {p o : Nat} {cs : Array Value} {t : TypeId} {v s : Value} {l m : List Int} (h : WS w p o cs t v l) (hs : Src w s m) (hl : l.length + m.length ≤ 140737488355328) :
    Calls Try.prog 45 #[.pointer (some ⟨p, o, none⟩), s] w fun e w' => e = .returned (.tuple #[]) ∧ PW w w' p o cs t v (l ++ m) := by
  have hc := h.cell
  have H : Hid _ := h
  have HS : Hid _ := hs
  obtain ⟨a0, c0, hs2⟩ := hs.form
  subst hs2
  clear h hs
  go_enter Try.func45, Try.ntmps45
  go_wp2_with (refine wpList_app rfl (.tmp 8) (.tmp 9) rfl (v := v) rfl rfl H.out.own HS.out hl ?_; intro v' w1 hv hch hat; obtain ⟨hc1, hf1, R, a1, c1, hv2⟩ := H.out.after (Chg.refl _ _) hv hch hat; subst hv2; clear hv hch hat)
  refine bodyPost_end (results_none rfl _ _ _) rfl ⟨rfl, ?_⟩
  have R2 := R.out
  rwa [List.length_append] at R2

/-- A word's bytes. -/
def word (n : Int) : List Int := [n / 16777216, n / 65536 % 256, n / 256 % 256, n % 256]

set_option maxRecDepth 100000 in
set_option maxHeartbeats 1000000 in
theorem wWord_any {w : World} {p o : Nat} {cs : Array Value} {t : TypeId} {v : Value} {l : List Int} (h : WS w p o cs t v l) (n : Int) (h0 : 0 ≤ n) (h1 : n < 4294967296) (hl : l.length + 4 ≤ 140737488355328) :
    Calls Try.prog 42 #[.pointer (some ⟨p, o, none⟩), .int .u32 n] w fun e w' => e = .returned (.tuple #[]) ∧ PW w w' p o cs t v (l ++ word n) := by
  have hc := h.cell
  have H : Hid _ := h
  clear h
  go_enter Try.func42, Try.ntmps42
  go_wp2_with (refine wpList_app rfl (.tmp 8) (.tmp 20) rfl (v := v) rfl rfl (H.out.own.alloc _) (src_new _ [_, _, _, _] 4) hl ?_; intro v' w1 hv hch hat; obtain ⟨hc1, hf1, R, a1, c1, hv2⟩ := H.out.after ((Chg.refl _ _).alloc _) hv hch hat; subst hv2; clear hv hch hat)
  refine bodyPost_end (results_none rfl _ _ _) rfl ⟨rfl, ?_⟩
  have R2 := R.out
  rwa [List.length_append] at R2
end Go.Proofs.Ytjmeaebehndheaa

/-
  The walks of a Writer's calls: longs, numbers, texts, sums, addresses.
-/
namespace Go.Proofs.Ytjmeaebehndheaa
open Go.RowKit

/-- A long's bytes. -/
def long (n : Int) : List Int := word (n / 4294967296) ++ word (n % 4294967296)

set_option maxRecDepth 100000 in
set_option maxHeartbeats 1000000 in
theorem wLong_any {w : World} {p o : Nat} {cs : Array Value} {t : TypeId} {v : Value} {l : List Int} (h : WS w p o cs t v l) (n : Int) (h0 : 0 ≤ n) (h1 : n < 18446744073709551616) (hl : l.length + 8 ≤ 140737488355328) :
    Calls Try.prog 43 #[.pointer (some ⟨p, o, none⟩), .int .u64 n] w fun e w' => e = .returned (.tuple #[]) ∧ PW w w' p o cs t v (l ++ long n) := by
  have H : Hid _ := h
  clear h
  go_enter Try.func43, Try.ntmps43
  go_wp2_with fail
  refine (wWord_any H.out _ (by omega) (by omega) (by omega)).mono ?_
  rintro e w1 ⟨rfl, v1, s1, c1, a1⟩
  have H1 : Hid _ := s1
  have C1 : Hid _ := c1
  have A1 : Hid _ := a1
  clear s1 c1 a1
  go_wp2_with fail
  refine (wWord_any H1.out _ (by omega) (by omega) (by simp [word]; omega)).mono ?_
  rintro e w2 ⟨rfl, P2⟩
  have R : Hid _ := PW.then H1.out C1.out A1.out P2
  clear P2
  go_wp2_with fail
  refine bodyPost_end (results_none rfl _ _ _) rfl ⟨rfl, ?_⟩
  have R2 := R.out
  rwa [List.append_assoc] at R2

theorem or128 (k : Nat) : bits .or .u8 ((k : Int) % 256) 128 = ((k % 128 + 128 : Nat) : Int) := by
  have key : ∀ j : Fin 256, bits .or .u8 ((j.val : Nat) : Int) 128 = ((j.val % 128 + 128 : Nat) : Int) := by decide +kernel
  have := key ⟨k % 256, by omega⟩
  simp only at this
  rw [show ((k : Int) % 256) = ((k % 256 : Nat) : Int) by omega, this]
  omega

/-- A number's bytes. -/
def numB (n : Nat) : List Int := if n < 128 then [(n : Int)] else ((n % 128 + 128 : Nat) : Int) :: numB (n / 128)
  termination_by n
theorem numB_lo {n : Nat} (h : n < 128) : numB n = [(n : Int)] := by rw [numB, if_pos h]
theorem numB_hi {n : Nat} (h : 128 ≤ n) : numB n = ((n % 128 + 128 : Nat) : Int) :: numB (n / 128) := by rw [numB, if_neg (by omega)]
theorem numB_len (k : Nat) : ∀ n : Nat, n < 128 ^ (k + 1) → (numB n).length ≤ k + 1 := by
  induction k with
  | zero => intro n h; rw [numB_lo (by simpa using h)]; simp
  | succ k ih =>
    intro n h
    by_cases hn : n < 128
    · rw [numB_lo hn]; simp
    · rw [numB_hi (by omega), List.length_cons]
      have := ih (n / 128) (by rw [Nat.div_lt_iff_lt_mul (by omega), ← Nat.pow_succ]; exact h)
      omega
theorem numB_ten {n : Nat} (h : n < 18446744073709551616) : (numB n).length ≤ 10 := numB_len 9 n (by omega)
theorem numB_pos (n : Nat) : 1 ≤ (numB n).length := by rw [numB]; split <;> simp

set_option maxRecDepth 100000 in
set_option maxHeartbeats 1000000 in
theorem wUint_any {w : World} {p o : Nat} {cs : Array Value} {t : TypeId} {v : Value} {l : List Int} (h : WS w p o cs t v l) (n : Nat) (h1 : n < 18446744073709551616) (hl : l.length + 10 ≤ 140737488355328) :
    Calls Try.prog 44 #[.pointer (some ⟨p, o, none⟩), .int .u64 n] w fun e w' => e = .returned (.tuple #[]) ∧ PW w w' p o cs t v (l ++ numB n) := by
  have H : Hid _ := h
  have hin : cs.setIfInBounds o v = cs := by
    apply Array.ext_getElem?
    intro i
    rw [Array.getElem?_setIfInBounds]
    have := h.at_
    have := (Array.getElem?_eq_some_iff.1 h.at_).1
    split <;> simp_all
  have h10 := numB_ten h1
  clear h
  go_enter Try.func44, Try.ntmps44
  go_wp2_with fail
  go_loopw [1] (fun x wr => ∃ (k : Nat) (done : List Int), x = .int .u64 k ∧ k < 18446744073709551616 ∧ PW w wr p o cs t v (l ++ done) ∧ done ++ numB k = numB n) (fun x _ => (intOf x).toNat)
  case atStart => exact ⟨n, [], rfl, h1, ⟨v, by rw [hin, List.append_nil]; exact H.out, Chg.refl _ _, .inl rfl⟩, rfl⟩
  case round =>
    obtain ⟨k, done, rfl, hk, ⟨v1, s1, c1, a1⟩, hd⟩ := hrel
    have H1 : Hid _ := s1
    have C1 : Hid _ := c1
    have A1 : Hid _ := a1
    have HD : Hid _ := hd
    have hdl : done.length + (numB k).length = (numB n).length := by rw [← hd, List.length_append]
    have hp := numB_pos k
    clear s1 c1 a1 hd
    by_cases hlt : k < 128
    · go_wp2_with fail
      refine (wByte_any H1.out _ (by rw [List.length_append]; omega)).mono ?_
      rintro e w2 ⟨rfl, P2⟩
      have R : Hid _ := PW.then H1.out C1.out A1.out P2
      clear P2
      go_wp2_with fail
      refine bodyPost_end (results_none rfl _ _ _) rfl ⟨rfl, ?_⟩
      have R2 := R.out
      have HD2 := HD.out
      rw [numB_lo hlt] at HD2
      rwa [List.append_assoc, HD2] at R2
    · go_wp2_with fail
      rw [or128]
      have hn2 := numB_hi (n := k) (by omega)
      have hl2 : (numB k).length = (numB (k / 128)).length + 1 := by rw [hn2]; rfl
      have hp2 := numB_pos (k / 128)
      refine (wByte_any H1.out _ (by rw [List.length_append]; omega)).mono ?_
      rintro e w2 ⟨rfl, P2⟩
      have R : Hid _ := PW.then H1.out C1.out A1.out P2
      have N2 : Hid _ := hn2
      clear P2 hn2
      go_wp2_with fail
      go_roundw
      case rel =>
        refine ⟨k / 128, done ++ [((k % 128 + 128 : Nat) : Int)], by go_num, by omega, ?_, ?_⟩
        · have R2 := R.out
          rwa [List.append_assoc] at R2
        · rw [List.append_assoc, List.singleton_append, ← N2.out]; exact HD.out
      case measure => simp [intOf]; omega

set_option maxRecDepth 100000 in
set_option maxHeartbeats 1000000 in
theorem wText_any {w : World} {p o : Nat} {cs : Array Value} {t : TypeId} {v s : Value} {l m : List Int} (h : WS w p o cs t v l) (hs : Src w s m) (hsp : ∀ k, s.ownBlock = some k → k ≠ p ∧ some k ≠ v.ownBlock) (hl : l.length + m.length + 10 ≤ 140737488355328) :
    Calls Try.prog 46 #[.pointer (some ⟨p, o, none⟩), s] w fun e w' => e = .returned (.tuple #[]) ∧ PW w w' p o cs t v (l ++ (numB m.length ++ m)) := by
  have H : Hid _ := h
  have HS : Hid _ := hs
  have h10 := numB_ten (n := m.length) (by omega)
  obtain ⟨a0, c0, hs2⟩ := hs.form
  subst hs2
  clear h hs
  go_enter Try.func46, Try.ntmps46
  go_wp2_with fail
  refine (wUint_any H.out m.length (by omega) (by omega)).mono ?_
  rintro e w1 ⟨rfl, v1, s1, c1, a1⟩
  have S1 : Hid _ := Src.kept HS.out c1 (fun k hk e => by have := hsp k hk; rcases e with e | e; exact this.1 e; exact this.2 e)
  have H1 : Hid _ := s1
  have C1 : Hid _ := c1
  have A1 : Hid _ := a1
  clear s1 c1 a1
  go_wp2_with fail
  refine (wRaw_any H1.out S1.out (by rw [List.length_append]; omega)).mono ?_
  rintro e w2 ⟨rfl, P2⟩
  have R : Hid _ := PW.then H1.out C1.out A1.out P2
  clear P2
  go_wp2_with fail
  refine bodyPost_end (results_none rfl _ _ _) rfl ⟨rfl, ?_⟩
  have R2 := R.out
  rwa [List.append_assoc] at R2

theorem src_blk (w : World) (l : List Int) (t : TypeId) (n c : Nat) (h : l.length = n) : Src (w.alloc (.cells (bs l).toArray t)) (.slice (some ⟨w.heap.size, 0, none⟩) n c) l :=
  .inr ⟨_, _, by rw [h], fun j u hu => ⟨rfl, by
    rw [cell_of_row _ _ _ (bs l).toArray t _ (heap_alloc_new _ _)]
    simpa using hu⟩⟩
theorem WS.alloc {w : World} {p o : Nat} {cs : Array Value} {t : TypeId} {v : Value} {l : List Int} (h : WS w p o cs t v l) (ob : Obj) : WS (w.alloc ob) p o cs t v l :=
  ⟨(Below.heap_alloc w ob p h.lt).trans h.blk, h.at_, h.own.alloc ob, h.ne⟩
theorem PW.alloc {w w' : World} {p o : Nat} {cs : Array Value} {t : TypeId} {v : Value} {l : List Int} {ob : Obj} (h : PW (w.alloc ob) w' p o cs t v l) : PW w w' p o cs t v l := by
  obtain ⟨v1, s1, c1, a1⟩ := h
  exact ⟨v1, s1, ((Chg.refl _ _).alloc ob).trans c1 (fun i e => .inl e), a1.imp id (fun ⟨g, e, hg⟩ => ⟨g, e, by simp at hg; omega⟩)⟩

set_option maxRecDepth 100000 in
set_option maxHeartbeats 1000000 in
theorem wSum_any {w : World} {p o : Nat} {cs : Array Value} {t : TypeId} {v : Value} {l : List Int} (h : WS w p o cs t v l) (z : List Int) (hz : z.length = 32) (hl : l.length + 32 ≤ 140737488355328) :
    Calls Try.prog 47 #[.pointer (some ⟨p, o, none⟩), .agg (bs z).toArray] w fun e w' => e = .returned (.tuple #[]) ∧ PW w w' p o cs t v (l ++ z) := by
  have H : Hid _ := h
  clear h
  go_enter Try.func47, Try.ntmps47
  go_wp2_with fail
  refine (wRaw_any (H.out.alloc _) (src_blk _ z _ 32 32 hz) (by omega)).mono ?_
  rintro e w2 ⟨rfl, P2⟩
  have R : Hid _ := P2.alloc
  clear P2
  go_wp2_with fail
  exact bodyPost_end (results_none rfl _ _ _) rfl ⟨rfl, R.out⟩

theorem Try.sz31 : (Try.prog.info? 31).map (·.size) = some 32 := by kernel_rfl
theorem Try.sz33 : (Try.prog.info? 33).map (·.size) = some 33 := by kernel_rfl

set_option maxRecDepth 100000 in
set_option maxHeartbeats 1000000 in
theorem wAddr_any {w : World} {p o : Nat} {cs : Array Value} {t : TypeId} {v : Value} {l : List Int} (h : WS w p o cs t v l) (z : List Int) (b : Int) (hz : z.length = 32) (hl : l.length + 33 ≤ 140737488355328) :
    Calls Try.prog 48 #[.pointer (some ⟨p, o, none⟩), .agg (bs (z ++ [b])).toArray] w fun e w' => e = .returned (.tuple #[]) ∧ PW w w' p o cs t v (l ++ (z ++ [b])) := by
  have H : Hid _ := h
  have hr : (w.alloc (.cells (bs (z ++ [b])).toArray 33)).rangeAt w.heap.size 0 (bs z) := fun j u hu => by
    rw [cell_of_row _ _ _ (bs (z ++ [b])).toArray 33 _ (heap_alloc_new _ _)]
    have hj := (List.getElem?_eq_some_iff.1 hu).1
    simp [bs_app, List.getElem?_append_left hj, hu]
  have hcb : (w.alloc (.cells (bs (z ++ [b])).toArray 33)).cell? ⟨w.heap.size, 32, none⟩ = some (.int .u8 b) := by
    rw [cell_of_row _ _ _ (bs (z ++ [b])).toArray 33 _ (heap_alloc_new _ _)]
    simp [bs, hz]
  clear h
  go_enter Try.func48, Try.ntmps48
  go_wp2_with (first | (refine wpList_load_mid rfl 31 (.tmp 5) rfl w.heap.size 0 rfl (bs z) _ hr Try.underlying31 rfl (by rw [Try.sz31, bs_len, hz]) ?_) | (go_at_call 47; refine (wSum_any (H.out.alloc _) z hz (by omega)).mono ?_; rintro e w1 ⟨rfl, v1, s1, c1, a1⟩; have H1 : Hid _ := s1; have C1 : Hid _ := c1; have A1 : Hid _ := a1; have hcb1 := c1.cell_some hcb (fun e => by have := H.out.lt; rcases e with e | e; (simp at e; omega); (have := H.out.own.lt e.symm; simp at this)); clear s1 c1 a1))
  refine (wByte_any H1.out b (by rw [List.length_append]; omega)).mono ?_
  rintro e w2 ⟨rfl, P2⟩
  have R : Hid _ := (PW.then H1.out C1.out A1.out P2).alloc
  clear P2
  go_wp2_with fail
  refine bodyPost_end (results_none rfl _ _ _) rfl ⟨rfl, ?_⟩
  have R2 := R.out
  rwa [List.append_assoc] at R2

/-- A slice that was made by a call. -/
def Made (w w' : World) (v : Value) (l : List Int) : Prop := Own w' v l ∧ Below w.heap.size w w' ∧ ∀ k, v.ownBlock = some k → w.heap.size ≤ k

theorem eql_nil1 (w : World) : (binOp .eql 23 (.slice none 0 0) (.slice none 0 0)).run Try.prog w = .ok (.bool true) w := by
  have e : Op.maxDepth = 9999 + 1 := rfl
  simp only [binOp, Op.equal, e]
  unfold Op.equalIn
  simp [run_underlying Try.underlying23]
theorem eql_nil2 (w : World) (a : Addr) (l c : Nat) : (binOp .eql 23 (.slice (some a) l c) (.slice none 0 0)).run Try.prog w = .ok (.bool false) w := by
  have e : Op.maxDepth = 9999 + 1 := rfl
  simp only [binOp, Op.equal, e]
  unfold Op.equalIn
  simp [run_underlying Try.underlying23]
theorem own_empty (w : World) : Own (w.alloc (.cells #[] 5)) (.slice (some ⟨w.heap.size, 0, none⟩) 0 0) [] := World.ownsRow_made w #[] 0 (Nat.zero_le _) (by unfold maxLen; omega) rfl

set_option maxRecDepth 100000 in
set_option maxHeartbeats 1000000 in
theorem clone_any {w : World} {s : Value} {m : List Int} (hs : Src w s m) (hl : m.length ≤ 140737488355328) :
    Calls Try.prog 52 #[s] w fun e w' => ∃ v, e = .returned v ∧ Made w w' v m := by
  have he1 := eql_nil1
  have he2 := eql_nil2
  rcases hs with ⟨rfl, rfl⟩ | ⟨a, c, rfl, hc⟩
  · go_enter Try.func52, Try.ntmps52
    go_wp2_with fail
    go_ret
    exact ⟨_, rfl, Own.nil w, Below.refl _ _, fun k hk => by simp [Value.ownBlock] at hk⟩
  · have HS : Hid _ := (show Src w (.slice (some a) m.length c) m from .inr ⟨a, c, rfl, hc⟩)
    clear hc
    go_enter Try.func52, Try.ntmps52
    go_wp2_with (refine wpList_app rfl (.tmp 5) (.tmp 6) rfl (v := .slice (some ⟨w.heap.size, 0, none⟩) 0 0) rfl rfl (own_empty w) (Src.kept HS.out ((Chg.refl (fun _ => False) _).alloc _) (fun _ _ h => h)) (by simpa using hl) ?_; intro v' w1 hv hch hat)
    go_ret
    refine ⟨_, rfl, hv, ?_, fun k hk => ?_⟩
    · exact (((Chg.refl (fun _ => False) _).alloc _).trans hch (fun i e => .inr (by simp [Value.ownBlock] at e; omega))).below (Nat.le_refl _) (fun _ h => h.elim)
    · have hk : v'.ownBlock = some k := hk
      rcases hat with e | e <;> rw [hk] at e <;> simp [Value.ownBlock] at e <;> omega

set_option maxRecDepth 100000 in
set_option maxHeartbeats 1000000 in
theorem wBytes_any {w : World} {p o : Nat} {cs : Array Value} {t : TypeId} {v : Value} {l : List Int} (h : WS w p o cs t v l) (hl : l.length ≤ 140737488355328) :
    Calls Try.prog 13 #[.pointer (some ⟨p, o, none⟩)] w fun e w' => ∃ u, e = .returned u ∧ Made w w' u l := by
  have hc := h.cell
  have H : Hid _ := h.own.src
  clear h
  go_enter Try.func13, Try.ntmps13
  go_wp2_with fail
  refine (clone_any H.out hl).mono ?_
  rintro e w1 ⟨u, rfl, R⟩
  have R1 : Hid _ := R
  clear R
  go_wp2_with fail
  go_ret
  exact ⟨u, rfl, R1.out⟩

set_option maxRecDepth 100000 in
set_option maxHeartbeats 1000000 in
theorem wLen_any {w : World} {p o : Nat} {cs : Array Value} {t : TypeId} {v : Value} {l : List Int} (h : WS w p o cs t v l) :
    Calls Try.prog 14 #[.pointer (some ⟨p, o, none⟩)] w fun e w' => e = .returned (.int .i64 l.length) ∧ w' = w := by
  obtain ⟨a, c, hv⟩ := h.own.form
  have hc := h.cell
  subst hv
  clear h
  go_enter Try.func14, Try.ntmps14
  go_wp2_with fail
  go_ret
  exact ⟨rfl, rfl⟩
end Go.Proofs.Ytjmeaebehndheaa
