/-
  A crash that keeps nothing.
-/
import Derived.Test.YtjliibiohgcaeaaFlush
import Derived.Test.YtjliibiohgcaeaaFlushN
namespace Go.Proofs.Ytjliibiohgcaeaa
open Go.RowKit Go.RwLone

set_option maxRecDepth 100000 in
set_option maxHeartbeats 1000000 in
theorem apply_none {w : World} {p : Nat} (s : Int) (a : Option Addr) (c : Nat) :
    Calls Try.prog 42 #[.pointer (some ⟨p, 0, none⟩), .int .i64 s, .slice a 0 c] w fun e w' => e = .returned (.tuple #[]) ∧ w = w' := by
  go_enter Try.func42, Try.ntmps42
  go_wp2_with fail
  go_end0
  exact ⟨rfl, rfl⟩

set_option maxRecDepth 100000 in
set_option maxHeartbeats 1000000 in
theorem kept_none {w : World} {p : Nat} (n : Nat) (at_ : Int) (_hn : n ≤ 4611686018427387904) :
    Calls Try.prog 43 #[.pointer (some ⟨p, 0, none⟩), .agg #[.slice none 0 0, .int .i64 (-1), .int .i64 at_], .int .i64 n] w fun e w' => e = .returned (.int .i64 0) ∧ Chg (fun _ => False) w w' := by
  have h1 : ((n : Int) == -1) = false := by simp
  have h2 : ¬ ((n : Int) < 0) := by omega
  go_enter Try.func43, Try.ntmps43
  go_wp2_with fail
  go_ret
  exact ⟨rfl, (Chg.refl _ _).alloc _⟩

theorem wcells_get (z : Nat) : ∀ (l : List (Nat × Nat)) (i : Nat) (y : Nat × Nat), l[i]? = some y → (wcells z l)[i * 2]? = some (.int .i64 y.1) ∧ (wcells z l)[i * 2 + 1]? = some (.slice (some ⟨y.2, 0, none⟩) z z)
  | [], i, y, h => by simp at h
  | x :: l, 0, y, h => by
    simp at h
    subst h
    exact ⟨rfl, rfl⟩
  | x :: l, i + 1, y, h => by
    have := wcells_get z l i y (by simpa using h)
    have e : (i + 1) * 2 = i * 2 + 2 := by omega
    rw [e]
    exact this

/-- While Crash ranges over the cache: nothing turns but its own memory. -/
structure CR (w2 wr : World) (c I kc : Nat) (D : DataW Unit) (left : Lit → Bool) (cnt : Nat) : Prop where
  rg : wr.ranges Try.prog 3 anyElem c I kc D left cnt
  bl : Below I w2 wr
  sub : ∀ kl, left kl = true → Maps.has D kl = true

theorem CR.more {w2 wr wn : World} {c I kc : Nat} {D : DataW Unit} {left : Lit → Bool} {cnt : Nat} (h : CR w2 wr c I kc D left cnt) (k : Chg (fun _ => False) wr wn) (hI : I ≤ wr.heap.size) : CR w2 wn c I kc D left cnt :=
  ⟨h.rg.kept (row := none) ⟨k.os, k.tape, k.output, k.size, fun i hi _ => k.block i hi (fun h => h)⟩ (by simp) (by simp), h.bl.trans (k.below hI (fun _ h => h.elim)), h.sub⟩

set_option maxRecDepth 100000 in
set_option maxHeartbeats 4000000 in
theorem DD.crash_none {w : World} {p m c S z kc km b : Nat} {x : Nums} {L : Nat → List (Nat × Nat)} {V : Nat → Value} {D : DataW Unit} {K : Nat → Option Nat} {E : DataW Unit} (h : DD w p m c S z kc km b x L V D K E) (_hS : S ≤ 65536) (hb : b ≤ 4398046511104) (at_ : Int) :
    Calls Try.prog 22 #[.pointer (some ⟨p, 0, none⟩), .agg #[.slice none 0 0, .int .i64 (-1), .int .i64 at_]] w fun e w' => e = .returned (.tuple #[]) ∧ Chg (fun i => i = p) w w' ∧
      ∃ c' era, w.heap.size ≤ c' ∧ DD w' p m c' S z 0 km b { x with pend := 0, fuse := -1, off := false, era := era } (fun _ => []) (fun _ => .slice none 0 0) (.map []) K E := by
  obtain ⟨w0, hw0⟩ : ∃ w0, w0 = w.alloc (.cells #[.slice none 0 0, .int .i64 (-1), .int .i64 at_] 54) := ⟨_, rfl⟩
  have hd0 : DD w0 p m c S z kc km b x L V D K E := by rw [hw0]; exact h.more ((Chg.refl _ _).alloc _)
  have X0 : Hid (Rw w0 w.heap.size #[.slice none 0 0, .int .i64 (-1), .int .i64 at_] 54) := by rw [hw0]; exact ⟨heap_alloc_new _ _⟩
  have C0 : Hid (Chg (fun i => i = p) w w0) := by rw [hw0]; exact (Chg.refl _ _).alloc _
  have r0 := hd0.row
  have c2 : w0.cell? ⟨p, 2, none⟩ = some (.int .i32 0) := Rw.cell r0 2
  have c4 : w0.cell? ⟨p, 4, none⟩ = some (.int .u32 0) := Rw.cell r0 4
  have c5 : w0.cell? ⟨p, 5, none⟩ = some (.int .u32 0) := Rw.cell r0 5
  have c6 : w0.cell? ⟨p, 6, none⟩ = some (.int .i32 0) := Rw.cell r0 6
  have f6 := Rw.fr r0 6
  have f2 := Rw.fr r0 2
  have H : Hid _ := hd0
  have HN : Hid (∀ t y, y ∈ L t → y.1 ≤ 4611686018427387904) := fun t y hy => by have := hd0.nm t y hy; omega
  have HW0 : Hid _ := hw0
  have hXp : w.heap.size ≠ p := fun e => by have := h.row.lt; omega
  clear h hd0 r0 hw0
  go_enter_defers Try.func22, Try.ntmps22
  go_wp2_with fail
  rw [← HW0.out]
  refine (wlock_free Try.rwWLib p 2 _ _ _ c2 c4 c5 c6 f2 f6).mono ?_
  rintro e w' ⟨rfl, rfl⟩
  have R1 : Rw ((w0.setCell ⟨p, 2, none⟩ (.int .i32 1)).setCell ⟨p, 6, none⟩ (.int .i32 (-1073741824))) p (heldG S z m c x) 87 := Rw.two H.out.row 2 6 (.int .i32 1) (.int .i32 (-1073741824))
  obtain ⟨w2, hw2⟩ : ∃ w2, w2 = (w0.setCell ⟨p, 2, none⟩ (.int .i32 1)).setCell ⟨p, 6, none⟩ (.int .i32 (-1073741824)) := ⟨_, rfl⟩
  rw [← hw2] at R1
  have e1 : (w0.setCell ⟨p, 2, none⟩ (.int .i32 1)).setCell ⟨p, 2 + 4, none⟩ (.int .i32 (-1073741824)) = w2 := hw2.symm
  rw [e1]
  have C2 : Hid (Chg (fun i => i = p) w0 w2) := by rw [hw2]; exact ((Chg.refl (fun i => i = p) w0).setCell (.inl rfl) _).setCell (.inl rfl) _
  have R2 : Hid _ := R1
  have X2 : Hid _ := Rw.chg1 X0.out C2.out hXp
  have d9 : w2.cell? ⟨p, 9, none⟩ = some (.map (some c)) := Rw.cell R1 9
  have CA2 : Hid (Ca w2 c kc z L V D) := H.out.ca.kept (grown_of C2.out) (fun e => H.out.cp (by injection e)) (fun t g hg e => H.out.vp t (by rw [hg, e]))
  clear c2 c4 c5 c6 f2 f6 R1 hw2 e1 HW0 X0
  go_wp2_with (first | (at_range; refine wpList_range_own _ rfl (.tmp 18) 82 rfl 3 91 keyed3 Try.underlying82 anyElem c kc D rfl CA2.out.own ?_; intro w3 hrg0 hg0 hs0; have RG0 : Hid _ := hrg0; have HG0 : Hid _ := hg0; have HS0 : Hid _ := hs0; clear hrg0 hg0 hs0) | go_in)
  try go_frame
  have hb0 : Below w2.heap.size w2 w3 := ⟨HG0.out.os, HG0.out.tape, HG0.out.output, HG0.out.size, fun k hk => HG0.out.block k hk (by simp)⟩
  have K0 : Hid (CR w2 w3 c w2.heap.size kc D (Maps.has D) (Maps.size D)) := ⟨RG0.out, hb0, fun _ h => h⟩
  have hXI : w.heap.size < w2.heap.size := X2.out.lt
  have hpI : p < w2.heap.size := R2.out.lt
  have hIv : Hid (∀ s g, (V s).ownBlock = some g → g < w2.heap.size) := fun s g hg => CA2.out.blt s g hg
  obtain ⟨I, hII⟩ : ∃ I, I = w2.heap.size := ⟨_, rfl⟩
  have hI2 : w2.heap.size ≤ I := by omega
  rw [← hII] at K0 hXI hpI hIv ⊢
  clear hb0 RG0 HG0 HS0 d9 hII
  go_loopw [4] (fun _ wr => ∃ left cnt, CR w2 wr c I kc D left cnt) (fun _ wr => wr.rangeLeft c I)
  case atStart => exact ⟨_, _, K0.out⟩
  case round =>
    obtain ⟨left, cnt, hfi⟩ := hrel
    have HI : Hid _ := hfi
    clear hfi K0
    go_wp2_with (first | (at_next; refine wpList_next_ranges _ rfl (.tmp 19) rfl 3 keyed3 anyElem (Value.int .i64) mkA (fun key kl hkey => by obtain ⟨x, rfl, _⟩ := Maps.keyOf_int_inv Try.underlying3 hkey; exact ⟨x, rfl⟩) mkA_inv c I kc D left cnt rfl HI.out.rg ?_ ?_) | go_in)
    · intro _ hl0
      clear hl0
      have rr : Rw wr p (heldG S z m c x) 87 := ⟨(HI.out.bl.block _ hpI).trans R2.out.eq⟩
      have RR : Hid _ := rr
      have EN : Hid _ := empty_new rr _ _ rfl rfl
      clear rr
      go_wp2_with fail
      refine Calls.mono EN.out ?_
      rintro e w4 ⟨rfl, r4, ch4, hm4⟩
      have k11 : w4.cell? ⟨p, 11, none⟩ = some (.int .i64 x.fuse) := r4.cell 11
      have f11 := r4.fr 11
      have r5 := r4.set 11 (.int .i64 (-1))
      have k12 : (w4.setCell ⟨p, 11, none⟩ (.int .i64 (-1))).cell? ⟨p, 12, none⟩ = some (.bool x.off) := r5.cell 12
      have f12 := r5.fr 12
      have r6 := r5.set 12 (.bool false)
      have k13 : ((w4.setCell ⟨p, 11, none⟩ (.int .i64 (-1))).setCell ⟨p, 12, none⟩ (.bool false)).cell? ⟨p, 13, none⟩ = some (.int .i64 x.era) := r6.cell 13
      have f13 := r6.fr 13
      have R6 : Hid _ := r6
      have C4 : Hid _ := ch4
      have M4 : Hid _ := hm4
      clear r4 r5 r6 ch4 hm4 EN
      go_wp2_with fail
      obtain ⟨w7, hw7⟩ : ∃ w7, w7 = (((w4.setCell ⟨p, 11, none⟩ (.int .i64 (-1))).setCell ⟨p, 12, none⟩ (.bool false)).setCell ⟨p, 13, none⟩ (.int .i64 (wrap64 (x.era + 1)))) := ⟨_, rfl⟩
      rw [← hw7]
      have r7 : Rw w7 p (heldG S z m wr.heap.size { x with pend := 0, fuse := -1, off := false, era := wrap64 (x.era + 1) }) 87 := by rw [hw7]; exact R6.out.set 13 (.int .i64 (wrap64 (x.era + 1)))
      have ch7 : Chg (fun i => i = p) w4 w7 := by rw [hw7]; exact (((Chg.refl (fun i => i = p) w4).setCell (.inl rfl) _).setCell (.inl rfl) _).setCell (.inl rfl) _
      have hrp : wr.heap.size ≠ p := fun e => by have := RR.out.lt; omega
      have hm7 : w7.heap[wr.heap.size]? = some (.map #[] 0) := ch7.heap_some M4.out hrp
      have R7 : Hid _ := r7
      have C7 : Hid (Chg (fun i => i = p) wr w7) := C4.out.trans ch7 (fun _ e => .inl e)
      have M7 : Hid _ := hm7
      clear k11 k12 k13 f11 f12 f13 hw7 r7 ch7 hm7 R6 M4 C4
      refine leaves_cons (f := 39) (args := #[.pointer (some ⟨p, 2, none⟩)]) (by simp) (by simp [go_sem]) ?_
      refine (wunlock_deferred Try.rwWLib p 2 _ _ .returning _ (Rw.cell R7.out 2) (Rw.cell R7.out 4) (Rw.cell R7.out 5) (Rw.cell R7.out 6) (Rw.fr R7.out 2) (Rw.fr R7.out 6)).mono ?_
      rintro e u' w'' ⟨rfl, rfl, rfl⟩
      have ch9 : Chg (fun i => i = p) wr ((w7.setCell ⟨p, 2 + 4, none⟩ (.int .i32 0)).setCell ⟨p, 2, none⟩ (.int .i32 0)) := (C7.out.setCell (.inl rfl) _).setCell (.inl rfl) _
      have hm9 : ((w7.setCell ⟨p, 2 + 4, none⟩ (.int .i32 0)).setCell ⟨p, 2, none⟩ (.int .i32 0)).heap[wr.heap.size]? = some (.map #[] 0) := by
        rw [heap_set_ne _ _ _ _ hrp, heap_set_ne _ _ _ _ hrp]; exact M7.out
      have r9 : Rw ((w7.setCell ⟨p, 2 + 4, none⟩ (.int .i32 0)).setCell ⟨p, 2, none⟩ (.int .i32 0)) p (dkG S z m wr.heap.size { x with pend := 0, fuse := -1, off := false, era := wrap64 (x.era + 1) }) 87 := Rw.two R7.out 6 2 (.int .i32 0) (.int .i32 0)
      obtain ⟨w9, hw9⟩ : ∃ w9, w9 = (w7.setCell ⟨p, 2 + 4, none⟩ (.int .i32 0)).setCell ⟨p, 2, none⟩ (.int .i32 0) := ⟨_, rfl⟩
      rw [← hw9] at ch9 hm9 r9 ⊢
      clear hw9
      have ca9 : Chg (fun i => i = p) w0 w9 := (C2.out.trans (Chg.of_below (HI.out.bl.mono hI2) (fun _ => False)) (fun _ h => h.elim)).trans ch9 (fun _ e => .inl e)
      have hmlt : m < wr.heap.size := by
        obtain ⟨es, cl, hm⟩ := H.out.du.map
        have h1 := (Array.getElem?_eq_some_iff.1 hm).1
        have h2 := C2.out.size
        have h3 := HI.out.bl.size
        omega
      have hkk := H.out.kk
      have hdu : Du w9 m km z K E := H.out.du.kept (grown_of ca9) (fun e => H.out.mp (by injection e))
      have hkb : ∀ t g, K t = some g → Bt w9 z g := fun t g hg => (H.out.kb t g hg).chg ca9 ((H.out.kb t g hg).ne H.out.row (by decide))
      have hdd : DD w9 p m wr.heap.size S z 0 km b { x with pend := 0, fuse := -1, off := false, era := wrap64 (x.era + 1) } (fun _ => []) (fun _ => .slice none 0 0) (.map []) K E :=
        ⟨r9, Ca.none hm9, hdu, by omega, fun t y hy => (by cases hy), hkb, fun t ht => absurd rfl ht, ⟨0, rfl, Nat.zero_le _⟩, fun t => Nat.zero_le _, (by omega), fun t y hy => (by cases hy)⟩
      exact ⟨_, results_none rfl _ _ _, rfl, C0.out.trans ca9 (fun _ e => .inl e), _, _, Nat.le_trans C0.out.size (Nat.le_trans C2.out.size HI.out.bl.size), hdd⟩
    · intro x0 e0 kl y1 y2 wn cnt1 hkey hlk hv hat hrg1 hlt hg1 hs1 hen
      obtain ⟨s, hkl, hLs⟩ := (H.out.ca.has kl).1 (HI.out.sub kl hlk)
      obtain ⟨x', ex, ekl, _⟩ := Maps.keyOf_int_inv Try.underlying3 hkey
      rw [hkl] at ekl
      injection ekl with _ ekl
      injection ex with _ ex
      have hxi : x0 = (s : Int) := by omega
      have hy1 : y1 = enc (V s) := by rw [← hat .nil, hkl]; exact H.out.ca.at_ s
      have hv' : anyElem (mkA e0) = some (enc (V s), y2) := by rw [← hy1]; exact hv
      have hE := anyElem_inv (H.out.ca.flat s) hv'
      rw [hE, hxi] at hen
      rw [hE, hxi]
      have hsS := H.out.low s hLs
      obtain ⟨n, hn⟩ : ∃ n, n = (L s).length := ⟨_, rfl⟩
      have hnb : n ≤ 4398046511104 := by rw [hn]; exact Nat.le_trans (H.out.ll s) hb
      rcases (CA2.out.row s).2 with ⟨e, h0⟩ | ⟨g, cap, cur, e, _, hgg, h1, h2, h3, h4⟩
      · exact absurd (List.eq_nil_of_length_eq_zero h0) hLs
      · rw [← hn] at e
        rw [e] at hen ⊢
        have hgI : g < I := hIv.out s g (by rw [e]; rfl)
        have hch1 : Chg (fun k => k = I) wr wn := ⟨hg1.os, hg1.tape, hg1.output, hg1.size, fun k hk hn => hg1.block k hk (by simpa using hn)⟩
        have hIr : I < wr.heap.size := HI.out.rg.lt
        have cr1 : CR w2 wn c I kc D (fun y => left y && !y.sameKey kl) cnt1 := ⟨hrg1, HI.out.bl.trans (hch1.below (by omega) (fun k e => by omega)), fun kl2 h => HI.out.sub kl2 (by simp at h; exact h.1)⟩
        have CELL : Hid (∀ (wq : World), Below I w2 wq → ∀ i y, (L s)[i]? = some y → wq.cell? ⟨g, i * 2, none⟩ = some (.int .i64 y.1) ∧ wq.cell? ⟨g, i * 2 + 1, none⟩ = some (.slice (some ⟨y.2, 0, none⟩) z z)) := fun wq hbq i y hy => by
          obtain ⟨a1, a2⟩ := wcells_get z (L s) i y hy
          have hq : wq.heap[g]? = w2.heap[g]? := hbq.block g hgI
          have hr := CA2.out.row s
          have b1 := World.ownsRow.cells hr (g := g) (by rw [e]; rfl) (i * 2) _ a1
          have b2 := World.ownsRow.cells hr (g := g) (by rw [e]; rfl) (i * 2 + 1) _ a2
          rw [addr_add, Nat.zero_add] at b1 b2
          exact ⟨(World.cell?_of_block (a := ⟨g, i * 2, none⟩) hq).trans b1, (World.cell?_of_block (a := ⟨g, i * 2 + 1, none⟩) hq).trans b2⟩
        have HIr : Hid (I < wn.heap.size) := by show I < wn.heap.size; rw [hs1]; exact hIr
        have CR1 : Hid _ := cr1
        have HLT : Hid _ := hlt
        have HNN : Hid _ := hn
        clear hat hv hkey hlk hrg1 hlt hg1 hs1 cr1 hch1 ekl ex hkl hxi hE hv' hy1 hgg h1 h2 h3 h4 e hn hIr
        go_wp2_with fail
        go_loopg [27] (n + 1) (fun gk si wq => ∃ i : Nat, si = .int .i64 i ∧ i ≤ n ∧ n < gk + i ∧ Hid (I < wq.heap.size ∧ CR w2 wq c I kc D (fun y => left y && !y.sameKey kl) cnt1))
        case atStart => exact ⟨0, rfl, by omega, by omega, HIr.out, CR1.out⟩
        case round =>
          obtain ⟨i, rfl, hi, hgk, hid⟩ := hrel
          obtain ⟨hIq, hcr⟩ := hid.out
          clear hid
          by_cases hin : i = n
          · subst hin
            have CRq : Hid _ := hcr
            clear hcr
            go_wp2_with fail
            go_roundw
            case rel => exact ⟨_, _, CRq.out⟩
            case measure => rw [CRq.out.rg.left_eq, HI.out.rg.left_eq]; exact HLT.out
          · have hil : (i : Int) < (n : Int) := by omega
            obtain ⟨y, hy⟩ : ∃ y, (L s)[i]? = some y := ⟨(L s)[i]'(by have := HNN.out; omega), List.getElem?_eq_getElem _⟩
            obtain ⟨a1, a2⟩ := CELL.out wr hcr.bl i y hy
            have hyn := HN.out s y (List.mem_of_getElem? hy)
            obtain ⟨yn, yb⟩ := y
            simp only at a1 a2 hyn
            obtain ⟨w4, hw4⟩ : ∃ w4, w4 = wr.alloc (.cells #[.int .i64 yn, .slice (some ⟨yb, 0, none⟩) z z] 93) := ⟨_, rfl⟩
            have ch4 : Chg (fun _ => False) wr w4 := by rw [hw4]; exact (Chg.refl _ _).alloc _
            have q4 : Rw w4 wr.heap.size #[.int .i64 yn, .slice (some ⟨yb, 0, none⟩) z z] 93 := by rw [hw4]; exact ⟨heap_alloc_new _ _⟩
            obtain ⟨Q, hQ⟩ : ∃ Q, Q = wr.heap.size := ⟨_, rfl⟩
            have x4 : Rw w4 w.heap.size #[.slice none 0 0, .int .i64 (-1), .int .i64 at_] 54 := by
              have hx : Rw wr w.heap.size #[.slice none 0 0, .int .i64 (-1), .int .i64 at_] 54 := ⟨(hcr.bl.block _ hXI).trans X2.out.eq⟩
              exact ⟨ch4.heap_some hx.eq (fun h => h)⟩
            have cr4 := hcr.more ch4 (by omega)
            rw [← hQ] at q4
            have Q4 : Hid _ := q4
            have X4 : Hid _ := x4
            have CR4 : Hid _ := cr4
            have W4 : Hid _ := hw4
            have HQ : Hid _ := hQ
            have CH4 : Hid _ := ch4
            have SS : Hid (w4.cell? ⟨Q, 0, none⟩ = some (.int .i64 yn) ∧ w4.cell? ⟨Q, 1, none⟩ = some (.slice (some ⟨yb, 0, none⟩) z z) ∧ w4.cell? ⟨w.heap.size, 0, none⟩ = some (.slice none 0 0) ∧ w4.cell? ⟨w.heap.size, 1, none⟩ = some (.int .i64 (-1)) ∧ w4.cell? ⟨w.heap.size, 2, none⟩ = some (.int .i64 at_)) := ⟨q4.cell 0, q4.cell 1, x4.cell 0, x4.cell 1, x4.cell 2⟩
            have KP : Hid _ := kept_none (w := w4.drew) (p := p) yn at_ hyn
            clear q4 x4 cr4 hw4 hQ ch4 hcr hy
            go_upto_region 9 with fail
            rw [← W4.out, ← HQ.out]
            refine wp_region_noPanic ?_
            refine wp_region_held_drew (S := fun w' => w'.cell? ⟨Q, 0, none⟩ = some (.int .i64 yn) ∧ w'.cell? ⟨Q, 1, none⟩ = some (.slice (some ⟨yb, 0, none⟩) z z) ∧ w'.cell? ⟨w.heap.size, 0, none⟩ = some (.slice none 0 0) ∧ w'.cell? ⟨w.heap.size, 1, none⟩ = some (.int .i64 (-1)) ∧ w'.cell? ⟨w.heap.size, 2, none⟩ = some (.int .i64 at_)) (by kernel_rfl) SS.out (fun hH => ?_)
            refine wpAnyH_take (i := 0) (v := .pointer (some ⟨p, 0, none⟩)) rfl (by kernel_rfl) (by kernel_rfl) (by kernel_rfl) (fun _ _ _ h => h) (Or.inl ⟨by rfl, fun w' hw' => by go_simp⟩) hH ?_
            refine wpAnyH_take (i := 1) (v := .int .i64 s) rfl (by kernel_rfl) (by kernel_rfl) (by kernel_rfl) (fun _ _ _ h => h) (Or.inl ⟨by rfl, fun w' hw' => by go_simp⟩) hH ?_
            refine wpAnyH_take (i := 2) (v := .pointer (some ⟨Q, 1, none⟩)) rfl (by kernel_rfl) (by kernel_rfl) (by kernel_rfl) (fun _ _ _ h => h) (Or.inl ⟨by rfl, fun w' hw' => by go_simp⟩) hH ?_
            refine wpAnyH_take (i := 3) (v := .slice (some ⟨yb, 0, none⟩) z z) rfl (by kernel_rfl) (by kernel_rfl) (by kernel_rfl) (fun _ _ _ h => h) (Or.inl ⟨by rfl, fun w' hw' => by have q1 := hw'.2.1; go_simp⟩) hH ?_
            refine wpAnyH_take (i := 4) (v := .pointer (some ⟨p, 0, none⟩)) rfl (by kernel_rfl) (by kernel_rfl) (by kernel_rfl) (fun _ _ _ h => h) (Or.inl ⟨by rfl, fun w' hw' => by go_simp⟩) hH ?_
            refine wpAnyH_take (i := 5) (v := .agg #[.slice none 0 0, .int .i64 (-1), .int .i64 at_]) rfl (by kernel_rfl) (by kernel_rfl) (by kernel_rfl) (fun _ _ _ h => h) (Or.inl ⟨by rfl, fun w' hw' => by have q1 := hw'.2.2.1; have q2 := hw'.2.2.2.1; have q3 := hw'.2.2.2.2; go_simp⟩) hH ?_
            refine wpAnyH_take (i := 6) (v := .pointer (some ⟨Q, 0, none⟩)) rfl (by kernel_rfl) (by kernel_rfl) (by kernel_rfl) (fun _ _ _ h => h) (Or.inl ⟨by rfl, fun w' hw' => by go_simp⟩) hH ?_
            refine wpAnyH_take (i := 7) (v := .int .i64 yn) rfl (by kernel_rfl) (by kernel_rfl) (by kernel_rfl) (fun _ _ _ h => h) (Or.inl ⟨by rfl, fun w' hw' => by have q1 := hw'.1; go_simp⟩) hH ?_
            refine wpAnyH_ready (rs := [8]) (by kernel_rfl) (by simp) ?_
            refine AllReadyH.cons rfl (fun K hK => ?_) AllReadyH.nil
            go_simp
            refine Calls.mono KP.out ?_
            rintro e w5 ⟨rfl, ch5⟩
            have hk5 : ∀ a v, w4.cell? a = some v → w5.cell? a = some v := fun a v ha => ch5.cell_some (a := a) ha (fun h => h)
            refine hK.out _ _ ⟨hk5 _ _ SS.out.1, hk5 _ _ SS.out.2.1, hk5 _ _ SS.out.2.2.1, hk5 _ _ SS.out.2.2.2.1, hk5 _ _ SS.out.2.2.2.2⟩ (fun h1 => ?_)
            clear hK K
            refine wpAnyH_take (i := 9) (v := .slice (some ⟨yb, 0, none⟩) 0 z) rfl (by kernel_rfl) (by kernel_rfl) (by kernel_rfl) (fun _ _ _ h => h) (Or.inl ⟨by rfl, fun w' hw' => by go_simp⟩) h1 ?_
            refine wpAnyH_ready (rs := [10]) (by kernel_rfl) (by simp) ?_
            refine AllReadyH.cons rfl (fun K hK => ?_) AllReadyH.nil
            go_simp
            refine Calls.mono (apply_none (w := w5) (p := p) s (some ⟨yb, 0, none⟩) z) ?_
            rintro e w6 ⟨rfl, h6⟩
            subst h6
            refine hK.out _ _ h1 (fun _ => ?_)
            clear hK K
            refine wpAnyH_done (by kernel_rfl) (NoPanic.normal ?_) _
            have cr5 := CR4.out.more (⟨ch5.os, ch5.tape, ch5.output, ch5.size, ch5.block⟩ : Chg (fun _ => False) w4 w5) (by have := CH4.out.size; omega)
            have CR5 : Hid _ := cr5
            have HI5 : Hid (I < w5.heap.size) := by show I < w5.heap.size; have := CH4.out.size; have h9 : w4.heap.size ≤ w5.heap.size := ch5.size; omega
            clear cr5 ch5 hk5 h1 hH a1 a2 SS KP X4 Q4 CR4 W4 HQ CH4
            go_wp2_with fail
            go_roundg (n - i)
            case measure => omega
            case rel => exact ⟨i + 1, by go_num, by omega, by omega, HI5.out, CR5.out⟩
end Go.Proofs.Ytjliibiohgcaeaa
