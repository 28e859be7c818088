/-
  Flush over both maps.
-/
import Derived.Test.YtddnecfnjnipjaaDD
import Derived.Test.YtddnecfnjnipjaaLoadE
import Derived.Deep.RegionWith
namespace Go.Proofs.Ytddnecfnjnipjaa
open Go.RowKit Go.RwLone

def mkA : Option (Nat × Nat × Nat) → Value
  | none => .slice none 0 0
  | some (g, n, c) => .slice (some ⟨g, 0, none⟩) n c
theorem mkA_inv (v : Value) (y : DataW Unit × List MemPlace) (h : anyElem v = some y) : ∃ c, v = mkA c := by
  unfold anyElem at h
  split at h
  · exact ⟨none, rfl⟩
  · rename_i g n c
    exact ⟨some (g, n, c), rfl⟩
  · cases h

/-- What is durable of a sector behind a flush. -/
def lastK (l : List (Nat × Nat)) (k : Option Nat) : Option Nat :=
  match l.getLast? with
  | some y => some y.2
  | none => k
theorem lastK_nil (k : Option Nat) : lastK [] k = k := rfl
theorem lastK_ne {l : List (Nat × Nat)} (h : l ≠ []) (k : Option Nat) : ∃ y ∈ l, lastK l k = some y.2 ∧ ∀ z, latV z l k = .slice (some ⟨y.2, 0, none⟩) z z := by
  have hh := List.getLast?_eq_some_getLast h
  exact ⟨l.getLast h, List.getLast_mem h, by unfold lastK; rw [hh], fun z => by unfold latV; rw [hh]⟩

set_option maxRecDepth 100000 in
set_option maxHeartbeats 1000000 in
theorem empty_new {w : World} {p : Nat} {cs : Array Value} (h : Rw w p cs 86) (x9 x10 : Value) (h9 : cs[9]? = some x9) (h10 : cs[10]? = some x10) :
    Calls Try.prog 43 #[.pointer (some ⟨p, 0, none⟩)] w fun e w' => e = .returned (.tuple #[]) ∧ Rw w' p ((cs.setIfInBounds 9 (.map (some w.heap.size))).setIfInBounds 10 (.int .i64 0)) 86 ∧ Chg (fun k => k = p) w w' ∧ w'.heap[w.heap.size]? = some (.map #[] 0) := by
  have hmm := @run_makeMap Try.prog
  have b1 : Below w.heap.size w (w.alloc (.map #[] 0)) := (Below.refl _ _).alloc (Nat.le_refl _) _
  have r1 := Rw.keep h b1
  have r2 := Rw.set r1 9 (.map (some w.heap.size))
  have r3 := Rw.set r2 10 (.int .i64 0)
  have k9 : (w.alloc (.map #[] 0)).cell? ⟨p, 9, none⟩ = some x9 := (Rw.cell r1 9).trans h9
  have f9 := Rw.fr r1 9
  have k10 : ((w.alloc (.map #[] 0)).setCell ⟨p, 9, none⟩ (.map (some w.heap.size))).cell? ⟨p, 10, none⟩ = some x10 := by
    rw [Rw.cell r2 10, Array.getElem?_setIfInBounds_ne (by decide)]; exact h10
  have f10 := Rw.fr r2 10
  have R3 : Hid _ := r3
  have hn : w.heap.size ≠ p := fun e => by have := h.lt; omega
  have HM : Hid ((((w.alloc (.map #[] 0)).setCell ⟨p, 9, none⟩ (.map (some w.heap.size))).setCell ⟨p, 10, none⟩ (.int .i64 0)).heap[w.heap.size]? = some (.map #[] 0)) := by
    show _ = _
    rw [heap_set_ne _ _ _ _ hn, heap_set_ne _ _ _ _ hn]
    exact heap_alloc_new _ _
  clear h r1 r2 r3 b1
  go_enter Try.func43, Try.ntmps43
  go_wp2_with fail
  exact bodyPost_end (results_none rfl _ _ _) rfl ⟨rfl, R3.out, (((Chg.refl (fun k => k = p) w).alloc _).setCell (.inl rfl) _).setCell (.inl rfl) _, HM.out⟩

/-- While Flush ranges over the cache. -/
structure FI (w wr : World) (p m c S z I kc kb : Nat) (x : Nums) (L : Nat → List (Nat × Nat)) (V : Nat → Value) (D : DataW Unit) (K : Nat → Option Nat) (left : Lit → Bool) (cnt : Nat) : Prop where
  rg : wr.ranges Try.prog 3 anyElem c I kc D left cnt
  row : Rw wr p (heldG S z m c x) 86
  vrow : ∀ s, wr.ownsRow 0 90 2 (V s) (L s).length (wcells z (L s))
  du : ∃ km K' E, Du wr m km z K' E ∧ km + cnt ≤ kb ∧ ∀ t, K' t = if left (kI t) then K t else lastK (L t) (K t)
  lb : ∀ t y, y ∈ L t → Bt wr z y.2
  kb : ∀ t g, K t = some g → Bt wr z g
  sub : ∀ kl, left kl = true → Maps.has D kl = true
  ch : Chg (fun k => k = p ∨ k = m) w wr

set_option maxRecDepth 100000 in
set_option maxHeartbeats 4000000 in
theorem DD.flush_on {w : World} {p m c S z kc km b : Nat} {x : Nums} {L : Nat → List (Nat × Nat)} {V : Nat → Value} {D : DataW Unit} {K : Nat → Option Nat} {E : DataW Unit} (h : DD w p m c S z kc km b x L V D K E) (hS : S ≤ 65536) (hb : b ≤ 4398046511104) (hf : -1 ≤ x.fuse) (hf2 : x.fuse ≤ 9223372036854775807) (hbu : burnE x = 0) :
    Calls Try.prog 15 #[.pointer (some ⟨p, 0, none⟩)] w fun e w' => e = .returned (.int .i64 0) ∧ Chg (fun i => i = p ∨ i = m) w w' ∧
      ∃ c' km' E', w.heap.size ≤ c' ∧ DD w' p m c' S z 0 km' b { burnN x with pend := 0, fl := inc (burnN x).fl } (fun _ => []) (fun _ => .slice none 0 0) (.map []) (fun t => lastK (L t) (K t)) E' := by
  generalize hx1 : burnN x = x1
  have r0 := h.row
  have c2 : w.cell? ⟨p, 2, none⟩ = some (.int .i32 0) := Rw.cell r0 2
  have c4 : w.cell? ⟨p, 4, none⟩ = some (.int .u32 0) := Rw.cell r0 4
  have c5 : w.cell? ⟨p, 5, none⟩ = some (.int .u32 0) := Rw.cell r0 5
  have c6 : w.cell? ⟨p, 6, none⟩ = some (.int .i32 0) := Rw.cell r0 6
  have f6 := Rw.fr r0 6
  have f2 := Rw.fr r0 2
  have H : Hid _ := h
  have HB : Hid _ := hbu
  clear h hbu r0
  go_enter_defers Try.func15, Try.ntmps15
  go_wp2_with fail
  refine (wlock_free Try.rwWLib p 2 _ _ _ c2 c4 c5 c6 f2 f6).mono ?_
  rintro e w' ⟨rfl, rfl⟩
  have R1 : Rw ((w.setCell ⟨p, 2, none⟩ (.int .i32 1)).setCell ⟨p, 6, none⟩ (.int .i32 (-1073741824))) p (heldG S z m c x) 86 := Rw.two H.out.row 2 6 (.int .i32 1) (.int .i32 (-1073741824))
  obtain ⟨w1, hw1⟩ : ∃ w1, w1 = (w.setCell ⟨p, 2, none⟩ (.int .i32 1)).setCell ⟨p, 6, none⟩ (.int .i32 (-1073741824)) := ⟨_, rfl⟩
  rw [← hw1] at R1
  have e1 : (w.setCell ⟨p, 2, none⟩ (.int .i32 1)).setCell ⟨p, 2 + 4, none⟩ (.int .i32 (-1073741824)) = w1 := hw1.symm
  rw [e1]
  have C1 : Hid (Chg (fun i => i = p) w w1) := by rw [hw1]; exact ((Chg.refl (fun i => i = p) w).setCell (.inl rfl) _).setCell (.inl rfl) _
  have BU0 := burn_held R1 hf hf2
  rw [hx1] at BU0
  have BU : Hid _ := BU0
  clear c2 c4 c5 c6 f2 f6 R1 hw1 e1 BU0 hx1
  go_wp2_with fail
  refine Calls.mono BU.out ?_
  rintro e w2 ⟨rfl, r2, ch2⟩
  rw [HB.out]
  have R2 : Hid _ := r2
  have C2 : Hid (Chg (fun i => i = p) w w2) := C1.out.trans ch2 (fun _ e => .inl e)
  have d9 : w2.cell? ⟨p, 9, none⟩ = some (.map (some c)) := Rw.cell r2 9
  have CA2 : Hid (Ca w2 c kc z L V D) := H.out.ca.kept (grown_of C2.out) (fun e => H.out.cp (by injection e)) (fun t g hg e => H.out.vp t (by rw [hg, e]))
  clear r2 ch2 BU C1
  go_wp2_with (first | (at_range; refine wpList_range_own _ rfl (.tmp 20) 81 rfl 3 88 keyed3 Try.underlying81 anyElem c kc D rfl CA2.out.own ?_; intro w0 hrg0 hg0 hs0; have RG0 : Hid _ := hrg0; have HG0 : Hid _ := hg0; have HS0 : Hid _ := hs0; clear hrg0 hg0 hs0) | go_in)
  try go_frame
  have hb0 : Below w2.heap.size w2 w0 := ⟨HG0.out.os, HG0.out.tape, HG0.out.output, HG0.out.size, fun k hk => HG0.out.block k hk (by simp)⟩
  have K0 : Hid (FI w w0 p m c S z w2.heap.size kc (km + kc) x1 L V D K (Maps.has D) (Maps.size D)) := by
    have hc0 : Chg (fun i => i = p) w w0 := C2.out.trans (Chg.of_below hb0 (fun _ => False)) (fun _ h => h.elim)
    refine ⟨RG0.out, Rw.keep R2.out hb0, fun s => ownsRow_kept (CA2.out.row s) HG0.out (by simp), ⟨km, K, E, (H.out.du.kept (grown_of C2.out) (fun e => H.out.mp (by injection e))).kept HG0.out (by simp), by have := CA2.out.own.size_le; omega, fun t => ?_⟩, fun t y hy => (H.out.lb t y hy).chg hc0 ((H.out.lb t y hy).ne H.out.row (by decide)), fun t g hg => (H.out.kb t g hg).chg hc0 ((H.out.kb t g hg).ne H.out.row (by decide)), fun _ h => h, hc0.mono (fun _ _ e => .inl e)⟩
    split
    · rfl
    · rename_i hh
      have : L t = [] := Classical.byContradiction fun e => hh ((H.out.ca.has _).2 ⟨t, rfl, e⟩)
      rw [this]; rfl
  have hI : p < w2.heap.size := R2.out.lt
  have hIm : m < w2.heap.size := by
    obtain ⟨es, cl, hm⟩ := H.out.du.map
    exact Nat.lt_of_lt_of_le (Array.getElem?_eq_some_iff.1 hm).1 C2.out.size
  have hIw : w.heap.size ≤ w2.heap.size := C2.out.size
  have hIv : Hid (∀ s g, (V s).ownBlock = some g → g < w2.heap.size) := fun s g hg => CA2.out.blt s g hg
  have hIb : Hid (∀ g, Bt w z g → g < w2.heap.size) := fun g ⟨l, _, hg⟩ => Nat.lt_of_lt_of_le hg.lt C2.out.size
  obtain ⟨I, hII⟩ : ∃ I, I = w2.heap.size := ⟨_, rfl⟩
  rw [← hII] at K0 hI hIm hIv hIw hIb ⊢
  clear hb0 RG0 HG0 HS0 R2 C2 d9 CA2 HB hII
  go_loopw [4] (fun _ wr => ∃ left cnt, FI w wr p m c S z I kc (km + kc) x1 L V D K left cnt) (fun _ wr => wr.rangeLeft c I)
  case atStart => exact ⟨_, _, K0.out⟩
  case round =>
    obtain ⟨left, cnt, hfi⟩ := hrel
    have HI : Hid _ := hfi
    clear hfi K0
    go_wp2_with (first | (at_next; refine wpList_next_ranges _ rfl (.tmp 21) rfl 3 keyed3 anyElem (Value.int .i64) mkA (fun key kl hkey => by obtain ⟨x, rfl, _⟩ := Maps.keyOf_int_inv Try.underlying3 hkey; exact ⟨x, rfl⟩) mkA_inv c I kc D left cnt rfl HI.out.rg ?_ ?_) | go_in)
    · intro _ hl0
      have HL0 : Hid _ := hl0
      clear hl0
      go_wp2_with fail
      refine Calls.mono (empty_new HI.out.row _ _ rfl rfl) ?_
      rintro e w4 ⟨rfl, r4, ch4, hm4⟩
      have K4 : Hid _ := r4
      have C4 : Hid _ := ch4
      have M4 : Hid _ := hm4
      clear r4 ch4 hm4
      go_wp2_with fail
      refine Calls.mono (u64add_any ⟨p, 16, none⟩ x1.fl 1 w4 (Rw.cell K4.out 16) (Rw.fr K4.out 16)) ?_
      rintro e w9 ⟨q, hq, rfl, rfl⟩
      have HQ : Hid _ := hq
      clear hq
      have K5 : Hid (Rw (w4.setCell ⟨p, 16, none⟩ (.int .u64 q)) p _ 86) := Rw.set K4.out 16 (.int .u64 q)
      go_wp2_with fail
      refine leaves_cons (f := 38) (args := #[.pointer (some ⟨p, 2, none⟩)]) (by simp) (by simp [go_sem]) ?_
      refine (wunlock_deferred Try.rwWLib p 2 _ _ .returning _ (Rw.cell K5.out 2) (Rw.cell K5.out 4) (Rw.cell K5.out 5) (Rw.cell K5.out 6) (Rw.fr K5.out 2) (Rw.fr K5.out 6)).mono ?_
      rintro e u' w'' ⟨rfl, rfl, rfl⟩
      have ch9 : Chg (fun i => i = p) wr ((((w4.setCell ⟨p, 16, none⟩ (.int .u64 q)).setCell ⟨p, 2 + 4, none⟩ (.int .i32 0)).setCell ⟨p, 2, none⟩ (.int .i32 0))) := C4.out.trans (((((Chg.refl (fun i => i = p) w4).setCell (.inl rfl) _).setCell (.inl rfl) _).setCell (.inl rfl) _)) (fun _ e => .inl e)
      have hrp : wr.heap.size ≠ p := fun e => by have := HI.out.row.lt; omega
      have hm9 : ((((w4.setCell ⟨p, 16, none⟩ (.int .u64 q)).setCell ⟨p, 2 + 4, none⟩ (.int .i32 0)).setCell ⟨p, 2, none⟩ (.int .i32 0))).heap[wr.heap.size]? = some (.map #[] 0) := by
        rw [heap_set_ne _ _ _ _ hrp, heap_set_ne _ _ _ _ hrp, heap_set_ne _ _ _ _ hrp]
        exact M4.out
      obtain ⟨km', K', E', hdu, hkm, hK'⟩ := HI.out.du
      have hKe : K' = fun t => lastK (L t) (K t) := by
        funext t
        rw [hK' t, HL0.out]
        rfl
      rw [hKe] at hdu
      have hmlt : m < wr.heap.size := by
        obtain ⟨es, cl, hm⟩ := hdu.map
        exact (Array.getElem?_eq_some_iff.1 hm).1
      have hkk := H.out.kk
      have hbt : ∀ g, Bt wr z g → Bt ((((w4.setCell ⟨p, 16, none⟩ (.int .u64 q)).setCell ⟨p, 2 + 4, none⟩ (.int .i32 0)).setCell ⟨p, 2, none⟩ (.int .i32 0))) z g := fun g hg => hg.chg ch9 (hg.ne HI.out.row (by decide))
      refine ⟨_, results_tmp rfl _ _ _, rfl, HI.out.ch.trans ch9 (fun _ e => .inl (.inl e)), wr.heap.size, km', E', HI.out.ch.size, (by rw [show inc x1.fl = q from HQ.out.symm]; exact Rw.two K5.out 6 2 (.int .i32 0) (.int .i32 0)), Ca.none hm9, hdu.kept (grown_of ch9) (fun e => H.out.mp (by injection e)), by omega, fun t y hy => (by cases hy), fun t g hg => ?_, fun t ht => absurd rfl ht, ⟨0, rfl, Nat.zero_le _⟩, fun t => Nat.zero_le _, (by omega), fun t y hy => (by cases hy)⟩
      by_cases hLt : L t = []
      · rw [hLt, lastK_nil] at hg
        exact hbt g (HI.out.kb t g hg)
      · obtain ⟨y, hy, hy2, _⟩ := lastK_ne hLt (K t)
        rw [hy2] at hg
        injection hg with hg
        rw [← hg]
        exact hbt _ (HI.out.lb t y hy)
    · intro x0 e0 kl y1 y2 wn cnt1 hkey hlk hv hat hrg1 hlt hg1 hs1 hen
      obtain ⟨s, hkl, hLs⟩ := (H.out.ca.has kl).1 (HI.out.sub kl hlk)
      obtain ⟨x', ex, ekl, _⟩ := Maps.keyOf_int_inv Try.underlying3 hkey
      rw [hkl] at ekl
      injection ekl with _ ekl
      injection ex with _ ex
      have hxi : x0 = (s : Int) := by omega
      obtain ⟨u, hu⟩ : ∃ u, u = mkA e0 := ⟨_, rfl⟩
      rw [← hu, hxi] at hen
      rw [← hu, hxi]
      have hsS := H.out.low s hLs
      have hch1 : Chg (fun k => k = I) wr wn := ⟨hg1.os, hg1.tape, hg1.output, hg1.size, fun k hk hn => hg1.block k hk (by simpa using hn)⟩
      have hgd : wn.grownBy wn.drew none := ⟨rfl, rfl, rfl, Nat.le_refl _, fun _ _ _ => rfl⟩
      obtain ⟨km', K', E', hdu, hkm, hK'⟩ := HI.out.du
      have du1 : Du wn.drew m km' z K' E' := (hdu.kept hg1 (by simp; omega)).kept hgd (by simp)
      have ca1 : Ca wn.drew c kc z L V D := ⟨hrg1.owns.kept hgd (by simp), H.out.ca.at_, H.out.ca.has, fun t => ownsRow_kept (ownsRow_kept (HI.out.vrow t) hg1 (fun g hg e => by have := hIv.out t g hg; injection e with e; omega)) hgd (by simp), H.out.ca.ne⟩
      have row1 : Rw wn.drew p (heldG S z m c x1) 86 := ⟨(Rw.chg1 HI.out.row hch1 (by omega)).eq⟩
      obtain ⟨y, hy, hly, hlv⟩ := lastK_ne hLs (K' s)
      have LT0 := latestG du1 ca1 (row1.cell 8) (row1.cell 9) s (by omega) (Nat.le_trans (H.out.ll s) hb)
      rw [hlv z] at LT0
      have hkk := H.out.kk
      obtain ⟨w5, hup, ⟨E5, du5⟩, hg5⟩ := du1.put s (by omega) y.2 (by omega)
      have d8 : wn.cell? ⟨p, 8, none⟩ = some (.map (some m)) := (Rw.chg1 HI.out.row hch1 (by omega)).cell 8
      obtain ⟨yb, hyb⟩ : ∃ yb, yb = y.2 := ⟨_, rfl⟩
      rw [← hyb] at LT0 hup du5
      have LT : Hid _ := LT0
      have DU5 : Hid _ := du5
      have G5 : Hid _ := hg5
      have RG1 : Hid _ := hrg1
      have HC1 : Hid _ := hch1
      have HLT : Hid _ := hlt
      have HK : Hid _ := hK'
      have HKL : Hid _ := hkl
      have HKM : Hid _ := hkm
      have HLK : Hid (lastK (L s) (K s) = some yb) := by
        obtain ⟨y9, h91, h92, h93⟩ := lastK_ne hLs (K s)
        have e9 : Value.slice (some ⟨y9.2, 0, none⟩) 0 0 = Value.slice (some ⟨y.2, 0, none⟩) 0 0 := by rw [← h93 0, ← hlv 0]; unfold latV; rw [List.getLast?_eq_some_getLast hLs]
        injection e9 with e9 _ _
        injection e9 with e9
        injection e9 with e9 _ _
        show lastK (L s) (K s) = some yb
        rw [h92, hyb, e9]
      clear hat hv hkey hlk hrg1 hlt hg1 hs1 hdu hkm hK' du1 ca1 row1 hy hly hlv LT0 du5 hg5 hyb hu hch1 ekl ex hkl hgd hxi
      go_upto_region 9 with fail
      refine wp_region_noPanic ?_
      refine wp_region_held_drew (S := fun w' => w'.cell? ⟨p, 8, none⟩ = some (.map (some m))) (by kernel_rfl) d8 (fun hH => ?_)
      refine wpAnyH_take (i := 0) (v := .pointer (some ⟨p, 0, none⟩)) rfl (by kernel_rfl) (by kernel_rfl) (by kernel_rfl) (fun _ _ _ h => h) (Or.inl ⟨by rfl, fun w' hw' => by go_simp⟩) hH ?_
      refine wpAnyH_take (i := 1) (v := .pointer (some ⟨p, 0, none⟩)) rfl (by kernel_rfl) (by kernel_rfl) (by kernel_rfl) (fun _ _ _ h => h) (Or.inl ⟨by rfl, fun w' hw' => by go_simp⟩) hH ?_
      refine wpAnyH_take (i := 2) (v := .pointer (some ⟨p, 8, none⟩)) rfl (by kernel_rfl) (by kernel_rfl) (by kernel_rfl) (fun _ _ _ h => h) (Or.inl ⟨by rfl, fun w' hw' => by go_simp⟩) hH ?_
      refine wpAnyH_take (i := 3) (v := .map (some m)) rfl (by kernel_rfl) (by kernel_rfl) (by kernel_rfl) (fun _ _ _ h => h) (Or.inl ⟨by rfl, fun w' hw' => by have q1 := hw'; go_simp⟩) hH ?_
      refine wpAnyH_take (i := 4) (v := .int .i64 s) rfl (by kernel_rfl) (by kernel_rfl) (by kernel_rfl) (fun _ _ _ h => h) (Or.inl ⟨by rfl, fun w' hw' => by go_simp⟩) hH ?_
      refine wpAnyH_take (i := 5) (v := .pointer (some ⟨p, 0, none⟩)) rfl (by kernel_rfl) (by kernel_rfl) (by kernel_rfl) (fun _ _ _ h => h) (Or.inl ⟨by rfl, fun w' hw' => by go_simp⟩) hH ?_
      refine wpAnyH_take (i := 6) (v := .int .i64 s) rfl (by kernel_rfl) (by kernel_rfl) (by kernel_rfl) (fun _ _ _ h => h) (Or.inl ⟨by rfl, fun w' hw' => by go_simp⟩) hH ?_
      refine wpAnyH_ready (rs := [7]) (by kernel_rfl) (by simp) ?_
      refine AllReadyH.cons rfl (fun K hK => ?_) AllReadyH.nil
      go_simp
      refine Calls.mono LT.out ?_
      rintro e w9 ⟨rfl, h9⟩
      subst h9
      refine hK.out _ _ hH (fun h1 => ?_)
      clear hK K
      have row5 : Rw w5 p (heldG S z m c x1) 86 := ⟨(Chg.of_grown G5.out).heap_some (Rw.chg1 HI.out.row HC1.out (by omega)).eq (fun e => by injection e with e; exact H.out.mp e.symm)⟩
      have q5 : w5.cell? ⟨p, 8, none⟩ = some (.map (some m)) := row5.cell 8
      refine wpAnyH_ready (rs := [8]) (by kernel_rfl) (by simp) ?_
      refine AllReadyH.cons rfl (fun K hK => ?_) AllReadyH.nil
      go_simp
      refine hK.out _ _ q5 (fun _ => ?_)
      clear hK K
      refine wpAnyH_done (by kernel_rfl) (NoPanic.normal ?_) _
      have hmb : ∀ g, Bt wn.drew z g → Bt w5 z g := fun g hg => hg.chg (Chg.of_grown G5.out) (fun e => by
        injection e with e
        obtain ⟨es, cl, hm⟩ := H.out.du.map
        obtain ⟨km', K', E', hdu, _⟩ := HI.out.du
        exact hg.nem ((((hdu.kept (grown_of HC1.out) (by simp; omega)).kept (row := none) ⟨rfl, rfl, rfl, Nat.le_refl _, fun _ _ _ => rfl⟩ (by simp)) : Du wn.drew m km' z K' E').map) e)
      have hnb : ∀ g, Bt w z g → Bt wr z g → Bt w5 z g := fun g h0 hg => hmb g (by
        obtain ⟨l, h1, h2⟩ := hg
        exact ⟨l, h1, ⟨(Rw.chg1 h2 HC1.out (fun e => by have := hIb.out g h0; omega)).eq⟩⟩)
      have K5 : Hid (FI w w5 p m c S z I kc (km + kc) x1 L V D K (fun y => left y && !y.sameKey kl) cnt1) := by
        refine ⟨?_, row5, fun t => ?_, ⟨km' + 1, _, E5, DU5.out, by have := HLT.out; have := HKM.out; omega, fun t => ?_⟩, fun t y hy => hnb _ (H.out.lb t y hy) (HI.out.lb t y hy), fun t g hg => hnb g (H.out.kb t g hg) (HI.out.kb t g hg), fun kl2 h => HI.out.sub kl2 (by simp at h; exact h.1), ?_⟩
        · exact World.ranges.kept (w := wn.drew) (World.ranges.kept RG1.out (w' := wn.drew) (row := none) ⟨rfl, rfl, rfl, Nat.le_refl _, fun _ _ _ => rfl⟩ (by simp) (by simp)) G5.out (fun e => by injection e with e; exact H.out.mc e.symm) (fun e => by injection e with e; omega)
        · have v1 := ownsRow_kept (HI.out.vrow t) (grown_of HC1.out) (fun g hg e => by have := hIv.out t g hg; injection e with e; omega)
          have v2 : wn.drew.ownsRow 0 90 2 (V t) (L t).length (wcells z (L t)) := ownsRow_kept v1 (row := none) (w' := wn.drew) ⟨rfl, rfl, rfl, Nat.le_refl _, fun _ _ _ => rfl⟩ (by simp)
          refine ownsRow_kept v2 G5.out (fun g hg e => ?_)
          injection e with e
          obtain ⟨cur, hcur⟩ := H.out.ca.cells hg
          obtain ⟨es, cl, hm⟩ := H.out.du.map
          rw [e, hm] at hcur
          cases hcur
        · rw [HKL.out]
          simp only [sameKey_int]
          by_cases e : t = s
          · subst e
            simp [HLK.out]
          · simp only [e, decide_false, Bool.not_false, Bool.and_true]
            exact HK.out t
        · exact ((HI.out.ch.trans HC1.out (fun k e => .inr (by omega))).drew).trans (Chg.of_grown G5.out) (fun k e => .inl (.inr (by injection e)))
      go_wp2_with fail
      go_roundw
      case rel => exact ⟨_, _, K5.out⟩
      case measure => rw [K5.out.rg.left_eq, HI.out.rg.left_eq]; exact HLT.out
end Go.Proofs.Ytddnecfnjnipjaa
