/-
  A crash that keeps what it likes: Crash walked; a disk with all its bytes known.
-/
import Derived.Test.YtddnecfnjnipjaaRfB
namespace Go.Proofs.Ytddnecfnjnipjaa
open Go.RowKit Go.RwLone

/-- A disk's bytes: block g holds C g; no block is named twice. -/
structure DC (w : World) (p m c S z kc km b : Nat) (x : Nums) (L : Nat → List (Nat × Nat)) (V : Nat → Value) (D : DataW Unit) (K : Nat → Option Nat) (E : DataW Unit) (C : Nat → List Int) : Prop where
  dd : DD w p m c S z kc km b x L V D K E
  lr : ∀ t y, y ∈ L t → Rw w y.2 (bs (C y.2)).toArray 5 ∧ (C y.2).length = z
  kr : ∀ t g, K t = some g → Rw w g (bs (C g)).toArray 5 ∧ (C g).length = z
  ki : ∀ t t' g, K t = some g → K t' = some g → t = t'
  kl : ∀ t t' g y, K t = some g → y ∈ L t' → y.2 ≠ g
  li : ∀ t t' y y', y ∈ L t → y' ∈ L t' → y.2 = y'.2 → t = t'
  nd : ∀ t, ((L t).map Prod.snd).Nodup
  pk : x.pend ≤ (kc : Int)

theorem updT_updT {α : Type} (T : Nat → α) (s : Nat) (u v : α) : updT (updT T s u) s v = updT T s v := by
  funext t
  unfold updT
  split <;> rfl
theorem sameKey_kI (t s : Nat) : (kI t).sameKey (kI s) = decide (t = s) := sameKey_int t s

set_option maxRecDepth 100000 in
set_option maxHeartbeats 8000000 in
theorem DC.crash {w : World} {p m c S z kc km b : Nat} {x : Nums} {L : Nat → List (Nat × Nat)} {V : Nat → Value} {D : DataW Unit} {K : Nat → Option Nat} {E : DataW Unit} {C : Nat → List Int} (h : DC w p m c S z kc km b x L V D K E C) (hS : S ≤ 65536) (hb : b ≤ 4398046511104) (hz : z ≤ 4096)
    {a : Option Addr} {N cN : Nat} {kl : List Bool} (hk : KB w a N kl) (hka : ∀ g o, 0 < N → a = some ⟨g, o, none⟩ → g ≠ p ∧ g ≠ m ∧ ∀ t, K t ≠ some g) (torn at_ : Int) :
    Calls Try.prog 29 #[.pointer (some ⟨p, 0, none⟩), .agg #[.slice a N cN, .int .i64 torn, .int .i64 at_]] w fun e w' => e = .returned (.tuple #[]) ∧ Chg (fun i => i = p ∨ i = m ∨ ∃ t, K t = some i) w w' ∧
      ∃ c' km' K' E' C', w.heap.size ≤ c' ∧ DC w' p m c' S z 0 km' b { x with pend := 0, fuse := -1, off := false, era := wrap64 (x.era + 1) } (fun _ => []) (fun _ => .slice none 0 0) (.map []) K' E' C' ∧
        (∀ t g, K' t = some g → K t = some g ∨ w.heap.size ≤ g) ∧ ∀ t, (K' t).map C' = foldC z (keptN kl torn at_ z) C (L t) ((K t).map C) := by
  obtain ⟨w0, hw0⟩ : ∃ w0, w0 = w.alloc (.cells #[.slice a N cN, .int .i64 torn, .int .i64 at_] 66) := ⟨_, rfl⟩
  have hc0 : Chg (fun _ => False) w w0 := by rw [hw0]; exact (Chg.refl _ _).alloc _
  have hd0 : DD w0 p m c S z kc km b x L V D K E := h.dd.more hc0
  have X0 : Hid (Rw w0 w.heap.size #[.slice a N cN, .int .i64 torn, .int .i64 at_] 66) := by rw [hw0]; exact ⟨heap_alloc_new _ _⟩
  have C0 : Hid (Chg (fun i => i = p ∨ i = m ∨ ∃ t, K t = some i) w w0) := hc0.mono (fun _ _ h => h.elim)
  have KB0 : Hid (KB w0 a N kl) := hk.chg hc0 (fun _ _ _ _ h => h)
  have LR0 : Hid (∀ t y, y ∈ L t → Rw w0 y.2 (bs (C y.2)).toArray 5 ∧ (C y.2).length = z) := fun t y hy => ⟨⟨hc0.heap_some (h.lr t y hy).1.eq (fun h => h)⟩, (h.lr t y hy).2⟩
  have KR0 : Hid (∀ t g, K t = some g → Rw w0 g (bs (C g)).toArray 5 ∧ (C g).length = z) := fun t g hy => ⟨⟨hc0.heap_some (h.kr t g hy).1.eq (fun h => h)⟩, (h.kr t g hy).2⟩
  have r0 := hd0.row
  have c2 : w0.cell? ⟨p, 2, none⟩ = some (.int .i32 0) := Rw.cell r0 2
  have c4 : w0.cell? ⟨p, 4, none⟩ = some (.int .u32 0) := Rw.cell r0 4
  have c5 : w0.cell? ⟨p, 5, none⟩ = some (.int .u32 0) := Rw.cell r0 5
  have c6 : w0.cell? ⟨p, 6, none⟩ = some (.int .i32 0) := Rw.cell r0 6
  have f6 := Rw.fr r0 6
  have f2 := Rw.fr r0 2
  have H : Hid _ := hd0
  have HC : Hid _ := h
  have HKA : Hid _ := hka
  have HN : Hid (∀ t y, y ∈ L t → y.1 ≤ 4611686018427387904) := fun t y hy => by have := hd0.nm t y hy; omega
  have HW0 : Hid _ := hw0
  have hXp : w.heap.size ≠ p := fun e => by have := h.dd.row.lt; omega
  have HX1 : Hid (w.heap.size ≠ m ∧ ∀ t, K t ≠ some w.heap.size) := ⟨fun e => by
    obtain ⟨es, cl, hm⟩ := h.dd.du.map
    have := (Array.getElem?_eq_some_iff.1 hm).1
    omega, fun t e => by have := (h.kr t _ e).1.lt; omega⟩
  have HLt : Hid (∀ t g, K t = some g → g < w.heap.size) := fun t g hg => (h.kr t g hg).1.lt
  clear h hd0 r0 hw0 hk hka hc0
  go_enter_defers Try.func29, Try.ntmps29
  go_wp2_with fail
  rw [← HW0.out]
  refine (wlock_free Try.rwWLib p 2 _ _ _ c2 c4 c5 c6 f2 f6).mono ?_
  rintro e w' ⟨rfl, rfl⟩
  have R1 : Rw ((w0.setCell ⟨p, 2, none⟩ (.int .i32 1)).setCell ⟨p, 6, none⟩ (.int .i32 (-1073741824))) p (heldG S z m c x) 86 := Rw.two H.out.row 2 6 (.int .i32 1) (.int .i32 (-1073741824))
  obtain ⟨w2, hw2⟩ : ∃ w2, w2 = (w0.setCell ⟨p, 2, none⟩ (.int .i32 1)).setCell ⟨p, 6, none⟩ (.int .i32 (-1073741824)) := ⟨_, rfl⟩
  rw [← hw2] at R1
  have e1 : (w0.setCell ⟨p, 2, none⟩ (.int .i32 1)).setCell ⟨p, 2 + 4, none⟩ (.int .i32 (-1073741824)) = w2 := hw2.symm
  rw [e1]
  have C2 : Hid (Chg (fun i => i = p) w0 w2) := by rw [hw2]; exact ((Chg.refl (fun i => i = p) w0).setCell (.inl rfl) _).setCell (.inl rfl) _
  have R2 : Hid _ := R1
  have X2 : Hid _ := Rw.chg1 X0.out C2.out hXp
  have d9 : w2.cell? ⟨p, 9, none⟩ = some (.map (some c)) := Rw.cell R1 9
  have CA2 : Hid (Ca w2 c kc z L V D) := H.out.ca.kept (grown_of C2.out) (fun e => H.out.cp (by injection e)) (fun t g hg e => H.out.vp t (by rw [hg, e]))
  have KB2 : Hid (KB w2 a N kl) := KB0.out.chg C2.out (fun g o h0 e => (HKA.out g o h0 e).1)
  have LR2 : Hid (∀ t y, y ∈ L t → Rw w2 y.2 (bs (C y.2)).toArray 5 ∧ (C y.2).length = z) := fun t y hy => ⟨Rw.chg1 (LR0.out t y hy).1 C2.out (Rw.ne (LR0.out t y hy).1 H.out.row (by decide)), (LR0.out t y hy).2⟩
  have KR2 : Hid (∀ t g, K t = some g → Rw w2 g (bs (C g)).toArray 5 ∧ (C g).length = z) := fun t g hy => ⟨Rw.chg1 (KR0.out t g hy).1 C2.out (Rw.ne (KR0.out t g hy).1 H.out.row (by decide)), (KR0.out t g hy).2⟩
  clear c2 c4 c5 c6 f2 f6 R1 hw2 e1 HW0 X0 KB0 LR0 KR0
  go_wp2_with (first | (at_range; refine wpList_range_own _ rfl (.tmp 18) 81 rfl 3 88 keyed3 Try.underlying81 anyElem c kc D rfl CA2.out.own ?_; intro w3 hrg0 hg0 hs0; have RG0 : Hid _ := hrg0; have HG0 : Hid _ := hg0; have HS0 : Hid _ := hs0; clear hrg0 hg0 hs0) | go_in)
  try go_frame
  obtain ⟨T, hT⟩ : ∃ T : (Lit → Bool) → Nat → Option (List Int), T = fun left t => if left (kI t) then (K t).map C else foldC z (keptN kl torn at_ z) C (L t) ((K t).map C) := ⟨_, rfl⟩
  have hb0 : Below w2.heap.size w2 w3 := ⟨HG0.out.os, HG0.out.tape, HG0.out.output, HG0.out.size, fun k hk => HG0.out.block k hk (by simp)⟩
  have K0 : Hid (CB w2 w3 m c w2.heap.size kc z b D (Maps.has D) (Maps.size D) K (T (Maps.has D)) (Maps.size D)) := by
    have hdu : Du w2 m km z K E := H.out.du.kept (grown_of C2.out) (fun e => H.out.mp (by injection e))
    refine ⟨RG0.out, Chg.of_below hb0 _, Nat.le_refl _, by have := HS0.out; omega, fun e => H.out.mc e.symm, km, K, E, C, hdu.kept HG0.out (by simp), by have := CA2.out.own.size_le; have := H.out.kk; omega, fun t g hg => .inl hg, HC.out.ki, fun t g hg => ⟨Rw.keep (KR2.out t g hg).1 hb0, (KR2.out t g hg).2⟩, fun t => ?_⟩
    rw [hT]
    simp only
    split
    · rfl
    · rename_i hh
      have : L t = [] := Classical.byContradiction fun e => hh ((H.out.ca.has _).2 ⟨t, rfl, e⟩)
      rw [this]; rfl
  have SUB0 : Hid (∀ kl2, Maps.has D kl2 = true → Maps.has D kl2 = true) := fun _ h => h
  have hXI : w.heap.size < w2.heap.size := X2.out.lt
  have hpI : p < w2.heap.size := R2.out.lt
  have hIv : Hid (∀ s g, (V s).ownBlock = some g → g < w2.heap.size ∧ g ≠ m ∧ ∀ t, K t ≠ some g) := by
    intro s g hg
    refine ⟨CA2.out.blt s g hg, fun e => ?_, fun t e => ?_⟩
    · obtain ⟨cur, hcur⟩ := H.out.ca.cells hg
      obtain ⟨es, cl, hm⟩ := H.out.du.map
      rw [e, hm] at hcur
      cases hcur
    · obtain ⟨cur, hcur⟩ := CA2.out.cells hg
      have h9 := (KR2.out t g e).1.eq
      rw [hcur] at h9
      injection h9 with h9
      injection h9 with _ h9
      cases h9
  have hpS : Hid (p ≠ m ∧ ∀ t, K t ≠ some p) := ⟨H.out.mp.symm, fun t e => by
    have h9 := (KR2.out t p e).1
    exact Rw.ne h9 R2.out (by decide) rfl⟩
  obtain ⟨I, hII⟩ : ∃ I, I = w2.heap.size := ⟨_, rfl⟩
  have hI2 : w2.heap.size ≤ I := by omega
  have LRQ : Hid (∀ wq, Chg (fun g => g = m ∨ ∃ t, K t = some g) w2 wq → ∀ t y, y ∈ L t → Rw wq y.2 (bs (C y.2)).toArray 5 ∧ y.2 < I) := fun wq hq t y hy => by
    have h1 := (LR2.out t y hy).1
    refine ⟨⟨hq.heap_some h1.eq (fun e => ?_)⟩, by have := h1.lt; omega⟩
    rcases e with e | ⟨t', e⟩
    · obtain ⟨es, cl, hm⟩ := (H.out.du.kept (grown_of C2.out) (fun e => H.out.mp (by injection e))).map
      have h2 := h1.eq
      rw [e, hm] at h2
      cases h2
    · exact HC.out.kl t' t _ y e hy rfl
  rw [← hII] at K0 hXI hpI ⊢
  clear hb0 RG0 HG0 HS0 d9 hII
  go_loopw [4] (fun _ wr => ∃ left cnt, Hid (CB w2 wr m c I kc z b D left cnt K (T left) cnt ∧ ∀ kl2, left kl2 = true → Maps.has D kl2 = true)) (fun _ wr => wr.rangeLeft c I)
  case atStart => exact ⟨_, _, K0.out, SUB0.out⟩
  case round =>
    obtain ⟨left, cnt, hfi⟩ := hrel
    obtain ⟨hcb, hsub⟩ := hfi.out
    have HI : Hid _ := hcb
    have SUB : Hid _ := hsub
    clear hfi K0 SUB0 hcb hsub
    go_wp2_with (first | (at_next; refine wpList_next_ranges _ rfl (.tmp 19) rfl 3 keyed3 anyElem (Value.int .i64) mkA (fun key kl hkey => by obtain ⟨x, rfl, _⟩ := Maps.keyOf_int_inv Try.underlying3 hkey; exact ⟨x, rfl⟩) mkA_inv c I kc D left cnt rfl HI.out.rg ?_ ?_) | go_in)
    · intro _ hl0
      have HL0 : Hid _ := hl0
      clear hl0
      have rr : Rw wr p (heldG S z m c x) 86 := ⟨HI.out.ch.heap_some R2.out.eq (fun e => by
        rcases e with e | ⟨t, e⟩
        · exact hpS.out.1 e
        · exact hpS.out.2 t e)⟩
      have RR : Hid _ := rr
      have EN : Hid _ := empty_new rr _ _ rfl rfl
      clear rr
      go_wp2_with fail
      refine Calls.mono EN.out ?_
      rintro e w4 ⟨rfl, r4, ch4, hm4⟩
      have k11 : w4.cell? ⟨p, 11, none⟩ = some (.int .i64 x.fuse) := r4.cell 11
      have f11 := r4.fr 11
      have r5 := r4.set 11 (.int .i64 (-1))
      have k12 : (w4.setCell ⟨p, 11, none⟩ (.int .i64 (-1))).cell? ⟨p, 12, none⟩ = some (.bool x.off) := r5.cell 12
      have f12 := r5.fr 12
      have r6 := r5.set 12 (.bool false)
      have k13 : ((w4.setCell ⟨p, 11, none⟩ (.int .i64 (-1))).setCell ⟨p, 12, none⟩ (.bool false)).cell? ⟨p, 13, none⟩ = some (.int .i64 x.era) := r6.cell 13
      have f13 := r6.fr 13
      have R6 : Hid _ := r6
      have C4 : Hid _ := ch4
      have M4 : Hid _ := hm4
      clear r4 r5 r6 ch4 hm4 EN
      go_wp2_with fail
      obtain ⟨w7, hw7⟩ : ∃ w7, w7 = (((w4.setCell ⟨p, 11, none⟩ (.int .i64 (-1))).setCell ⟨p, 12, none⟩ (.bool false)).setCell ⟨p, 13, none⟩ (.int .i64 (wrap64 (x.era + 1)))) := ⟨_, rfl⟩
      rw [← hw7]
      have r7 : Rw w7 p (heldG S z m wr.heap.size { x with pend := 0, fuse := -1, off := false, era := wrap64 (x.era + 1) }) 86 := by rw [hw7]; exact R6.out.set 13 (.int .i64 (wrap64 (x.era + 1)))
      have ch7 : Chg (fun i => i = p) w4 w7 := by rw [hw7]; exact (((Chg.refl (fun i => i = p) w4).setCell (.inl rfl) _).setCell (.inl rfl) _).setCell (.inl rfl) _
      have hrp : wr.heap.size ≠ p := fun e => by have := RR.out.lt; omega
      have hm7 : w7.heap[wr.heap.size]? = some (.map #[] 0) := ch7.heap_some M4.out hrp
      have R7 : Hid _ := r7
      have C7 : Hid (Chg (fun i => i = p) wr w7) := C4.out.trans ch7 (fun _ e => .inl e)
      have M7 : Hid _ := hm7
      clear k11 k12 k13 f11 f12 f13 hw7 r7 ch7 hm7 R6 M4 C4
      refine leaves_cons (f := 38) (args := #[.pointer (some ⟨p, 2, none⟩)]) (by simp) (by simp [go_sem]) ?_
      refine (wunlock_deferred Try.rwWLib p 2 _ _ .returning _ (Rw.cell R7.out 2) (Rw.cell R7.out 4) (Rw.cell R7.out 5) (Rw.cell R7.out 6) (Rw.fr R7.out 2) (Rw.fr R7.out 6)).mono ?_
      rintro e u' w'' ⟨rfl, rfl, rfl⟩
      have ch9 : Chg (fun i => i = p) wr ((w7.setCell ⟨p, 2 + 4, none⟩ (.int .i32 0)).setCell ⟨p, 2, none⟩ (.int .i32 0)) := (C7.out.setCell (.inl rfl) _).setCell (.inl rfl) _
      have hm9 : ((w7.setCell ⟨p, 2 + 4, none⟩ (.int .i32 0)).setCell ⟨p, 2, none⟩ (.int .i32 0)).heap[wr.heap.size]? = some (.map #[] 0) := by
        rw [heap_set_ne _ _ _ _ hrp, heap_set_ne _ _ _ _ hrp]; exact M7.out
      have r9 : Rw ((w7.setCell ⟨p, 2 + 4, none⟩ (.int .i32 0)).setCell ⟨p, 2, none⟩ (.int .i32 0)) p (dkG S z m wr.heap.size { x with pend := 0, fuse := -1, off := false, era := wrap64 (x.era + 1) }) 86 := Rw.two R7.out 6 2 (.int .i32 0) (.int .i32 0)
      obtain ⟨w9, hw9⟩ : ∃ w9, w9 = (w7.setCell ⟨p, 2 + 4, none⟩ (.int .i32 0)).setCell ⟨p, 2, none⟩ (.int .i32 0) := ⟨_, rfl⟩
      rw [← hw9] at ch9 hm9 r9 ⊢
      clear hw9
      obtain ⟨km', K', E', C', d1, d2, d3, d4, d5, d6⟩ := HI.out.du
      have cw2 : Chg (fun i => i = p ∨ i = m ∨ ∃ t, K t = some i) w w2 := C0.out.trans C2.out (fun _ e => .inl (.inl e))
      have ca9 : Chg (fun i => i = p ∨ i = m ∨ ∃ t, K t = some i) w w9 := (cw2.trans HI.out.ch (fun _ e => .inl (.inr e))).trans ch9 (fun _ e => .inl (.inl e))
      have hmlt : m < wr.heap.size := by
        obtain ⟨es, cl, hm⟩ := d1.map
        exact (Array.getElem?_eq_some_iff.1 hm).1
      have hkr : ∀ t g, K' t = some g → Rw w9 g (bs (C' g)).toArray 5 ∧ (C' g).length = z := fun t g hg => ⟨Rw.chg1 (d5 t g hg).1 ch9 (Rw.ne (d5 t g hg).1 RR.out (by decide)), (d5 t g hg).2⟩
      have hdd : DD w9 p m wr.heap.size S z 0 km' b { x with pend := 0, fuse := -1, off := false, era := wrap64 (x.era + 1) } (fun _ => []) (fun _ => .slice none 0 0) (.map []) K' E' :=
        ⟨r9, Ca.none hm9, d1.kept (grown_of ch9) (fun e => H.out.mp (by injection e)), by omega, fun t y hy => (by cases hy), fun t g hg => ⟨C' g, (hkr t g hg).2, (hkr t g hg).1⟩, fun t ht => absurd rfl ht, ⟨0, rfl, Nat.zero_le _⟩, fun t => Nat.zero_le _, (by omega), fun t y hy => (by cases hy)⟩
      refine ⟨_, results_none rfl _ _ _, rfl, ca9, wr.heap.size, km', K', E', C', Nat.le_trans cw2.size HI.out.ch.size, ⟨hdd, fun t y hy => (by cases hy), hkr, d4, fun t t' g y _ hy => (by cases hy), fun t t' y y' hy => (by cases hy), fun _ => List.nodup_nil, Int.le_refl _⟩, fun t g hg => ?_, fun t => ?_⟩
      · rcases d3 t g hg with h9 | h9
        · exact .inl h9
        · have := cw2.size
          exact .inr (by omega)
      · rw [d6 t, hT]
        show (if left (kI t) = true then _ else _) = _
        rw [HL0.out]
        rfl
    · intro x0 e0 kl0 y1 y2 wn cnt1 hkey hlk hv hat hrg1 hlt hg1 hs1 hen
      obtain ⟨s, hkl, hLs⟩ := (H.out.ca.has kl0).1 (SUB.out kl0 hlk)
      obtain ⟨x', ex, ekl, _⟩ := Maps.keyOf_int_inv Try.underlying3 hkey
      rw [hkl] at ekl
      injection ekl with _ ekl
      injection ex with _ ex
      have hxi : x0 = (s : Int) := by omega
      have hy1 : y1 = enc (V s) := by rw [← hat .nil, hkl]; exact H.out.ca.at_ s
      have hv' : anyElem (mkA e0) = some (enc (V s), y2) := by rw [← hy1]; exact hv
      have hE := anyElem_inv (H.out.ca.flat s) hv'
      rw [hE, hxi] at hen
      rw [hE, hxi]
      have hsS := H.out.low s hLs
      obtain ⟨n, hn⟩ : ∃ n, n = (L s).length := ⟨_, rfl⟩
      have hnb : n ≤ 4398046511104 := by rw [hn]; exact Nat.le_trans (H.out.ll s) hb
      obtain ⟨left', hleft'⟩ : ∃ left' : Lit → Bool, left' = fun y => left y && !y.sameKey kl0 := ⟨_, rfl⟩
      rw [← hleft'] at hrg1
      obtain ⟨Fi, hFi⟩ : ∃ Fi : Nat → Option (List Int), Fi = fun i => foldC z (keptN kl torn at_ z) C ((L s).take i) ((K s).map C) := ⟨_, rfl⟩
      have hT0 : T left = updT (T left') s (Fi 0) := by
        funext t
        by_cases e : t = s
        · subst e
          rw [updT_same, hT, hFi]
          show (if left (kI t) = true then _ else _) = _
          rw [← hkl, hlk]
          rfl
        · rw [updT_other _ _ e, hT, hleft']
          show (if left (kI t) = true then _ else _) = if (left (kI t) && !(kI t).sameKey kl0) = true then _ else _
          rw [hkl, sameKey_kI]
          simp [e]
      have hTn : T left' = updT (T left') s (Fi n) := by
        funext t
        by_cases e : t = s
        · subst e
          rw [updT_same, hT, hFi, hleft']
          show (if (left (kI t) && !(kI t).sameKey kl0) = true then _ else _) = _
          rw [hkl, sameKey_kI]
          show _ = foldC _ _ _ ((L t).take n) _
          rw [hn, List.take_length]
          simp
        · rw [updT_other _ _ e]
      have hFs : ∀ i y, (L s)[i]? = some y → Fi (i + 1) = if keptN kl torn at_ z y.1 = 0 then Fi i else some (over (C y.2) ((Fi i).getD (zs z)) (keptN kl torn at_ z y.1)) := fun i y hy => by
        rw [hFi]
        simp only
        rw [List.take_add_one, hy]
        exact foldC_snoc _ _ _ _ _ _
      rcases (CA2.out.row s).2 with ⟨e, h0⟩ | ⟨g, cap, cur, e, _, hgg, h1, h2, h3, h4⟩
      · exact absurd (List.eq_nil_of_length_eq_zero h0) hLs
      · rw [← hn] at e
        rw [e] at hen ⊢
        obtain ⟨hgI, hgm, hgK⟩ := hIv.out s g (by rw [e]; rfl)
        have cb1 := (HI.out.next hrg1 hg1).less (show cnt1 + (if Fi 0 = none then 1 else 0) ≤ cnt by split <;> omega)
        rw [hT0] at cb1
        have CELL : Hid (∀ (wq : World), Chg (fun g => g = m ∨ ∃ t, K t = some g) w2 wq → ∀ i y, (L s)[i]? = some y → wq.cell? ⟨g, i * 2, none⟩ = some (.int .i64 y.1) ∧ wq.cell? ⟨g, i * 2 + 1, none⟩ = some (.slice (some ⟨y.2, 0, none⟩) z z)) := fun wq hbq i y hy => by
          obtain ⟨a1, a2⟩ := wcells_get z (L s) i y hy
          have hr := CA2.out.row s
          have b1 := World.ownsRow.cells hr (g := g) (by rw [e]; rfl) (i * 2) _ a1
          have b2 := World.ownsRow.cells hr (g := g) (by rw [e]; rfl) (i * 2 + 1) _ a2
          rw [addr_add, Nat.zero_add] at b1 b2
          have hn9 : ¬ (g = m ∨ ∃ t, K t = some g) := fun h9 => by
            rcases h9 with h9 | ⟨t, h9⟩
            · exact hgm h9
            · exact hgK t h9
          exact ⟨hbq.cell_some (a := ⟨g, i * 2, none⟩) b1 hn9, hbq.cell_some (a := ⟨g, i * 2 + 1, none⟩) b2 hn9⟩
        have CB1 : Hid _ := cb1
        have SUB1 : Hid (∀ kl2, left' kl2 = true → Maps.has D kl2 = true) := fun kl2 h9 => SUB.out kl2 (by rw [hleft'] at h9; simp at h9; exact h9.1)
        have HLT : Hid _ := hlt
        have HNN : Hid _ := hn
        have HTN : Hid _ := hTn
        have HFS : Hid _ := hFs
        clear hat hv hkey hlk hrg1 hlt hg1 hs1 cb1 ekl ex hkl hxi hE hv' hy1 hgg h1 h2 h3 h4 e hn hT0 hTn hFs hFi hleft' hT
        go_wp2_with fail
        go_loopg [27] (n + 1) (fun gk si wq => ∃ i : Nat, si = .int .i64 i ∧ i ≤ n ∧ n < gk + i ∧ Hid (CB w2 wq m c I kc z b D left' cnt1 K (updT (T left') s (Fi i)) (cnt1 + (if Fi i = none then 1 else 0))))
        case atStart => exact ⟨0, rfl, by omega, by omega, CB1.out⟩
        case round =>
          obtain ⟨i, rfl, hi, hgk, hid⟩ := hrel
          have hcr := hid.out
          clear hid CB1
          by_cases hin : i = n
          · subst hin
            rw [← HTN.out] at hcr
            have CRq : Hid _ := hcr.less (show cnt1 ≤ cnt1 + (if Fi i = none then 1 else 0) by omega)
            clear hcr
            go_wp2_with fail
            go_roundw
            case rel => exact ⟨_, _, CRq.out, SUB1.out⟩
            case measure => rw [CRq.out.rg.left_eq, HI.out.rg.left_eq]; exact HLT.out
          · have hil : (i : Int) < (n : Int) := by omega
            obtain ⟨y, hy⟩ : ∃ y, (L s)[i]? = some y := ⟨(L s)[i]'(by have := HNN.out; omega), List.getElem?_eq_getElem _⟩
            obtain ⟨a1, a2⟩ := CELL.out wr hcr.ch i y hy
            have hym := List.mem_of_getElem? hy
            have hyn := HN.out s y hym
            have hyc := (LR2.out s y hym).2
            have hstep := HFS.out i y hy
            obtain ⟨yn, yb⟩ := y
            simp only at a1 a2 hyn hyc hstep
            obtain ⟨k, hk⟩ : ∃ k, k = keptN kl torn at_ z yn := ⟨_, rfl⟩
            have hkz : k ≤ z := by rw [hk]; exact keptN_le _ _ _ _ _
            rw [← hk] at hstep
            obtain ⟨w4, hw4⟩ : ∃ w4, w4 = wr.alloc (.cells #[.int .i64 yn, .slice (some ⟨yb, 0, none⟩) z z] 90) := ⟨_, rfl⟩
            have ch4 : Chg (fun _ => False) wr w4 := by rw [hw4]; exact (Chg.refl _ _).alloc _
            have q4 : Rw w4 wr.heap.size #[.int .i64 yn, .slice (some ⟨yb, 0, none⟩) z z] 90 := by rw [hw4]; exact ⟨heap_alloc_new _ _⟩
            obtain ⟨Q, hQ⟩ : ∃ Q, Q = wr.heap.size := ⟨_, rfl⟩
            have hS2 : ∀ q, q ≠ m → (∀ t, K t ≠ some q) → ¬ (q = m ∨ ∃ t, K t = some q) := fun q h1 h2 h9 => by
              rcases h9 with h9 | ⟨t, h9⟩
              · exact h1 h9
              · exact h2 t h9
            have x4 : Rw w4 w.heap.size #[.slice a N cN, .int .i64 torn, .int .i64 at_] 66 := ⟨ch4.heap_some (hcr.ch.heap_some X2.out.eq (hS2 _ HX1.out.1 HX1.out.2)) (fun h => h)⟩
            have p4 : Rw w4.drew p (heldG S z m c x) 86 := ⟨ch4.heap_some (hcr.ch.heap_some R2.out.eq (hS2 _ hpS.out.1 hpS.out.2)) (fun h => h)⟩
            have kb4 : KB w4.drew a N kl := (KB2.out.chg hcr.ch (fun g o h0 e => hS2 _ (HKA.out g o h0 e).2.1 (HKA.out g o h0 e).2.2)).chg (ch4.drew) (fun _ _ _ _ h => h)
            have cr4 := hcr.more ch4
            rw [← hQ] at q4
            have Q4 : Hid _ := q4
            have X4 : Hid _ := x4
            have P4 : Hid _ := p4
            have CR4 : Hid _ := cr4
            have W4 : Hid _ := hw4
            have HQ : Hid _ := hQ
            have CH4 : Hid _ := ch4
            have SS : Hid (w4.cell? ⟨Q, 0, none⟩ = some (.int .i64 yn) ∧ w4.cell? ⟨Q, 1, none⟩ = some (.slice (some ⟨yb, 0, none⟩) z z) ∧ w4.cell? ⟨w.heap.size, 0, none⟩ = some (.slice a N cN) ∧ w4.cell? ⟨w.heap.size, 1, none⟩ = some (.int .i64 torn) ∧ w4.cell? ⟨w.heap.size, 2, none⟩ = some (.int .i64 at_)) := ⟨q4.cell 0, q4.cell 1, x4.cell 0, x4.cell 1, x4.cell 2⟩
            have KP0 := kept_any (c := cN) p4 rfl kb4 torn at_ yn hyn hz
            rw [← hk] at KP0
            have KP : Hid _ := KP0
            have HST : Hid _ := hstep
            have HYM : Hid _ := hym
            clear q4 x4 cr4 hw4 hQ ch4 hcr hy KP0 hstep p4 kb4 hk hym hS2
            go_upto_region 9 with fail
            rw [← W4.out, ← HQ.out]
            refine wp_region_noPanic ?_
            refine wp_region_held_drew (S := fun w' => w'.cell? ⟨Q, 0, none⟩ = some (.int .i64 yn) ∧ w'.cell? ⟨Q, 1, none⟩ = some (.slice (some ⟨yb, 0, none⟩) z z) ∧ w'.cell? ⟨w.heap.size, 0, none⟩ = some (.slice a N cN) ∧ w'.cell? ⟨w.heap.size, 1, none⟩ = some (.int .i64 torn) ∧ w'.cell? ⟨w.heap.size, 2, none⟩ = some (.int .i64 at_)) (by kernel_rfl) SS.out (fun hH => ?_)
            refine wpAnyH_take (i := 0) (v := .pointer (some ⟨p, 0, none⟩)) rfl (by kernel_rfl) (by kernel_rfl) (by kernel_rfl) (fun _ _ _ h => h) (Or.inl ⟨by rfl, fun w' hw' => by go_simp⟩) hH ?_
            refine wpAnyH_take (i := 1) (v := .int .i64 s) rfl (by kernel_rfl) (by kernel_rfl) (by kernel_rfl) (fun _ _ _ h => h) (Or.inl ⟨by rfl, fun w' hw' => by go_simp⟩) hH ?_
            refine wpAnyH_take (i := 2) (v := .pointer (some ⟨Q, 1, none⟩)) rfl (by kernel_rfl) (by kernel_rfl) (by kernel_rfl) (fun _ _ _ h => h) (Or.inl ⟨by rfl, fun w' hw' => by go_simp⟩) hH ?_
            refine wpAnyH_take (i := 3) (v := .slice (some ⟨yb, 0, none⟩) z z) rfl (by kernel_rfl) (by kernel_rfl) (by kernel_rfl) (fun _ _ _ h => h) (Or.inl ⟨by rfl, fun w' hw' => by have q1 := hw'.2.1; go_simp⟩) hH ?_
            refine wpAnyH_take (i := 4) (v := .pointer (some ⟨p, 0, none⟩)) rfl (by kernel_rfl) (by kernel_rfl) (by kernel_rfl) (fun _ _ _ h => h) (Or.inl ⟨by rfl, fun w' hw' => by go_simp⟩) hH ?_
            refine wpAnyH_take (i := 5) (v := .agg #[.slice a N cN, .int .i64 torn, .int .i64 at_]) rfl (by kernel_rfl) (by kernel_rfl) (by kernel_rfl) (fun _ _ _ h => h) (Or.inl ⟨by rfl, fun w' hw' => by have q1 := hw'.2.2.1; have q2 := hw'.2.2.2.1; have q3 := hw'.2.2.2.2; go_simp⟩) hH ?_
            refine wpAnyH_take (i := 6) (v := .pointer (some ⟨Q, 0, none⟩)) rfl (by kernel_rfl) (by kernel_rfl) (by kernel_rfl) (fun _ _ _ h => h) (Or.inl ⟨by rfl, fun w' hw' => by go_simp⟩) hH ?_
            refine wpAnyH_take (i := 7) (v := .int .i64 yn) rfl (by kernel_rfl) (by kernel_rfl) (by kernel_rfl) (fun _ _ _ h => h) (Or.inl ⟨by rfl, fun w' hw' => by have q1 := hw'.1; go_simp⟩) hH ?_
            refine wpAnyH_ready (rs := [8]) (by kernel_rfl) (by simp) ?_
            refine AllReadyH.cons rfl (fun K hK => ?_) AllReadyH.nil
            go_simp
            refine Calls.mono KP.out ?_
            rintro e w5 ⟨rfl, ch5⟩
            have ch5' : Chg (fun _ => False) w4 w5 := ⟨ch5.os, ch5.tape, ch5.output, ch5.size, ch5.block⟩
            have hk5 : ∀ a v, w4.cell? a = some v → w5.cell? a = some v := fun a v ha => ch5'.cell_some (a := a) ha (fun h => h)
            refine hK.out _ _ ⟨hk5 _ _ SS.out.1, hk5 _ _ SS.out.2.1, hk5 _ _ SS.out.2.2.1, hk5 _ _ SS.out.2.2.2.1, hk5 _ _ SS.out.2.2.2.2⟩ (fun h1 => ?_)
            clear hK K
            refine wpAnyH_take (i := 9) (v := .slice (some ⟨yb, 0, none⟩) k z) rfl (by kernel_rfl) (by kernel_rfl) (by kernel_rfl) (fun _ _ _ h => h) (Or.inl ⟨by rfl, fun w' hw' => by go_simp⟩) h1 ?_
            have CR5 := CR4.out.more ch5'
            have AP : Hid (Calls Try.prog 60 #[.pointer (some ⟨p, 0, none⟩), .int .i64 s, .slice (some ⟨yb, 0, none⟩) k z] w5 fun e w' => e = .returned (.tuple #[]) ∧ CB w2 w' m c I kc z b D left' cnt1 K (updT (T left') s (Fi (i + 1))) (cnt1 + (if Fi (i + 1) = none then 1 else 0)) ∧ ∀ a v, (a.block = Q ∨ a.block = w.heap.size) → w5.cell? a = some v → w'.cell? a = some v) := by
              by_cases hk0 : k = 0
              · have e9 := HST.out
                rw [if_pos hk0] at e9
                rw [e9]
                subst hk0
                refine (apply_none (w := w5) (p := p) s (some ⟨yb, 0, none⟩) z).mono ?_
                rintro e w6 ⟨rfl, h6⟩
                subst h6
                exact ⟨rfl, CR5, fun _ _ _ h => h⟩
              · have e9 := HST.out
                rw [if_neg hk0] at e9
                have p5 : Rw w5 p (heldG S z m c x) 86 := ⟨ch5.heap_some P4.out.eq (fun h => h)⟩
                obtain ⟨ryb, yI⟩ := LRQ.out w5 CR5.ch s (yn, yb) HYM.out
                refine (CR5.apply p5 rfl rfl s (by omega) hz hb (fun h9 => by rw [updT_same] at h9; rw [if_pos h9]; omega) ryb hyc yI (fun t e => HC.out.kl t s yb (yn, yb) e HYM.out rfl) (by omega) hkz).mono ?_
                rintro e w6 ⟨rfl, cb6, G, chG, hG⟩
                rw [updT_same, updT_updT] at cb6
                refine ⟨rfl, ?_, fun a v ha hv => chG.cell_some hv (fun e => ?_)⟩
                · rw [e9]
                  refine cb6.less ?_
                  simp only [reduceCtorEq, if_false]
                  split <;> omega
                · have h5q : ∃ cs t, w5.heap[a.block]? = some (.cells cs t (0, 0)) ∧ t ≠ 5 := by
                    rcases ha with ha | ha
                    · exact ⟨_, 90, by rw [ha]; exact ch5'.heap_some Q4.out.eq (fun h => h), by decide⟩
                    · exact ⟨_, 66, by rw [ha]; exact ch5'.heap_some X4.out.eq (fun h => h), by decide⟩
                  obtain ⟨cs9, t9, h9, hn9⟩ := h5q
                  rcases e with e | e
                  · obtain ⟨km', K', E', C', d1, _⟩ := CR5.du
                    obtain ⟨es, cl, hm⟩ := d1.map
                    rw [e, hm] at h9
                    cases h9
                  · rcases hG with ⟨cur, hG⟩ | hG
                    · rw [e, hG] at h9
                      injection h9 with h9
                      injection h9 with _ h9
                      exact hn9 h9.symm
                    · have := (Array.getElem?_eq_some_iff.1 h9).1
                      omega
            clear CR5 ch5 hk5
            refine wpAnyH_ready (rs := [10]) (by kernel_rfl) (by simp) ?_
            refine AllReadyH.cons rfl (fun K hK => ?_) AllReadyH.nil
            go_simp
            refine Calls.mono AP.out ?_
            rintro e w6 ⟨rfl, cb6, hk6⟩
            refine hK.out _ _ ⟨hk6 _ _ (.inl rfl) h1.1, hk6 _ _ (.inl rfl) h1.2.1, hk6 _ _ (.inr rfl) h1.2.2.1, hk6 _ _ (.inr rfl) h1.2.2.2.1, hk6 _ _ (.inr rfl) h1.2.2.2.2⟩ (fun _ => ?_)
            clear hK K
            refine wpAnyH_done (by kernel_rfl) (NoPanic.normal ?_) _
            have CR6 : Hid _ := cb6
            clear cb6 hk6 h1 hH a1 a2 SS KP X4 Q4 CR4 W4 HQ CH4 AP ch5' P4 HST HYM hyc hkz
            go_wp2_with fail
            go_roundg (n - i)
            case measure => omega
            case rel => exact ⟨i + 1, by go_num, by omega, by omega, CR6.out⟩
end Go.Proofs.Ytddnecfnjnipjaa
