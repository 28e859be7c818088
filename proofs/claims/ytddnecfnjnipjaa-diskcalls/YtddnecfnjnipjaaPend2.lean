/-
  Pending, whatever is in the cache: the sectors of the writes, in their order.
-/
import Derived.Test.YtddnecfnjnipjaaAtom
namespace Go.Proofs.Ytddnecfnjnipjaa
open Go.RowKit Go.RwLone

def zer3 (n : Nat) : List Value := List.replicate n (.int .i64 0)
theorem made_zer3 (n : Nat) : madeCells (Value.int .i64 0).cells (n * 1) = (zer3 n).toArray := by
  apply Array.ext_getElem?
  intro i
  simp [madeCells, zer3, Value.cells]
  by_cases h : i < n <;> simp [h, Nat.mod_one]
theorem run_mk39 (n : Nat) (h : n ≤ 4398046511104) (w : World) : (Instr.makeSlice 99 (.int .i64 n) (.int .i64 n)).run Try.prog w = .ok (.slice (some ⟨w.heap.size, 0, none⟩) n n) (w.alloc (.cells (zer3 n).toArray 3)) := by
  obtain ⟨i0, hi, hz0, hz1, hz2⟩ := info_parts info3
  have := run_make (P := Try.prog) w 99 3 i0 (.int .i64 0) Try.underlying99 hi hz0 .i64 .i64 n n (by omega) (Int.le_refl _) (by rw [hz2]; omega) (by omega)
  rw [this, hz1, Int.toNat_natCast, made_zer3]

/-- Sectors as cells. -/
def pcells (P : List Nat) : List Value := P.map fun (t : Nat) => .int .i64 (t : Int)

/-- While Pending ranges over the cache. -/
structure PR (w1 wr : World) (c I J kc n : Nat) (D : DataW Unit) (L : Nat → List (Nat × Nat)) (vis : Nat → Nat × Nat → Prop) (left : Lit → Bool) (cnt : Nat) : Prop where
  rg : wr.ranges Try.prog 3 anyElem c J kc D left cnt
  bl : Below I w1 wr
  jr : J < wr.heap.size
  out : ∃ cs : Array Value, cs.size = n ∧ Rw wr I cs 3 ∧ ∀ t y, y ∈ L t → vis t y → cs[y.1]? = some (.int .i64 (t : Int))
  sub : ∀ kl, left kl = true → Maps.has D kl = true

theorem PR.more {w1 wr wn : World} {c I J kc n : Nat} {D : DataW Unit} {L : Nat → List (Nat × Nat)} {vis : Nat → Nat × Nat → Prop} {left : Lit → Bool} {cnt : Nat} (h : PR w1 wr c I J kc n D L vis left cnt) (k : Chg (fun _ => False) wr wn) (hI : I ≤ wr.heap.size) : PR w1 wn c I J kc n D L vis left cnt := by
  obtain ⟨cs, h1, h2, h3⟩ := h.out
  exact ⟨h.rg.kept (row := none) ⟨k.os, k.tape, k.output, k.size, fun i hi _ => k.block i hi (fun h => h)⟩ (by simp) (by simp), h.bl.trans (k.below hI (fun _ h => h.elim)), Nat.lt_of_lt_of_le h.jr k.size, ⟨cs, h1, ⟨k.heap_some h2.eq (fun h => h)⟩, h3⟩, h.sub⟩
theorem PR.see {w1 wr : World} {c I J kc n : Nat} {D : DataW Unit} {L : Nat → List (Nat × Nat)} {vis vis' : Nat → Nat × Nat → Prop} {left : Lit → Bool} {cnt : Nat} (h : PR w1 wr c I J kc n D L vis left cnt) (hv : ∀ t y, y ∈ L t → vis' t y → vis t y) : PR w1 wr c I J kc n D L vis' left cnt := by
  obtain ⟨cs, h1, h2, h3⟩ := h.out
  exact ⟨h.rg, h.bl, h.jr, ⟨cs, h1, h2, fun t y hy hs => h3 t y hy (hv t y hy hs)⟩, h.sub⟩

set_option maxRecDepth 100000 in
set_option maxHeartbeats 4000000 in
theorem pending_list {w : World} {p m c S z kc km b : Nat} {x : Nums} {L : Nat → List (Nat × Nat)} {V : Nat → Value} {D : DataW Unit} {K : Nat → Option Nat} {E : DataW Unit} (h : DD w p m c S z kc km b x L V D K E) (hb : b ≤ 4398046511104) {n : Nat} (hx : x.pend = n) {P : List Nat} (hPl : P.length = n) (hP1 : ∀ t y, y ∈ L t → P[y.1]? = some t) (hP2 : ∀ k t, P[k]? = some t → ∃ y ∈ L t, y.1 = k) (hnb : n ≤ 4398046511104) :
    Calls Try.prog 46 #[.pointer (some ⟨p, 0, none⟩)] w fun e w' => ∃ g, e = .returned (.slice (some ⟨g, 0, none⟩) n n) ∧ w.heap.size ≤ g ∧ Rw w' g (pcells P).toArray 3 ∧ Rw w' p (dkG S z m c x) 86 ∧ Chg (fun k => k = p) w w' := by
  have hn : ∀ t y, y ∈ L t → y.1 < n := fun t y hy => by
    have := (List.getElem?_eq_some_iff.1 (hP1 t y hy)).1
    omega
  have r0 := h.row
  have c2 : w.cell? ⟨p, 2, none⟩ = some (.int .i32 0) := r0.cell 2
  have c5 : w.cell? ⟨p, 5, none⟩ = some (.int .u32 0) := r0.cell 5
  have c6 : w.cell? ⟨p, 6, none⟩ = some (.int .i32 0) := r0.cell 6
  have f6 := r0.fr 6
  have HD : Hid _ := h
  have HN : Hid _ := hn
  have HPL : Hid _ := hPl
  have HP1 : Hid _ := hP1
  have HP2 : Hid _ := hP2
  have hmk := run_mk39 n hnb
  clear h r0 hn hPl hP1 hP2
  go_enter_defers Try.func46, Try.ntmps46
  go_wp2_with fail
  refine (rlock_open Try.rwRLib p 2 0 _ _ _ c2 c5 c6 f6 (by rw [wr1]; decide)).mono ?_
  rintro e w' ⟨rfl, rfl⟩
  rw [wr1]
  have R1 := Rw.set HD.out.row 6 (.int .i32 1)
  obtain ⟨w1, hw1⟩ : ∃ w1, w1 = w.setCell ⟨p, 6, none⟩ (.int .i32 1) := ⟨_, rfl⟩
  rw [← hw1] at R1
  have e1 : w.setCell ⟨p, 2 + 4, none⟩ (.int .i32 1) = w1 := hw1.symm
  rw [e1]
  have hc1 : Chg (fun k => k = p) w w1 := by rw [hw1]; exact (Chg.refl (fun k => k = p) w).setCell (.inl rfl) _
  have hca1 : Ca w1 c kc z L V D := HD.out.ca.kept (grown_of hc1) (fun e => HD.out.cp (by injection e)) (fun t g hg e => HD.out.vp t (by rw [hg, e]))
  have d10 : w1.cell? ⟨p, 10, none⟩ = some (.int .i64 n) := by
    have := Rw.cell R1 10
    rw [this]
    show some (Value.int .i64 x.pend) = _
    rw [hx]
  obtain ⟨w2, hw2⟩ : ∃ w2, w2 = w1.alloc (.cells (zer3 n).toArray 3) := ⟨_, rfl⟩
  have hb2 : Below w1.heap.size w1 w2 := by rw [hw2]; exact (Below.refl _ _).alloc (Nat.le_refl _) _
  have K2 : Hid (Rw w2 p _ 86) := Rw.keep R1 hb2
  have d9 : w2.cell? ⟨p, 9, none⟩ = some (.map (some c)) := Rw.cell K2.out 9
  have O2 : Hid (Rw w2 w1.heap.size (zer3 n).toArray 3) := by rw [hw2]; exact ⟨heap_alloc_new _ _⟩
  have CA2 : Hid (Ca w2 c kc z L V D) := hca1.kept (row := none) ⟨hb2.os, hb2.tape, hb2.output, hb2.size, fun k hk _ => hb2.block k hk⟩ (by simp) (by simp)
  have CA1 : Hid _ := hca1
  have K1 : Hid _ := R1
  have C1 : Hid _ := hc1
  have HB2 : Hid _ := hb2
  clear c2 c5 c6 f6 R1 hw1 e1 hc1 hca1 hb2
  go_upto_region 4 with fail
  rw [← hw2]
  clear hw2 hmk d10
  go_wp2_with (first | (at_range; refine wpList_range_own _ rfl (.tmp 23) 81 rfl 3 88 keyed3 Try.underlying81 anyElem c kc D rfl CA2.out.own ?_; intro w3 hrg0 hg0 hs0; have RG0 : Hid _ := hrg0; have HG0 : Hid _ := hg0; have HS0 : Hid _ := hs0; clear hrg0 hg0 hs0) | go_in)
  try go_frame
  have hb0 : Below w2.heap.size w2 w3 := ⟨HG0.out.os, HG0.out.tape, HG0.out.output, HG0.out.size, fun k hk => HG0.out.block k hk (by simp)⟩
  obtain ⟨I, hI⟩ : ∃ I, I = w1.heap.size := ⟨_, rfl⟩
  obtain ⟨J, hJ⟩ : ∃ J, J = w2.heap.size := ⟨_, rfl⟩
  have hIJ : I < J := by rw [hI, hJ]; exact O2.out.lt
  have K0 : Hid (PR w1 w3 c I J kc n D L (fun t _ => Maps.has D (kI t) = false) (Maps.has D) (Maps.size D)) := by
    rw [hI, hJ]
    exact ⟨RG0.out, HB2.out.trans (hb0.mono HB2.out.size), by have := HS0.out; omega, ⟨_, by simp [zer3], Rw.keep O2.out hb0, fun t y hy hf => by
      have : Maps.has D (kI t) = true := (HD.out.ca.has _).2 ⟨t, rfl, fun e => by rw [e] at hy; cases hy⟩
      rw [this] at hf
      cases hf⟩, fun _ h => h⟩
  have hIv : Hid (∀ s g, (V s).ownBlock = some g → g < I) := fun s g hg => by rw [hI]; exact CA1.out.blt s g hg
  have hpI : p < I := by rw [hI]; exact K1.out.lt
  have hcI : c < I := by
    obtain ⟨es, cl, hm⟩ := CA1.out.map
    rw [hI]
    exact (Array.getElem?_eq_some_iff.1 hm).1
  rw [← hJ, ← hI]
  have hIw : w.heap.size ≤ I := by rw [hI]; exact C1.out.size
  have HIE : Hid (I = w1.heap.size) := hI
  clear hI hb0 RG0 HG0 HS0 d9 hJ CA2 O2 K2 HB2
  go_loopw [4] (fun _ wr => ∃ left cnt, Hid (PR w1 wr c I J kc n D L (fun t _ => left (kI t) = false) left cnt)) (fun _ wr => wr.rangeLeft c J)
  case atStart => exact ⟨_, _, K0.out⟩
  case round =>
    obtain ⟨left, cnt, hfi⟩ := hrel
    have HI : Hid _ := hfi.out
    clear hfi K0
    go_wp2_with (first | (at_next; refine wpList_next_ranges _ rfl (.tmp 24) rfl 3 keyed3 anyElem (Value.int .i64) mkA (fun key kl hkey => by obtain ⟨x9, rfl, _⟩ := Maps.keyOf_int_inv Try.underlying3 hkey; exact ⟨x9, rfl⟩) mkA_inv c J kc D left cnt rfl HI.out.rg ?_ ?_) | go_in)
    · intro _ hl0
      have OUT : Hid (Rw wr I (pcells P).toArray 3) := by
        obtain ⟨cs, h1, h2, h3⟩ := HI.out.out
        have e9 : cs = (pcells P).toArray := by
          apply Array.ext_getElem?
          intro k
          have e8 : (pcells P).toArray[k]? = (P[k]?).map (fun (t : Nat) => Value.int .i64 (t : Int)) := by
            rw [List.getElem?_toArray]
            unfold pcells
            rw [List.getElem?_map]
          rw [e8]
          by_cases hk : k < n
          · obtain ⟨t, ht⟩ : ∃ t, P[k]? = some t := ⟨P[k]'(by have := HPL.out; omega), List.getElem?_eq_getElem _⟩
            obtain ⟨y, hy, e⟩ := HP2.out k t ht
            rw [ht, ← e, h3 t y hy (by rw [hl0])]
            rfl
          · rw [List.getElem?_eq_none (by have := HPL.out; omega), Array.getElem?_eq_none (by omega)]
            rfl
        rw [← e9]
        exact h2
      clear hl0
      have K3 : Hid (Rw wr p _ 86) := ⟨(HI.out.bl.block p hpI).trans K1.out.eq⟩
      go_wp2_with fail
      refine leaves_cons (f := 32) (args := #[.pointer (some ⟨p, 2, none⟩)]) (by simp) (by simp [go_sem]) ?_
      refine (runlock_deferred Try.rwRLib p 2 1 _ _ .returning _ (Rw.cell K3.out 2) (Rw.cell K3.out 4) (Rw.cell K3.out 6) (Rw.fr K3.out 6) (by rw [wr0]; decide)).mono ?_
      rintro e u' w'' ⟨rfl, rfl, rfl⟩
      refine ⟨_, results_tmp rfl _ _ _, I, rfl, hIw, Rw.chg1 OUT.out ((Chg.refl (fun k => k = p) wr).setCell (.inl rfl) _) (by omega), ?_⟩
      rw [wr0]
      have K4 := Rw.set K3.out 6 (.int .i32 0)
      have hc : Chg (fun k => k = p) w wr := C1.out.trans (Chg.of_below (by rw [← HIE.out]; exact HI.out.bl) (fun _ => False)) (fun _ h => h.elim)
      exact ⟨K4, hc.setCell (.inl rfl) _⟩
    · intro x0 e0 kl y1 y2 wn cnt1 hkey hlk hv hat hrg1 hlt hg1 hs1 hen
      obtain ⟨s, hkl, hLs⟩ := (HD.out.ca.has kl).1 (HI.out.sub kl hlk)
      obtain ⟨x', ex, ekl, _⟩ := Maps.keyOf_int_inv Try.underlying3 hkey
      rw [hkl] at ekl
      injection ekl with _ ekl
      injection ex with _ ex
      have hxi : x0 = (s : Int) := by omega
      have hy1 : y1 = enc (V s) := by rw [← hat .nil, hkl]; exact HD.out.ca.at_ s
      have hv' : anyElem (mkA e0) = some (enc (V s), y2) := by rw [← hy1]; exact hv
      have hE := anyElem_inv (HD.out.ca.flat s) hv'
      rw [hE, hxi] at hen
      rw [hE, hxi]
      obtain ⟨k, hk⟩ : ∃ k, k = (L s).length := ⟨_, rfl⟩
      have hkb : k ≤ 4398046511104 := by rw [hk]; exact Nat.le_trans (HD.out.ll s) hb
      rcases (CA1.out.row s).2 with ⟨e, h0⟩ | ⟨g, cap, cur, e, _, hgg, h1, h2, h3, h4⟩
      · exact absurd (List.eq_nil_of_length_eq_zero h0) hLs
      · rw [← hk] at e
        rw [e] at hen ⊢
        have hgI : g < I := hIv.out s g (by rw [e]; rfl)
        have hch1 : Chg (fun k => k = J) wr wn := ⟨hg1.os, hg1.tape, hg1.output, hg1.size, fun k hk hn => hg1.block k hk (by simpa using hn)⟩
        have pr1 : PR w1 wn c I J kc n D L (fun t y => (t ≠ s ∧ left (kI t) = false) ∨ (t = s ∧ ∃ j, j < 0 ∧ (L s)[j]? = some y)) (fun y => left y && !y.sameKey kl) cnt1 := by
          obtain ⟨cs, o1, o2, o3⟩ := HI.out.out
          exact ⟨hrg1, HI.out.bl.trans (hch1.below (by have := HI.out.jr; omega) (fun k e => by omega)), by rw [hs1]; exact HI.out.jr, ⟨cs, o1, Rw.chg1 o2 hch1 (by omega), fun t y hy hv => o3 t y hy (by
            rcases hv with hv | ⟨_, j, hj, _⟩
            · exact hv.2
            · omega)⟩, fun kl2 h => HI.out.sub kl2 (by simp at h; exact h.1)⟩
        have CELL : Hid (∀ (wq : World), Below I w1 wq → ∀ i y, (L s)[i]? = some y → wq.cell? ⟨g, i * 2, none⟩ = some (.int .i64 y.1) ∧ wq.cell? ⟨g, i * 2 + 1, none⟩ = some (.slice (some ⟨y.2, 0, none⟩) z z)) := fun wq hbq i y hy => by
          obtain ⟨a1, a2⟩ := wcells_get z (L s) i y hy
          have hq : wq.heap[g]? = w1.heap[g]? := hbq.block g hgI
          have hr := CA1.out.row s
          have b1 := World.ownsRow.cells hr (g := g) (by rw [e]; rfl) (i * 2) _ a1
          have b2 := World.ownsRow.cells hr (g := g) (by rw [e]; rfl) (i * 2 + 1) _ a2
          rw [addr_add, Nat.zero_add] at b1 b2
          exact ⟨(World.cell?_of_block (a := ⟨g, i * 2, none⟩) hq).trans b1, (World.cell?_of_block (a := ⟨g, i * 2 + 1, none⟩) hq).trans b2⟩
        have PR1 : Hid _ := pr1
        have HLT : Hid _ := hlt
        have HKK : Hid _ := hk
        have HKL : Hid _ := hkl
        clear hat hv hkey hlk hrg1 hlt hg1 hs1 pr1 hch1 ekl ex hkl hxi hE hv' hy1 hgg h1 h2 h3 h4 e hk
        go_wp2_with fail
        go_loopg [32] (k + 1) (fun gk si wq => ∃ i : Nat, si = .int .i64 i ∧ i ≤ k ∧ k < gk + i ∧ Hid (PR w1 wq c I J kc n D L (fun t y => (t ≠ s ∧ left (kI t) = false) ∨ (t = s ∧ ∃ j, j < i ∧ (L s)[j]? = some y)) (fun y => left y && !y.sameKey kl) cnt1))
        case atStart => exact ⟨0, rfl, by omega, by omega, PR1.out⟩
        case round =>
          obtain ⟨i, rfl, hi, hgk, hid⟩ := hrel
          have hpr := hid.out
          clear hid PR1
          by_cases hin : i = k
          · subst hin
            have PRq : Hid _ := hpr
            clear hpr
            go_wp2_with fail
            go_roundw
            case rel =>
              refine ⟨_, _, PRq.out.see (fun t y hy hv => ?_)⟩
              rw [HKL.out] at hv
              simp only [sameKey_kI] at hv
              by_cases e : t = s
              · obtain ⟨j, hj, ej⟩ := List.getElem_of_mem hy
                subst e
                exact .inr ⟨rfl, j, by have := HKK.out; omega, by rw [List.getElem?_eq_getElem hj, ej]⟩
              · exact .inl ⟨e, by simpa [e] using hv⟩
            case measure => rw [PRq.out.rg.left_eq, HI.out.rg.left_eq]; exact HLT.out
          · have hil : (i : Int) < (k : Int) := by omega
            obtain ⟨y, hy⟩ : ∃ y, (L s)[i]? = some y := ⟨(L s)[i]'(by have := HKK.out; omega), List.getElem?_eq_getElem _⟩
            obtain ⟨a1, a2⟩ := CELL.out wr hpr.bl i y hy
            have hyn := HN.out s y (List.mem_of_getElem? hy)
            have hyP := HP1.out s y (List.mem_of_getElem? hy)
            obtain ⟨yn, yb⟩ := y
            simp only at a1 a2 hyn hyP
            have hyi : (yn : Int) < (n : Int) := by omega
            obtain ⟨cs, o1, o2, o3⟩ := hpr.out
            obtain ⟨ov, hov⟩ : ∃ ov, wr.cell? ⟨I, yn, none⟩ = some ov := by
              rw [Rw.cell o2 yn]
              exact ⟨_, Array.getElem?_eq_getElem (by omega)⟩
            have ho2 : (wr.alloc (.cells #[.int .i64 yn, .slice (some ⟨yb, 0, none⟩) z z] 90)).cell? ⟨I, yn, none⟩ = some ov := ((Chg.refl (fun _ => False) wr).alloc _).cell_some hov (fun h => h)
            have fo2 : (wr.alloc (.cells #[.int .i64 yn, .slice (some ⟨yb, 0, none⟩) z z] 90)).frozen? ⟨I, yn, none⟩ = false := Rw.fr (Rw.alloc o2 _) yn
            have hIlt := o2.lt
            have hjr := hpr.jr
            have K5 : Hid (PR w1 ((wr.setCell ⟨I, yn, none⟩ (.int .i64 s)).alloc (.cells #[.int .i64 yn, .slice (some ⟨yb, 0, none⟩) z z] 90)) c I J kc n D L (fun t y => (t ≠ s ∧ left (kI t) = false) ∨ (t = s ∧ ∃ j, j < i + 1 ∧ (L s)[j]? = some y)) (fun y => left y && !y.sameKey kl) cnt1) := by
              have cc : Chg (fun i => i = I) wr (wr.setCell ⟨I, yn, none⟩ (.int .i64 s)) := (Chg.refl (fun i => i = I) wr).setCell (.inl rfl) _
              have p5 : PR w1 (wr.setCell ⟨I, yn, none⟩ (.int .i64 s)) c I J kc n D L (fun t y => (t ≠ s ∧ left (kI t) = false) ∨ (t = s ∧ ∃ j, j < i + 1 ∧ (L s)[j]? = some y)) (fun y => left y && !y.sameKey kl) cnt1 := ⟨hpr.rg.kept (grown_of cc) (fun e => by injection e with e; omega) (fun e => by injection e with e; omega), hpr.bl.trans (cc.below (by omega) (fun k e => by omega)), Nat.lt_of_lt_of_le hpr.jr cc.size, ⟨_, by simp [o1], Rw.set o2 yn (.int .i64 s), fun t y hyt hv => by
                by_cases e : y.1 = yn
                · have hts : t = s := by
                    have h9 := HP1.out t y hyt
                    rw [e, hyP] at h9
                    injection h9 with h9
                    exact h9.symm
                  rw [e, hts, Array.getElem?_setIfInBounds_self_of_lt (by omega)]
                · rw [Array.getElem?_setIfInBounds_ne (fun e2 => e e2.symm)]
                  refine o3 t y hyt ?_
                  rcases hv with hv | ⟨hts, j, hj, hjy⟩
                  · exact .inl hv
                  · by_cases e3 : j = i
                    · rw [e3, hy] at hjy
                      injection hjy with hjy
                      rw [← hjy] at e
                      exact absurd rfl e
                    · exact .inr ⟨hts, j, by omega, hjy⟩⟩, hpr.sub⟩
              exact p5.more ((Chg.refl _ _).alloc _) (by have := cc.size; omega)
            clear hpr o2 o3 hy hov hyP
            go_wp2_with fail
            go_roundg (k - i)
            case measure => omega
            case rel => exact ⟨i + 1, by go_num, by omega, by omega, K5.out⟩

theorem AB.pending {w : World} {Bl : Nat → Prop} {p S z b n : Nat} {x : Nums} {A : Nat → List (Nat × List Int)} {F : Nat → Option (List Int)} (h : AB w Bl p S z b x A F) (hb : b ≤ 4398046511104) (hx : x.pend = n) (hnb : n ≤ 4398046511104) :
    Calls Try.prog 46 #[.pointer (some ⟨p, 0, none⟩)] w fun e w' => ∃ g P, e = .returned (.slice (some ⟨g, 0, none⟩) n n) ∧ w.heap.size ≤ g ∧ Rw w' g (pcells P).toArray 3 ∧ Pl P n A ∧ Chg (fun i => i = p) w w' ∧ AB w' Bl p S z b x A F := by
  obtain ⟨m, c, kc, km, L, V, D, K, E, C, hd, hm, hc, hV, hK, hL, hA, hF⟩ := h.ex
  obtain ⟨P, hP⟩ := h.nb.ps
  rw [hx] at hP
  refine (pending_list hd.dd hb hx (P := P) (by have := hP.len; omega) (fun t y hy => ?_) (fun k t hk => ?_) hnb).mono ?_
  · exact hP.at_ t (y.1, C y.2) (by rw [← hA t]; exact List.mem_map.2 ⟨y, hy, rfl⟩)
  · obtain ⟨y, hy, e⟩ := hP.has k t hk
    rw [← hA t] at hy
    obtain ⟨y', hy', e'⟩ := List.mem_map.1 hy
    exact ⟨y', hy', by rw [← e, ← e']⟩
  · rintro e w9 ⟨g, rfl, hgl, hrg, hr, ch⟩
    exact ⟨g, P, rfl, hgl, hrg, hP, ch, ⟨⟨m, c, kc, km, L, V, D, K, E, C, hd.turn ch hr rfl (Nat.le_refl _), hm, hc, hV, hK, hL, hA, hF⟩, h.bp, fun g hg => Nat.lt_of_lt_of_le (h.low g hg) ch.size, h.nb⟩⟩
end Go.Proofs.Ytddnecfnjnipjaa
