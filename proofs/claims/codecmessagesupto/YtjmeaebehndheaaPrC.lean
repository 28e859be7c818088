/-
  Proofs as bytes: written whole, read whole.
-/
import Derived.Test.YtjmeaebehndheaaPrX
import Derived.Test.YtjmeaebehndheaaPrP
namespace Go.Proofs.Ytjmeaebehndheaa
open Go.RowKit

def proofE (T : List Int) : Int := endE T (proofS T 0 0).at_ (proofS T 0 0).err
def prZ : List Value := prC 0 (.slice none 0 0)
theorem prZ_one : ∀ u ∈ prZ, u.oneCell' = true := prC_one _ rfl
theorem Try.prZsz (C : List Value) (h : C.length = prZ.length) : (Try.prog.info? 98).map (·.size) = some C.length := by rw [h]; exact Try.size98
theorem OM.mono {w : World} {B B' : Nat} {v : Value} {L : List (OpS × Value × Value)} (h : OM w B v L) (hB : B' ≤ B) : OM w B' v L := ⟨h.gl, h.own, fun g hg => Nat.le_trans hB (h.nb g hg), fun o ho g hg => Nat.le_trans hB (h.nk o ho g hg)⟩
/-- These cells are that proof. -/
structure PrIs (w : World) (B : Nat) (S : PrS) (C : List Value) : Prop where
  ex : ∃ v L, C = prC S.ct v ∧ OM w B v L ∧ L.map Prod.fst = S.ops
theorem PrIs.kept {w w' : World} {B : Nat} {S : PrS} {C : List Value} (h : PrIs w B S C) {q : Nat} {cs : List Value} (hq : Blk w q cs 98) (c : Chg (fun k => k = q) w w') : PrIs w' B S C := by
  obtain ⟨v, L, e, om, ho⟩ := h.ex
  exact ⟨v, L, e, om.kept c (fun g cur t e hg => by
    rw [e, hq.eq] at hg
    injection hg with hg
    injection hg with _ hg
    rw [← hg]
    decide), ho⟩
theorem PrIs.fresh {w w' : World} {B : Nat} {S : PrS} {C : List Value} (h : PrIs w B S C) (c : Chg (fun _ => False) w w') : PrIs w' B S C := by
  obtain ⟨v, L, e, om, ho⟩ := h.ex
  exact ⟨v, L, e, om.fresh c, ho⟩
theorem PrIs.mono {w : World} {B B' : Nat} {S : PrS} {C : List Value} (h : PrIs w B S C) (hB : B' ≤ B) : PrIs w B' S C := by
  obtain ⟨v, L, e, om, ho⟩ := h.ex
  exact ⟨v, L, e, om.mono hB, ho⟩
theorem PrIs.len {w : World} {B : Nat} {S : PrS} {C : List Value} (h : PrIs w B S C) : C.length = prZ.length ∧ ∀ u ∈ C, u.oneCell' = true := by
  obtain ⟨v, L, e, om, ho⟩ := h.ex
  rw [e]
  exact ⟨rfl, prC_one _ om.gl.one⟩

set_option maxRecDepth 100000 in
set_option maxHeartbeats 1000000 in
theorem bytesProof_any {w : World} {T : Prf} (hT : PrIn w (fun g => g < w.heap.size) T) (hl : T.bytes.length ≤ 70368744177664) :
    Calls Try.prog 54 #[.iface 177 (.agg T.cells.toArray)] w fun e w' => ∃ u, e = .returned u ∧ Made w w' u T.bytes := by
  have c0 : Chg (fun _ => False) w (w.alloc (.cells #[.slice none 0 0] 191)) := (Chg.refl _ _).alloc _
  have HW : Hid (WB (w.alloc (.cells #[.slice none 0 0] 191)) (w.alloc (.cells #[.slice none 0 0] 191)) (fun g => g < w.heap.size) w.heap.size 191 []) :=
    ⟨⟨_, _, WS.new w 191, fun g hg => by simp [Value.ownBlock] at hg⟩, fun e => by omega, Chg.refl _ _, fun g e => by simp; omega⟩
  have HT : Hid (PrIn (w.alloc (.cells #[.slice none 0 0] 191)) (fun g => g < w.heap.size) T) := hT.kept c0 (fun _ _ e => e)
  have C0 : Hid _ := c0
  clear hT c0
  go_enter Try.func54, Try.ntmps54
  go_wp2_with fail
  refine Calls.mono (wProof_any HW.out HT.out (by simp; omega)) ?_
  rintro e w1 ⟨rfl, p1⟩
  have P1 : Hid _ := p1
  obtain ⟨cs, v1, s1, _⟩ := p1.ex
  rw [List.nil_append] at s1
  have S1 : Hid _ := s1
  clear s1 p1
  go_wp2_with fail
  refine Calls.mono (wBytes_any S1.out (by omega)) ?_
  rintro e w2 ⟨u, rfl, m⟩
  have b1 : Below w.heap.size w w1 := by
    have h1 : Chg (fun g => ¬ g < w.heap.size) w w1 := (C0.out.mono (fun _ _ e => e.elim)).trans P1.out.ch (fun _ e => .inl e)
    exact h1.below (Nat.le_refl _) (fun k e => by omega)
  have M : Hid (Made w w2 u T.bytes) := ⟨m.1, b1.trans (m.2.1.mono b1.size), fun k hk => Nat.le_trans b1.size (m.2.2 k hk)⟩
  clear m b1
  go_wp2_with fail
  go_ret
  exact ⟨u, rfl, M.out⟩

theorem Try.prSzP (T : Prf) : (Try.prog.info? 98).map (·.size) = some T.cells.length := Try.size98
set_option maxRecDepth 100000 in
set_option maxHeartbeats 1000000 in
theorem cProof_any {w : World} {T : Prf} (hT : PrIn w (fun g => g < w.heap.size) T) (hl : T.bytes.length ≤ 70368744177664) :
    Calls Try.prog 34 #[.agg T.cells.toArray] w fun e w' => ∃ u, e = .returned u ∧ Made w w' u T.bytes := by
  have B0 : Hid _ := Blk.made w T.cells 98
  have HT : Hid (PrIn (w.alloc (.cells T.cells.toArray 98)) (fun g => g < (w.alloc (.cells T.cells.toArray 98)).heap.size) T) := (hT.kept (((Chg.refl (fun _ => False) w).alloc _)) (fun _ _ e => e)).mono (fun g e => by simp; omega)
  clear hT
  go_enter Try.func34, Try.ntmps34
  go_wp2_with (refine wpList_load_part rfl 98 (.tmp 1) rfl w.heap.size 0 T.cells rfl B0.out (by simp) Try.underlying98 rfl (Try.prSzP T) ?_)
  refine Calls.mono (bytesProof_any HT.out hl) ?_
  rintro e w2 ⟨u, rfl, m⟩
  have M : Hid _ := m
  clear m
  go_wp2_with fail
  go_ret
  refine ⟨u, rfl, M.out.1, ((Below.refl _ _).alloc (Nat.le_refl _) _).trans (M.out.2.1.mono (by simp)), fun k hk => ?_⟩
  have := M.out.2.2 k hk
  simp at this
  omega

set_option maxRecDepth 100000 in
set_option maxHeartbeats 4000000 in
theorem proofWhole_any {w : World} {s : Value} {T : List Int} (h : In w s T) (hT : T.length ≤ 4194304) :
    Calls Try.prog 93 #[s, .func (.func 94) #[] #[]] w fun e w' => ∃ C, e = .returned (.tuple #[.agg C.toArray, .int .i64 (proofE T)]) ∧ Below w.heap.size w w' ∧ (C.length = prZ.length ∧ ∀ u ∈ C, u.oneCell' = true) ∧ (proofE T = 0 → PrIs w' w.heap.size (proofS T 0 0) C) := by
  obtain ⟨W0, hW0⟩ : ∃ W0, W0 = (w.alloc (.cells prZ.toArray 98)).alloc (.cells #[s, .int .i64 0, .int .i64 0] 195) := ⟨_, rfl⟩
  have hb1 : Below w.heap.size w (w.alloc (.cells prZ.toArray 98)) := (Below.refl _ _).alloc (Nat.le_refl _) _
  have hb : Below w.heap.size w W0 := by rw [hW0]; exact hb1.alloc (by simp) _
  have A0 : At W0 W0 (w.heap.size + 1) 195 s T 0 0 := by
    have := In.at h 195 hb1
    rw [World.size_alloc, ← hW0] at this
    exact this
  have B0 : Hid (Blk W0 w.heap.size prZ 98) := by rw [hW0]; exact (Blk.made w _ 98).alloc _
  have HC := proof_any A0.rp.1 (fun k hk => by have h9 := h.lt k hk; have h8 := hb.size; omega) hT
  unfold proofE
  obtain ⟨S, hS⟩ : ∃ S, S = proofS T 0 0 := ⟨_, rfl⟩
  rw [← hS] at HC ⊢
  have HE : ∀ w', RS w' (w.heap.size + 1) 195 s T S.at_ S.err → _ := fun w' h => rEnd_any h
  obtain ⟨E, hE⟩ : ∃ E, E = endE T S.at_ S.err := ⟨_, rfl⟩
  rw [← hE]
  simp only [← hE] at HE
  rw [hW0] at HC
  have KC : Hid _ := HC
  have KE : Hid _ := HE
  have HB : Hid _ := hb
  have KA : Hid _ := A0
  have HW : Hid _ := hW0
  obtain ⟨a0, c0, hs, _⟩ := h.cap
  clear h hb1 hb A0 HC HE hE hW0 hS
  subst hs
  go_enter Try.func93, Try.ntmps93
  go_wp2_with fail
  refine Calls.mono KC.out ?_
  rintro e w1 ⟨⟨v1, L1, rfl, om, hops, r1⟩⟩
  rw [← HW.out] at r1 om
  obtain ⟨C, hC⟩ : ∃ C, C = prC S.ct v1 := ⟨_, rfl⟩
  have ti : PrIs w1 w.heap.size S C := ⟨v1, L1, hC, om.mono HB.out.size, hops⟩
  obtain ⟨LC, OC⟩ := ti.len
  have OCH : Hid _ := OC
  have TI : Hid _ := ti
  rw [← hC]
  have A1 : Hid _ := KA.out.call r1
  have B1 : Hid _ := KA.out.blk' B0.out (by omega) r1
  have D0 : Hid _ := Blk.made w1 prZ 98
  have LT1 : w.heap.size < w1.heap.size := B1.out.lt
  clear r1 KC HW KA B0 hC om hops ti OC
  go_wp2_with (refine wpList_store_part rfl 98 (.tmp 7) (.tmp 14) rfl w1.heap.size 0 C rfl rfl D0.out (by rw [LC, Nat.zero_add]; exact Nat.le_refl _) (Try.prZsz C LC) OCH.out ?_; intro w2 b2 c2; rw [splice_all _ _ LC] at b2; have D2 : Hid _ := b2; have B2 : Hid _ := (B1.out.alloc _).keep c2 (by omega); have A2 : Hid _ := (A1.out.alloc _).chg c2 A1.out.rp.2.size; have T2 : Hid _ := (TI.out.fresh ((Chg.refl (fun _ => False) w1).alloc _)).kept D0.out c2; clear b2 c2 D0)
  refine Calls.mono (KE.out _ A2.out.rp.1) ?_
  rintro e w3 ⟨rfl, n, rfl⟩
  have A3 : Hid _ := At.drewN A2.out n
  have D3 : Hid _ := Blk.drewN D2.out n
  have B3 : Hid _ := Blk.drewN B2.out n
  have T3 : Hid _ := T2.out.fresh (drewN_chg w2 n (fun _ => False))
  obtain ⟨w3, hw3⟩ : ∃ w3, w3 = w2.drewN n := ⟨_, rfl⟩
  rw [← hw3] at A3 D3 B3 T3 ⊢
  clear hw3 A1 A2 D2 B2 B1 KE T2 TI
  by_cases he : E = 0
  · subst he
    go_wp2_with (first | (refine wpList_load_part rfl 98 (.tmp 7) rfl w1.heap.size 0 C rfl D3.out (by simp) Try.underlying98 rfl (Try.prZsz C LC) ?_) | (refine wpList_store_part rfl 98 (.tmp 4) (.tmp 21) rfl w.heap.size 0 C rfl rfl B3.out (by rw [LC, Nat.zero_add]; exact Nat.le_refl _) (Try.prZsz C LC) OCH.out ?_; intro w4 b4 c4; rw [splice_all _ _ LC] at b4; have B4 : Hid _ := b4; have F4 : Hid _ := below_chg1 (A3.out.done HB.out (by omega)) c4 (A3.out.done HB.out (by omega)).size (Nat.le_refl _); have T4 : Hid _ := T3.out.kept B3.out c4; clear b4 c4))
    exact bodyPost_ret (results_row2 rfl _ _ w.heap.size 98 C _ _ rfl B4.out Try.underlying98 rfl (Try.prZsz C LC) rfl) rfl ⟨C, rfl, F4.out, ⟨LC, OCH.out⟩, by first | exact T4.out | exact fun _ => T4.out⟩
  · have D4 : Hid _ := Blk.made w3 prZ 98
    have B4 : Hid _ := B3.out.alloc (.cells prZ.toArray 98)
    have F3 : Hid _ := A3.out.done HB.out (by omega)
    go_wp2_with (first | (refine wpList_load_part rfl 98 (.tmp 9) rfl w3.heap.size 0 prZ rfl D4.out (by simp) Try.underlying98 rfl (Try.prZsz _ rfl) ?_) | (refine wpList_store_part rfl 98 (.tmp 4) (.tmp 19) rfl w.heap.size 0 prZ rfl rfl B4.out (Nat.le_of_eq (Nat.zero_add _)) (Try.prZsz _ rfl) prZ_one ?_; intro w4 b4 c4; rw [splice_all _ _ rfl] at b4; have B5 : Hid _ := b4; have F4 : Hid _ := below_chg1 (Below.alloc F3.out F3.out.size _) c4 (Nat.le_trans F3.out.size (by simp)) (Nat.le_refl _); clear b4 c4))
    exact bodyPost_ret (results_row2 rfl _ _ w.heap.size 98 prZ _ _ rfl B5.out Try.underlying98 rfl (Try.prZsz _ rfl) rfl) rfl ⟨prZ, rfl, F4.out, ⟨rfl, prZ_one⟩, fun e => absurd e he⟩

set_option maxRecDepth 100000 in
set_option maxHeartbeats 2000000 in
theorem proofCode_any {w : World} {s : Value} {T : List Int} (h : In w s T) (hT : T.length ≤ 4194304) :
    Calls Try.prog 35 #[s] w fun e w' => ∃ C, e = .returned (.tuple #[.agg C.toArray, .int .i64 (proofE T)]) ∧ Below w.heap.size w w' ∧ (C.length = prZ.length ∧ ∀ u ∈ C, u.oneCell' = true) ∧ (proofE T = 0 → PrIs w' w.heap.size (proofS T 0 0) C) := by
  have HC := proofWhole_any (In.alloc h (.cells prZ.toArray 98)) hT
  have B0 := Blk.made w prZ 98
  obtain ⟨S, hS⟩ : ∃ S, S = proofS T 0 0 := ⟨_, rfl⟩
  obtain ⟨E, hE⟩ : ∃ E, E = proofE T := ⟨_, rfl⟩
  rw [← hS, ← hE] at HC ⊢
  have KC : Hid _ := HC
  have KB : Hid _ := B0
  obtain ⟨a0, c0, hs, _⟩ := h.cap
  clear h HC B0 hS hE
  subst hs
  have hgt : ¬ (4194304 : Int) < (T.length : Int) := by omega
  go_enter Try.func35, Try.ntmps35
  go_wp2_with fail
  refine Calls.mono KC.out ?_
  rintro e w1 ⟨C, rfl, b1, ⟨LA, OA⟩, ti⟩
  have OAH : Hid _ := OA
  have TI : Hid _ := ti
  have B1 : Hid _ := KB.out.keep0 b1
  have F1 : Hid (Below w.heap.size w w1) := ((Below.refl _ _).alloc (Nat.le_refl _) _).trans (b1.mono (by simp))
  clear b1 KC KB ti OA
  go_wp2_with (refine wpList_store_part rfl 98 (.tmp 2) (.tmp 10) rfl w.heap.size 0 C rfl rfl B1.out (by rw [LA, Nat.zero_add]; exact Nat.le_refl _) (Try.prZsz C LA) OAH.out ?_; intro w4 b4 c4; rw [splice_all _ _ LA] at b4; have B4 : Hid _ := b4; have F4 : Hid _ := below_chg1 F1.out c4 F1.out.size (Nat.le_refl _); have T4 : Hid (E = 0 → PrIs w4 w.heap.size S C) := fun e => ((TI.out e).mono (by simp)).kept B1.out c4; clear b4 c4)
  exact bodyPost_ret (results_row2 rfl _ _ w.heap.size 98 C _ _ rfl B4.out Try.underlying98 rfl (Try.prZsz C LA) rfl) rfl ⟨C, rfl, F4.out, ⟨LA, OAH.out⟩, T4.out⟩

set_option maxRecDepth 100000 in
set_option maxHeartbeats 2000000 in
theorem proofLong_any {w : World} {s : Value} {T : List Int} (h : In w s T) (hT : 4194304 < T.length) :
    Calls Try.prog 35 #[s] w fun e w' => e = .returned (.tuple #[.agg prZ.toArray, .int .i64 21]) ∧ Below w.heap.size w w' := by
  obtain ⟨a0, c0, hs, _⟩ := h.cap
  clear h
  subst hs
  have hgt : (4194304 : Int) < (T.length : Int) := by omega
  have B1 : Hid _ := Blk.made w prZ 98
  have F1 : Hid (Below w.heap.size w (w.alloc (.cells prZ.toArray 98))) := (Below.refl _ _).alloc (Nat.le_refl _) _
  go_enter Try.func35, Try.ntmps35
  go_wp2_with (refine wpList_store_part rfl 98 (.tmp 2) (.tmp 7) rfl w.heap.size 0 prZ rfl rfl B1.out (Nat.le_of_eq (Nat.zero_add _)) (Try.prZsz _ rfl) prZ_one ?_; intro w4 b4 c4; rw [splice_all _ _ rfl] at b4; have B4 : Hid _ := b4; have F4 : Hid _ := below_chg1 F1.out c4 F1.out.size (Nat.le_refl _); clear b4 c4)
  exact bodyPost_ret (results_row2 rfl _ _ w.heap.size 98 prZ _ _ rfl B4.out Try.underlying98 rfl (Try.prZsz _ rfl) rfl) rfl ⟨rfl, F4.out⟩
end Go.Proofs.Ytjmeaebehndheaa
