/-
  ConsoleQuotes: the row, proved out of the walk.
-/
import Derived.Test.YtnmlhlgeacdcgaaCwQ
import Derived.ProofKit
import Derived.OpenShut
import Derived.ChangeSlices
import Derived.ChangeOld
import Derived.JoinedCond
import Derived.SizedLaws
namespace Go.Proofs.Ytnmlhlgeacdcgaa
open Go.ChangeShapes Go.WideShapes Go.ChangeAt Go.RowKit

theorem ownKn : ownKnob Try.prog.godebug = none := by kernel_rfl
theorem laidOutS : laidOutB Try.prog = true := by kernel_rfl
theorem Try.c5 : Try.prog.cellsOf 5 = 1 := by kernel_rfl
theorem Try.bytes5 : Try.prog.bytesOf 5 = 1 := by kernel_rfl

theorem byte_int {z : Int} (h : 0 ≤ z ∧ z ≤ 255) : ((UInt8.ofNat z.toNat).toNat : Int) = z := by
  rw [UInt8.toNat_ofNat', Nat.mod_eq_of_lt (by omega)]
  omega

/-- Bytes that came in. -/
theorem op_bytes {H : Type} {enc : TypeId × Value → H} {W : World} {sp : Nat → Bool} {held : Bool} {fuel : Nat} {cs : List Value} {x : DataW H × List MemPlace}
    (h : DataW.trod enc Try.prog W 0 sp held fuel 22 cs = some x) : ∃ (A : Option Addr) (n c : Nat) (l : List UInt8), cs = [.slice A n c] ∧ n = l.length ∧ InB W A l ∧ (l = [] ∨ ∃ elems spare, x.1 = .slice elems spare ∧ elems.length = l.length) := by
  rcases ChangeShapes.open_ints Try.underlying22 Try.underlying5 Try.c5 h with ⟨rfl, rfl⟩ | ⟨a, len, cap, zs, rfl, _, hl, hcap, hzl, rfl, hc, hw⟩
  · exact ⟨none, 0, 0, [], rfl, rfl, fun j hj => by simp at hj, .inl rfl⟩
  · have hlz : len ≤ zs.length := by rw [hzl]; split <;> omega
    have htl : (zs.take len).length = len := by rw [List.length_take]; omega
    refine ⟨some a, len, cap, (zs.take len).map (fun z => UInt8.ofNat z.toNat), rfl, by rw [List.length_map, htl], fun j hj => ?_, .inr ⟨_, _, rfl, by simp [ChangeShapes.lits]⟩⟩
    rw [List.length_map, htl] at hj
    have hcj := hc j (by omega)
    have hc0 := hc 0 (by omega)
    have hs : a.spot = none := by simpa [Addr.add] using World.cell?_spot hc0
    obtain ⟨b, o, s⟩ := a
    simp only at hs
    subst hs
    refine ⟨b, o, rfl, ?_⟩
    rw [addr_add] at hcj
    rw [hcj]
    have hz : zs.getD j 0 = zs[j]'(by omega) := by rw [List.getD_eq_getElem?_getD, List.getElem?_eq_getElem (by omega)]; rfl
    have hb := bounds_u8 (hw (zs[j]'(by omega)) (List.getElem_mem _))
    rw [hz]
    simp only [List.getElem_map, List.getElem_take, byte_int hb]

set_option maxRecDepth 100000 in
theorem quotes_lifted (os : Os) (started : os.Started) (H : Type) (enc : TypeId × Value → H) :
    ReturnsInHanded {} Try.checked os 3 .any (Rows.consoleQuotesSpec.pre6 enc Try.prog Try.f3 Rows.consoleQuotesRow.domain false) (Rows.consoleQuotesSpec.post enc Try.prog Try.f3 false true false false) := by
  refine returnsInHanded_of_change_sized (C := Try.checked) ownKn started (by kernel_rfl) Try.func3
    (ChangeSpec.witness6 (enc := enc) (C := Try.checked) false ⟨#[], #[.slice none 0 0, .slice none 0 0], []⟩ 8 (by kernel_rfl) (by kernel_rfl) (by kernel_rfl) (by kernel_rfl)) ?_
  intro W base args ds gs before hval0 hW hcnd hsz _
  have hval : ∀ (j : Nat) t v, Try.f3.params[j]? = some t → args[j]? = some v → Value.okWide Try.prog W .any base t v := hval0
  have hW' := hW
  obtain ⟨p, q, hA0, hV, rfl, hfz, hnd⟩ := hW
  have hA : DataW.TrodAll enc Try.prog W 0 (fun _ => true) true Try.f3.params.toList args.toList ds p := hA0
  rw [Try.params3] at hA hval
  obtain ⟨v0, vs0, d0, ds0, p0, q0, hargs, rfl, rfl, h0, r0⟩ := trodAll_cons hA
  obtain ⟨v1, vs1, d1, ds1, p1, q1, rfl, rfl, rfl, h1, r1⟩ := trodAll_cons r0
  obtain ⟨rfl, rfl, rfl⟩ := trodAll_nil r1
  obtain rfl : args = #[v0, v1] := by cases args; simp_all
  obtain ⟨rfl, rfl⟩ := trodVars_none hV
  have k0 := h0
  have k1 := h1
  have lt0 : ∀ x ∈ p0, x.block < W.heap.size := by obtain ⟨m, hm⟩ := k0; exact DataW.trod_lt m _ _ _ hm
  have lt1 : ∀ x ∈ p1, x.block < W.heap.size := by obtain ⟨m, hm⟩ := k1; exact DataW.trod_lt m _ _ _ hm
  have b5 : Try.checked.prog.bytesOf 5 = 1 := Try.bytes5
  obtain ⟨f0, hf0⟩ := h0
  obtain ⟨f1, hf1⟩ := h1
  obtain ⟨A1, n1, c1, l1, hu0, hn1, i1, lA⟩ := op_bytes hf0
  obtain ⟨A2, n2, c2, l2, hu1, hn2, i2, lC⟩ := op_bytes hf1
  have hl1 : l1.length ≤ 140737488355328 := by
    rcases lA with rfl | ⟨elems, spare, e, hl⟩
    · simp
    · have e : d0 = .slice elems spare := e
      have := sized_slice hsz (j := 0) (t := 22) (e := 5) (elems := elems) (spare := spare) rfl (by simp [e]) Try.underlying22
      rw [b5] at this
      unfold reachBytes at this
      omega
  have hl2 : l2.length ≤ 140737488355328 := by
    rcases lC with rfl | ⟨elems, spare, e, hl⟩
    · simp
    · have e : d1 = .slice elems spare := e
      have := sized_slice hsz (j := 1) (t := 22) (e := 5) (elems := elems) (spare := spare) rfl (by simp [e]) Try.underlying22
      rw [b5] at this
      unfold reachBytes at this
      omega
  obtain ⟨x0, y0, z0, rfl⟩ := okWide_slice Try.underlying22 (hval 0 22 v0 rfl rfl)
  obtain ⟨x1, y1, z1, rfl⟩ := okWide_slice Try.underlying22 (hval 1 22 v1 rfl rfl)
  have g0 : [Value.slice x0 y0 z0] = [Value.slice A1 n1 c1] := hu0
  have g1 : [Value.slice x1 y1 z1] = [Value.slice A2 n2 c2] := hu1
  injection g0 with g0 _
  injection g1 with g1 _
  injection g0 with i01 i02 i03
  injection g1 with i11 i12 i13
  subst i01 i02 i03 i11 i12 i13
  clear hA0 hval0
  refine (quotes_any (c1 := z0) (c2 := z1) W hn1 hn2 hl1 hl2 i1 i2).mono fun e W' ⟨he, ch⟩ => ?_
  subst he
  have bel : Below W.heap.size W W' := ch.below (Nat.le_refl _) (fun _ e => e.elim)
  exact ⟨_, rfl, _, _, _, [], _, [], hW', trodAll_mk1 (shut_bool Try.underlying4 _), trodAll_cons_mk (Below.trod laidOutS (by kernel_rfl) (of_decide_eq_true (by kernel_rfl)) k0 bel lt0) (trodAll_cons_mk (Below.trod laidOutS (by kernel_rfl) (of_decide_eq_true (by kernel_rfl)) k1 bel lt1) trodAll_mk0), rfl, bel.frame _, fun h => by cases h⟩

theorem consoleQuotes_holds : Rows.ConsoleQuotesSaid :=
  OpenClaim.holds_of_wide 3 Try.f3 rfl rfl rfl rfl rfl rfl rfl ⟨rfl, rfl, rfl, rfl, rfl⟩ rfl rfl rfl rfl rfl (by kernel_rfl) Try.func3 (by kernel_rfl)
    (of_decide_eq_true (by kernel_rfl)) (by unfold Func.isWrapper; first | (rw [if_pos (by decide +kernel)]; kernel_rfl) | (rw [if_neg (by decide +kernel)]; exact ⟨rfl, rfl⟩))
    (fun os started H enc _ => quotes_lifted os started H enc)
end Go.Proofs.Ytnmlhlgeacdcgaa
