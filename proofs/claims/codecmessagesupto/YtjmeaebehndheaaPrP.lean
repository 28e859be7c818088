/-
  The reading of proofs.
-/
import Derived.Test.YtjmeaebehndheaaPrL
import Derived.Test.YtjmeaebehndheaaPgL
namespace Go.Proofs.Ytjmeaebehndheaa
open Go.RowKit

def prC (ct : Nat) (v : Value) : List Value := [.int .u64 ct, v]
theorem Try.size98 : (Try.prog.info? 98).map (·.size) = some 2 := by kernel_rfl
theorem Try.prSz (ct : Nat) (v : Value) : (Try.prog.info? 98).map (·.size) = some (prC ct v).length := Try.size98
theorem prC_one (ct : Nat) {v : Value} (h : v.oneCell' = true) : ∀ u ∈ prC ct v, u.oneCell' = true := by
  intro u hu
  simp only [prC, List.mem_cons, List.not_mem_nil, or_false] at hu
  rcases hu with rfl | rfl
  · rfl
  · exact h
theorem info219 : (Try.prog.info? 220).map (fun i => (i.zero, i.size, i.bytes)) = some (some (.agg (opC 0 0 (.slice none 0 0) 0 z32 (.slice none 0 0)).toArray), 37, 104) := by kernel_rfl
theorem run_mkI {sl ty sz by_ : Nat} {Z : Array Value} (hu : Try.prog.underlying sl = some (.slice ty)) (hi0 : (Try.prog.info? ty).map (fun i => (i.zero, i.size, i.bytes)) = some (some (.agg Z), sz, by_)) (c : Nat) (h : by_ * c ≤ 281474976710656) (h2 : c ≤ 1000000000) (w : World) : (Instr.makeSlice sl (.int .i64 0) (.int .i64 c)).run Try.prog w = .ok (.slice (some ⟨w.heap.size, 0, none⟩) 0 c) (w.alloc (.cells (madeCells (Value.agg Z).cells (c * sz)) ty)) := by
  obtain ⟨i0, hi, hz0, hz1, hz2⟩ := info_parts hi0
  have := run_make (P := Try.prog) w sl ty i0 _ hu hi hz0 .i64 .i64 0 c (by omega) (by omega) (by rw [hz2, ← Int.natCast_mul]; omega) (by omega)
  rw [this, hz1, Int.toNat_natCast]
  rfl
theorem step_appP {ops : Array Oper} {o : Oper} {a : Act} {w w' : World} {K : Act → World → Prop} {Q : Exit → Act → World → Prop} {E : Prop} (ts : Array TypeId) (hgd : o.guard = none) (s x : Operand)
    (ho : o.op = .call { callee := .builtin .append, args := #[s, x], argTypes := ts }) {v u v' : Value} (hs : a.eval s = v) (hx : a.eval x = u) (hr : (Builtin.append_ ts o.type #[v, u]).run Try.prog w = .ok v' w') (h : K (a.put o.dst v') w') :
    if Region.wanted o (yielded ops a.tmps) = true then Oper.wp Try.prog o a w K Q else E := by
  have hw : Region.wanted o (yielded ops a.tmps) = true := by simp [Region.wanted, hgd]
  rw [if_pos hw]
  unfold Oper.wp execOp
  simp only [ho, resolve, invoke, builtin, Sem.run_bind, Sem.run_pure, Result.andThen_ok, List.map_toArray, List.map_cons, List.map_nil, hs, hx, hr]
  exact h
theorem step_buildP {sl ty sz by_ : Nat} {Z : Array Value} (hu : Try.prog.underlying sl = some (.slice ty)) (hi0 : (Try.prog.info? ty).map (fun i => (i.zero, i.size, i.bytes)) = some (some (.agg Z), sz, by_)) (hp : 0 < sz) (hq : sz ≤ 1000) {ops : Array Oper} {o : Oper} {a : Act} {w : World} {K : Act → World → Prop} {Q : Exit → Act → World → Prop} {E : Prop} (hgd : o.guard = none) (x : Operand)
    (ho : o.op = .buildSlice sl 1 #[(0, x)]) {C : List Value} (hx : a.eval x = .agg C.toArray) (hC : C.length = sz)
    (h : K (a.put o.dst (.slice (some ⟨w.heap.size, 0, none⟩) 1 1)) (w.alloc (.cells C.toArray ty))) :
    if Region.wanted o (yielded ops a.tmps) = true then Oper.wp Try.prog o a w K Q else E := by
  have hw : Region.wanted o (yielded ops a.tmps) = true := by simp [Region.wanted, hgd]
  rw [if_pos hw]
  obtain ⟨i0, hi, hz0, hz1, hz2⟩ := info_parts hi0
  refine wp_buildSlice sl ty 1 #[(0, x)] ho C.toArray i0 _ hu hi hz0 (by rw [hz1]; omega) (by rw [hz1]; omega) ?_ h
  have h9 := Go.Great.fill_whole (s := sz) hp [.agg C.toArray] ((Array.range (1 * sz)).map ((Value.agg Z).cells[· % (Value.agg Z).cells.size]!)) (fun v hv => by
    have e : v = .agg C.toArray := by simpa using hv
    rw [e]
    simpa [Value.cells] using hC) (by simp)
  rw [hz1]
  simpa [hx, Value.cells] using h9

/-- Ops in a list of their own, each with its key and its value. -/
def ocOf (o : OpS × Value × Value) : List Value := opC o.1.ki o.1.lv o.2.1 o.1.ct o.1.sm o.2.2
structure OM (w : World) (B : Nat) (v : Value) (L : List (OpS × Value × Value)) : Prop where
  gl : GL w v 220 37 (L.map ocOf)
  own : ∀ o, o ∈ L → Own w o.2.1 o.1.kl ∧ Own w o.2.2 o.1.vl ∧ o.2.1.oneCell' = true ∧ o.2.2.oneCell' = true
  nb : ∀ g, v.ownBlock = some g → B ≤ g
  nk : ∀ o, o ∈ L → ∀ g, (o.2.1.ownBlock = some g ∨ o.2.2.ownBlock = some g) → B ≤ g
theorem OM.kept {w w' : World} {B : Nat} {v : Value} {L : List (OpS × Value × Value)} (h : OM w B v L) {S : Nat → Prop} (c : Chg S w w') (hS : ∀ g cur t, S g → w.heap[g]? = some (.cells cur t (0, 0)) → t ≠ 220 ∧ t ≠ 5) : OM w' B v L :=
  ⟨h.gl.kept c (fun g cur _ hg e => (hS g cur 220 e hg).1 rfl), fun o ho => by
    obtain ⟨a, b, x, y⟩ := h.own o ho
    refine ⟨a.kept c (fun g hg e => ?_), b.kept c (fun g hg e => ?_), x, y⟩
    · obtain ⟨cur, hc⟩ := own_block5 a hg
      exact (hS g cur 5 e hc).2 rfl
    · obtain ⟨cur, hc⟩ := own_block5 b hg
      exact (hS g cur 5 e hc).2 rfl, h.nb, h.nk⟩
theorem OM.fresh {w w' : World} {B : Nat} {v : Value} {L : List (OpS × Value × Value)} (h : OM w B v L) (c : Chg (fun _ => False) w w') : OM w' B v L := h.kept c (fun _ _ _ e => e.elim)
theorem OM.form {w : World} {B : Nat} {v : Value} {L : List (OpS × Value × Value)} (h : OM w B v L) : ∃ a c, v = .slice a L.length c := by
  obtain ⟨a, c, e⟩ := h.gl.form
  rw [List.length_map] at e
  exact ⟨a, c, e⟩
/-- One op more. -/
theorem OM.add {w : World} {B : Nat} {v : Value} {L : List (OpS × Value × Value)} (h : OM w B v L) {o : OpS × Value × Value} (h1 : Own w o.2.1 o.1.kl) (h2 : Own w o.2.2 o.1.vl) (x1 : o.2.1.oneCell' = true) (x2 : o.2.2.oneCell' = true) (hs : o.1.sm.length = 32) (hn : ∀ g, (o.2.1.ownBlock = some g ∨ o.2.2.ownBlock = some g) → B ≤ g) (hB : B ≤ w.heap.size) (hb : L.length + 1 ≤ 5000000) :
    ∃ v' w', (Builtin.append_ #[96, 96] 96 #[v, .slice (some ⟨w.heap.size, 0, none⟩) 1 1]).run Try.prog (w.alloc (.cells (ocOf o).toArray 220)) = .ok v' w' ∧ OM w' B v' (L ++ [o]) ∧ Chg (fun g => some g = v.ownBlock) w w' := by
  obtain ⟨v', w', r, gl, c, bb⟩ := h.gl.add (sl := 96) (C := ocOf o) Try.underlying96 info219 (by kernel_rfl) (by decide) (by rw [ocOf, opC_len, hs]) (opC_one _ _ x1 _ _ x2) (by rw [List.length_map]; omega) (by rw [List.length_map]; omega) 96
  have no5 : ∀ {u : Value} {l : List Int}, Own w u l → ∀ g, u.ownBlock = some g → ¬ some g = v.ownBlock := fun ho g hg e => by
    obtain ⟨_, e1⟩ := own_block5 ho hg
    obtain ⟨_, e2⟩ := h.gl.blk e.symm
    rw [e1] at e2
    injection e2 with e2
    injection e2 with _ e2
    exact absurd e2 (by decide)
  refine ⟨v', w', r, ⟨by rw [List.map_append]; exact gl, fun q hq => ?_, fun g hg => ?_, fun q hq g hg => ?_⟩, c⟩
  · rcases List.mem_append.1 hq with hq | hq
    · obtain ⟨a, b, x, y⟩ := h.own q hq
      exact ⟨a.kept c (no5 a), b.kept c (no5 b), x, y⟩
    · have e : q = o := by simpa using hq
      subst e
      exact ⟨h1.kept c (no5 h1), h2.kept c (no5 h2), x1, x2⟩
  · rcases bb with e | ⟨k, e, hk⟩
    · exact h.nb g (by rw [← e]; exact hg)
    · rw [hg] at e
      injection e with e
      omega
  · rcases List.mem_append.1 hq with hq | hq
    · exact h.nk q hq g hg
    · have e : q = o := by simpa using hq
      subst e
      exact hn g hg
theorem opsL_len (T : List Int) : ∀ (f a : Nat) (e : Int), (opsL T f a e).1.length ≤ T.length - a
  | 0, _, _ => Nat.zero_le _
  | f + 1, a, e => by
    rw [opsL]
    split
    · next h =>
      have h1 := opsL_len T f (opS T a 0).at_ (opS T a 0).err
      have h2 := opS_up T a h.2
      simp only [List.length_cons]
      omega
    · exact Nat.zero_le _
theorem opsL_err {T : List Int} {f a : Nat} {e : Int} (h : (opsL T f a e).2.2 = 0) : e = 0 := Classical.byContradiction fun x => by
  rw [opsL_stop (fun q => x q.1)] at h
  exact x h

/-- What reading a proof gives. -/
structure PrS where
  ct : Nat
  ops : List OpS
  at_ : Nat
  err : Int
def proofS (T : List Int) (a : Nat) (err : Int) : PrS :=
  let U := uintS T a err maxN
  let L := opsL T (T.length + 1) U.2.1 U.2.2
  if L.2.2 = 0 then ⟨U.1, L.1, L.2.1, 0⟩ else ⟨U.1, [], U.2.1, failE U.2.2 L.2.2⟩
structure PrQ (w w' : World) (p : Nat) (tv : Value) (T : List Int) (S : PrS) (e : Ending) : Prop where
  ex : ∃ v L, e = .returned (.agg (prC S.ct v).toArray) ∧ OM w' w.heap.size v L ∧ L.map Prod.fst = S.ops ∧ RP w w' p 195 tv T S.at_ S.err

set_option maxRecDepth 100000 in
set_option maxHeartbeats 16000000 in
theorem proof_any {w : World} {p : Nat} {tv : Value} {T : List Int} {a : Nat} {err : Int} (h : RS w p 195 tv T a err) (htv : ∀ k, tv.ownBlock = some k → k < w.heap.size) (hT : T.length ≤ 4194304) :
    Calls Try.prog 94 #[.pointer (some ⟨p, 0, none⟩)] w fun e w' => PrQ w w' p tv T (proofS T a err) e := by
  have A0 := At.start h
  have hlt := h.lt
  have C0 : ∀ w', RS w' p 195 tv T a err → _ := fun w' h => rNumber_any h
  clear h
  obtain ⟨S, hS⟩ : ∃ S, S = proofS T a err := ⟨_, rfl⟩
  rw [← hS]
  unfold proofS at hS
  obtain ⟨U, a1, e1, hU⟩ : ∃ U b c, uintS T a err maxN = (U, b, c) := ⟨_, _, _, rfl⟩
  simp only [hU] at C0 hS
  obtain ⟨LS, hLS⟩ : ∃ L, L = opsL T (T.length + 1) a1 e1 := ⟨_, rfl⟩
  simp only [← hLS] at hS
  have HLS : Hid _ := hLS
  have HSS : Hid _ := hS
  have lenL : LS.1.length ≤ T.length := by rw [hLS]; exact Nat.le_trans (opsL_len _ _ _ _) (Nat.sub_le _ _)
  have lenN : leftN LS ≤ T.length := by unfold leftN; split <;> omega
  clear hU hS hLS
  obtain ⟨W0, hW0⟩ : ∃ W0, W0 = (w.alloc (.cells (prC 0 (.slice none 0 0)).toArray 98)).alloc (.cells (prC 0 (.slice none 0 0)).toArray 98) := ⟨_, rfl⟩
  have P0 : Hid (At w W0 p 195 tv T a err) := by rw [hW0]; exact (A0.alloc _).alloc _
  have R0 : Hid (Blk W0 w.heap.size (prC 0 (.slice none 0 0)) 98) := by rw [hW0]; exact (Blk.made w _ 98).alloc _
  have L0 : Hid (Blk W0 (w.heap.size + 1) (prC 0 (.slice none 0 0)) 98) := by
    rw [hW0]
    have := Blk.made (w.alloc (.cells (prC 0 (.slice none 0 0)).toArray 98)) (prC 0 (.slice none 0 0)) 98
    rwa [World.size_alloc] at this
  have SZ : Hid (W0.heap.size = w.heap.size + 2) := by show _ = _; rw [hW0]; simp
  have HC : Hid _ := C0 W0 P0.out.rp.1
  rw [hW0] at HC
  have HW : Hid _ := hW0
  have HTV : Hid _ := htv
  clear A0 C0 hW0 htv
  go_enter Try.func94, Try.ntmps94
  go_wp2_with fail
  refine Calls.mono HC.out ?_
  rintro e w1 ⟨rfl, r1⟩
  rw [← HW.out] at r1
  have S1 : Hid (w.heap.size + 2 ≤ w1.heap.size) := by have := r1.2.size; have := SZ.out; show _ ≤ _; omega
  have P1 : Hid _ := P0.out.call r1
  have R1 : Hid _ := P0.out.blk R0.out (Nat.le_refl _) r1
  have L1 : Hid _ := P0.out.blk L0.out (Nat.le_succ _) r1
  have hc : w1.cell? ⟨w.heap.size + 1, 0, none⟩ = some (.int .u64 0) := L1.out.cell 0
  have hf : w1.frozen? ⟨w.heap.size + 1, 0, none⟩ = false := L1.out.fr 0
  clear r1 HC HW P0 R0 L0 SZ
  go_upto_region 3 with fail
  obtain ⟨w2, hw2⟩ : ∃ w2, w2 = w1.setCell ⟨w.heap.size + 1, 0, none⟩ (.int .u64 U) := ⟨_, rfl⟩
  have ch : Chg (fun k => k = w.heap.size + 1) w1 w2 := by rw [hw2]; exact (Chg.refl (fun k => k = w.heap.size + 1) w1).setCell (p := ⟨w.heap.size + 1, 0, none⟩) (.inl rfl) _
  have P2 : Hid (At w w2 p 195 tv T a1 e1) := by rw [hw2]; exact P1.out.set (g := w.heap.size + 1) (Nat.le_succ _) 0 (.int .u64 U)
  have L2 : Hid (Blk w2 (w.heap.size + 1) (prC U (.slice none 0 0)) 98) := by rw [hw2]; exact L1.out.set 0 (.int .u64 U)
  have R2 : Hid (Blk w2 w.heap.size (prC 0 (.slice none 0 0)) 98) := R1.out.keep ch (by omega)
  have S2 : Hid (w.heap.size + 2 ≤ w2.heap.size) := Nat.le_trans S1.out ch.size
  rw [← hw2]
  clear hw2 ch P1 L1 R1 S1 hc hf
  go_wp2_with fail
  refine Calls.mono (opsLeft_any P2.out.rp.1 (fun k hk => by have := HTV.out k hk; have := S2.out; omega) (F := T.length + 1) (by omega) (by omega)) ?_
  rintro e w3 ⟨rfl, r2⟩
  rw [← HLS.out] at r2 ⊢
  obtain ⟨n, hn⟩ : ∃ n, n = leftN LS := ⟨_, rfl⟩
  rw [← hn] at lenN ⊢
  obtain ⟨e2, he2⟩ : ∃ e2, e2 = failE e1 LS.2.2 := ⟨_, rfl⟩
  rw [← he2] at r2
  have HN : Hid _ := hn
  have HE2 : Hid _ := he2
  have P3 : Hid _ := P2.out.call r2
  have R3 : Hid _ := P2.out.blk R2.out (Nat.le_refl _) r2
  have L3 : Hid _ := P2.out.blk L2.out (Nat.le_succ _) r2
  have S3 : Hid (w.heap.size + 2 ≤ w3.heap.size) := Nat.le_trans S2.out r2.2.size
  clear r2 P2 R2 L2 S2 hn he2
  obtain ⟨w4, hw4⟩ : ∃ w4, w4 = w3.alloc (.cells (madeCells (Value.agg (opC 0 0 (.slice none 0 0) 0 z32 (.slice none 0 0)).toArray).cells (n * 37)) 220) := ⟨_, rfl⟩
  have c4 : Chg (fun _ => False) w3 w4 := by rw [hw4]; exact (Chg.refl _ _).alloc _
  have P4 : Hid (At w w4 p 195 tv T a1 e2) := by rw [hw4]; exact P3.out.alloc _
  have R4 : Hid _ := R3.out.keep c4 (fun e => e)
  have L4 : Hid _ := L3.out.keep c4 (fun e => e)
  have S4 : Hid (w.heap.size + 2 ≤ w4.heap.size) := Nat.le_trans S3.out c4.size
  have M4 : Hid (OM w4 (w.heap.size + 2) (.slice (some ⟨w3.heap.size, 0, none⟩) 0 n) []) := ⟨by rw [hw4]; exact GL.made w3 _ n (by rw [size_madeCells]) (by omega), fun o ho => (by cases ho), fun g hg => by simp [Value.ownBlock] at hg; have := S3.out; omega, fun o ho => (by cases ho)⟩
  have hmk := run_mkI (sl := 96) Try.underlying96 info219 n (by omega) (by omega) w3
  rw [← hw4] at hmk
  have hc4 : w4.cell? ⟨w.heap.size + 1, 1, none⟩ = some (.slice none 0 0) := L4.out.cell 1
  have hf4 : w4.frozen? ⟨w.heap.size + 1, 1, none⟩ = false := L4.out.fr 1
  clear hw4 c4 P3 R3 L3
  go_upto_region 5 with fail
  obtain ⟨w5, hw5⟩ : ∃ w5, w5 = w4.setCell ⟨w.heap.size + 1, 1, none⟩ (.slice (some ⟨w3.heap.size, 0, none⟩) 0 n) := ⟨_, rfl⟩
  have ch : Chg (fun k => k = w.heap.size + 1) w4 w5 := by rw [hw5]; exact (Chg.refl (fun k => k = w.heap.size + 1) w4).setCell (p := ⟨w.heap.size + 1, 1, none⟩) (.inl rfl) _
  have P5 : Hid (At w w5 p 195 tv T a1 e2) := by rw [hw5]; exact P4.out.set (g := w.heap.size + 1) (Nat.le_succ _) 1 _
  have L5 : Hid (Blk w5 (w.heap.size + 1) (prC U (.slice (some ⟨w3.heap.size, 0, none⟩) 0 n)) 98) := by rw [hw5]; exact L4.out.set 1 _
  have R5 : Hid (Blk w5 w.heap.size (prC 0 (.slice none 0 0)) 98) := R4.out.keep ch (by omega)
  have S5 : Hid (w.heap.size + 2 ≤ w5.heap.size) := Nat.le_trans S4.out ch.size
  have M5 : Hid (OM w5 (w.heap.size + 2) (.slice (some ⟨w3.heap.size, 0, none⟩) 0 n) []) := M4.out.kept ch (fun g cur t e hg => by
    rw [e, L4.out.eq] at hg
    injection hg with hg
    injection hg with _ hg
    rw [← hg]
    decide)
  rw [← hw5]
  clear hw5 ch P4 L4 R4 S4 M4 hc4 hf4 hmk S3
  go_wp2_with fail
  go_loopw [14] (fun i wr => ∃ (j aj f : Nat) (ej : Int) (v : Value) (L : List (OpS × Value × Value)), j ≤ n ∧ i = .int .i64 j ∧ Hid (At w wr p 195 tv T aj ej ∧ Blk wr w.heap.size (prC 0 (.slice none 0 0)) 98 ∧ Blk wr (w.heap.size + 1) (prC U v) 98 ∧ OM wr (w.heap.size + 2) v L ∧ L.length = j ∧ w.heap.size + 2 ≤ wr.heap.size ∧ (LS.2.2 = 0 → LS = (L.map Prod.fst ++ (opsL T f aj ej).1, (opsL T f aj ej).2)) ∧ (¬ LS.2.2 = 0 → aj = a1 ∧ ej = e2))) (fun i _ => n - (intOf i).toNat)
  case atStart => exact ⟨0, a1, T.length + 1, e2, _, [], Nat.zero_le _, rfl, P5.out, R5.out, L5.out, M5.out, rfl, S5.out, fun h0 => by
    have q : e1 = 0 := opsL_err (by rw [← HLS.out]; exact h0)
    have q2 : e2 = 0 := by rw [HE2.out, q, h0]; rfl
    rw [q2, ← q, ← HLS.out]
    simp, fun _ => ⟨rfl, rfl⟩⟩
  case round =>
    obtain ⟨j, aj, f, ej, v, L, hj, rfl, hid⟩ := hrel
    obtain ⟨at_, rb, lb, om, hl, sz, hok, hno⟩ := hid.out
    have AT : Hid _ := at_
    have RB : Hid _ := rb
    have LB : Hid _ := lb
    have OMH : Hid _ := om
    have HL : Hid _ := hl
    have SZ : Hid _ := sz
    have HOK : Hid _ := hok
    have HNO : Hid _ := hno
    obtain ⟨va, vc, hvf⟩ := om.form
    obtain ⟨vn, hvn⟩ : ∃ vn, vn = L.length := ⟨_, rfl⟩
    rw [← hvn] at hvf
    subst hvf
    clear hid at_ rb lb om hl sz hok hno hvn
    by_cases hlt2 : j < n
    · have ok : LS.2.2 = 0 := Classical.byContradiction fun x => by
        have := HN.out
        rw [leftN, if_neg x] at this
        omega
      have hdec := HOK.out ok
      have nL : n = LS.1.length := by rw [HN.out, leftN, if_pos ok]
      have hne : 0 < (opsL T f aj ej).1.length := by
        have e := congrArg (fun x => x.1.length) hdec
        simp only [List.length_append, List.length_map, HL.out] at e
        omega
      have hcond : ej = 0 ∧ aj < T.length := Classical.byContradiction fun x => by
        rw [opsL_stop x] at hne
        simp at hne
      obtain ⟨rfl, hal⟩ := hcond
      obtain ⟨f', rfl⟩ : ∃ f', f = f' + 1 := ⟨f - 1, by
        rcases Nat.eq_zero_or_pos f with e | e
        · rw [e] at hne
          simp [opsL] at hne
        · omega⟩
      rw [opsL_step hal] at hdec
      have HDEC : Hid _ := hdec
      have jl : j + 1 ≤ 5000000 := by omega
      clear hdec nL hne
      have RSD : Hid (RS wr.drew p 195 tv T aj 0) := AT.out.rp.1.drewN 1
      have QA : Hid (wr.drew.cell? ⟨w.heap.size + 1, 1, none⟩ = some (.slice va vn vc)) := LB.out.cell 1
      go_upto_region 7 with fail
      refine wp_region_held_drew (S := fun _ => True) (by kernel_rfl) trivial (fun _ => ?_)
      refine wpAnyH_take (i := 0) (v := .pointer (some ⟨w.heap.size + 1, 1, none⟩)) rfl (by kernel_rfl) (by kernel_rfl) (by kernel_rfl) (fun _ _ _ h => h) (Or.inl ⟨by rfl, fun w' _ => by go_simp⟩) trivial ?_
      refine wpAnyH_take (i := 2) (v := .pointer (some ⟨p, 0, none⟩)) rfl (by kernel_rfl) (by kernel_rfl) (by kernel_rfl) (fun _ _ _ h => h) (Or.inl ⟨by rfl, fun w' _ => by go_simp⟩) trivial ?_
      refine wpAnyH_ready (rs := [1, 3]) (by kernel_rfl) (by simp) ?_
      refine AllReadyH.cons rfl (fun KK hKK => ?_) (AllReadyH.cons rfl (fun KK hKK => ?_) AllReadyH.nil)
      · have q4 := QA.out
        go_simp
        refine hKK.out _ _ trivial (fun _ => ?_)
        clear hKK KK q4
        refine wpAnyH_ready (rs := [3]) (by kernel_rfl) (by simp) ?_
        refine AllReadyH.cons rfl (fun KK hKK => ?_) AllReadyH.nil
        go_simp
        refine Calls.mono (op_any RSD.out) ?_
        intro e w6 hq
        obtain ⟨s, v2, rfl, ho1, o1, o2, rp, hn2⟩ := hq.ex
        obtain ⟨o, ho⟩ : ∃ o : OpS × Value × Value, o = (opS T aj 0, s, v2) := ⟨_, rfl⟩
        have cd : Chg (fun _ => False) wr wr.drew := (Chg.refl _ _).drew
        have om6 : OM w6 (w.heap.size + 2) (.slice va vn vc) L := (OMH.out.fresh cd).kept rp.2 (fun g cur t e hg => by
          have h9 := RSD.out.blk
          rw [e, h9] at hg
          injection hg with hg
          injection hg with _ hg
          rw [← hg]
          decide)
        have sz6 : w.heap.size + 2 ≤ w6.heap.size := Nat.le_trans SZ.out (Nat.le_trans cd.size rp.2.size)
        obtain ⟨v7, w7, hr7, om7, ch7⟩ := om6.add (o := o) (by rw [ho]; exact o1) (by rw [ho]; exact o2) (by rw [ho]; exact ho1.1) (by rw [ho]; exact ho1.2) (by rw [ho]; exact opS_len _ _ _) (fun g hg => by rw [ho] at hg; have h9 := hn2 g hg; have h8 := SZ.out; have h7 := cd.size; omega) sz6 (by rw [HL.out]; exact jl)
        obtain ⟨ya, yc, hyf⟩ := om7.form
        obtain ⟨ln, hln⟩ : ∃ ln, ln = (L ++ [o]).length := ⟨_, rfl⟩
        rw [← hln] at hyf
        subst hyf
        have ownv : ∀ g, some g = (Value.slice va vn vc).ownBlock → w.heap.size + 2 ≤ g := fun g e => om6.nb g e.symm
        have at6 : At w w6 p 195 tv T (opS T aj 0).at_ (opS T aj 0).err := (AT.out.drewN 1).call rp
        have at7 : At w w7 p 195 tv T (opS T aj 0).at_ (opS T aj 0).err := by
          refine ⟨⟨at6.rp.1.keep2 ch7 (fun e => by have := ownv p e; omega) (fun g hg => ?_), at6.rp.2.trans ch7 (fun g e => .inr (by have := ownv g e; omega))⟩, at6.plt, at6.tlt⟩
          exact .inl (fun e2 => by have := ownv g e2; have := HTV.out g hg; omega)
        have lb6 : Blk w6 (w.heap.size + 1) (prC U (.slice va vn vc)) 98 := (LB.out.keep cd (fun e => e)).keep rp.2 (by omega)
        have rb6 : Blk w6 w.heap.size (prC 0 (.slice none 0 0)) 98 := (RB.out.keep cd (fun e => e)).keep rp.2 (by omega)
        have lb7 : Blk w7 (w.heap.size + 1) (prC U (.slice va vn vc)) 98 := lb6.keep ch7 (fun e => by have := ownv _ e; omega)
        have rb7 : Blk w7 w.heap.size (prC 0 (.slice none 0 0)) 98 := rb6.keep ch7 (fun e => by have := ownv _ e; omega)
        obtain ⟨w8, hw8⟩ : ∃ w8, w8 = w7.setCell ⟨w.heap.size + 1, 1, none⟩ (.slice ya ln yc) := ⟨_, rfl⟩
        have ch8 : Chg (fun k => k = w.heap.size + 1) w7 w8 := by rw [hw8]; exact (Chg.refl (fun k => k = w.heap.size + 1) w7).setCell (p := ⟨w.heap.size + 1, 1, none⟩) (.inl rfl) _
        have FIN : Hid (At w w8 p 195 tv T (opS T aj 0).at_ (opS T aj 0).err ∧ Blk w8 w.heap.size (prC 0 (.slice none 0 0)) 98 ∧ Blk w8 (w.heap.size + 1) (prC U (.slice ya ln yc)) 98 ∧ OM w8 (w.heap.size + 2) (.slice ya ln yc) (L ++ [o]) ∧ (L ++ [o]).length = j + 1 ∧ w.heap.size + 2 ≤ w8.heap.size ∧ (LS.2.2 = 0 → LS = ((L ++ [o]).map Prod.fst ++ (opsL T f' (opS T aj 0).at_ (opS T aj 0).err).1, (opsL T f' (opS T aj 0).at_ (opS T aj 0).err).2)) ∧ (¬ LS.2.2 = 0 → (opS T aj 0).at_ = a1 ∧ (opS T aj 0).err = e2)) := by
          refine ⟨?_, rb7.keep ch8 (by omega), ?_, om7.kept ch8 (fun g cur t e hg => ?_), by rw [List.length_append, HL.out]; rfl, Nat.le_trans sz6 (Nat.le_trans ch7.size ch8.size), fun _ => ?_, fun x => absurd ok x⟩
          · rw [hw8]; exact at7.set (g := w.heap.size + 1) (Nat.le_succ _) 1 _
          · rw [hw8]; exact lb7.set 1 _
          · rw [e, lb7.eq] at hg
            injection hg with hg
            injection hg with _ hg
            rw [← hg]
            decide
          · rw [HDEC.out, ho]
            simp
        have HW8 : Hid _ := hw8
        have QB : Hid (w6.cell? ⟨w.heap.size + 1, 1, none⟩ = some (.slice va vn vc)) := lb6.cell 1
        have QC : Hid ((w6.alloc (.cells (ocOf o).toArray 220)).cell? ⟨w.heap.size + 1, 1, none⟩ = some (.slice va vn vc)) := (lb6.alloc _).cell 1
        have Q7 : Hid (w7.cell? ⟨w.heap.size + 1, 1, none⟩ = some (.slice va vn vc)) := lb7.cell 1
        have F7 : Hid (w7.frozen? ⟨w.heap.size + 1, 1, none⟩ = false) := lb7.fr 1
        have LC : (ocOf o).length = 37 := by rw [ocOf, opC_len, ho, opS_len]
        have HR7 : Hid _ := hr7
        rw [show opC (opS T aj 0).ki (opS T aj 0).lv s (opS T aj 0).ct (opS T aj 0).sm v2 = ocOf o by rw [ho]; rfl]
        clear hq ho1 o1 o2 rp hn2 ho cd om6 sz6 hr7 om7 ch7 hln ownv at6 at7 lb6 rb6 lb7 rb7 hw8 ch8
        refine hKK.out _ _ trivial (fun _ => ?_)
        clear hKK KK
        refine wpAnyH_ready (rs := [4]) (by kernel_rfl) (by simp) ?_
        refine AllReadyH.cons rfl (fun KK hKK => ?_) AllReadyH.nil
        refine step_buildP (sl := 96) Try.underlying96 info219 (by decide) (by decide) rfl (.tmp 19) rfl (C := ocOf o) (by kernel_rfl) LC ?_
        refine hKK.out _ _ trivial (fun _ => ?_)
        clear hKK KK
        refine wpAnyH_ready (rs := [5]) (by kernel_rfl) (by simp) ?_
        refine AllReadyH.cons rfl (fun KK hKK => ?_) AllReadyH.nil
        refine step_appP #[96, 96] rfl (.tmp 17) (.tmp 20) rfl (v := .slice va vn vc) (u := .slice (some ⟨w6.heap.size, 0, none⟩) 1 1) (by kernel_rfl) (by kernel_rfl) HR7.out ?_
        refine hKK.out _ _ trivial (fun _ => ?_)
        clear hKK KK
        refine wpAnyH_take (i := 6) (v := .pointer (some ⟨w.heap.size + 1, 1, none⟩)) rfl (by kernel_rfl) (by kernel_rfl) (by kernel_rfl) (fun _ _ _ h => h) (Or.inl ⟨by rfl, fun w' _ => by go_simp⟩) trivial ?_
        refine wpAnyH_ready (rs := [7]) (by kernel_rfl) (by simp) ?_
        refine AllReadyH.cons rfl (fun KK hKK => ?_) AllReadyH.nil
        have s7 := Q7.out
        have f7 := F7.out
        go_simp
        refine hKK.out _ _ trivial (fun _ => ?_)
        clear hKK KK s7 f7
        refine wpAnyH_done (by kernel_rfl) ?_ _
        rw [← HW8.out]
        go_wp2_with fail
        go_roundw
        case rel => exact ⟨j + 1, _, f', _, _, L ++ [o], by omega, by go_num, FIN.out⟩
        case measure => simp [intOf]; omega
      · go_simp
        refine Calls.mono (op_any RSD.out) ?_
        intro e w6 hq
        obtain ⟨s, v2, rfl, ho1, o1, o2, rp, hn2⟩ := hq.ex
        obtain ⟨o, ho⟩ : ∃ o : OpS × Value × Value, o = (opS T aj 0, s, v2) := ⟨_, rfl⟩
        have cd : Chg (fun _ => False) wr wr.drew := (Chg.refl _ _).drew
        have om6 : OM w6 (w.heap.size + 2) (.slice va vn vc) L := (OMH.out.fresh cd).kept rp.2 (fun g cur t e hg => by
          have h9 := RSD.out.blk
          rw [e, h9] at hg
          injection hg with hg
          injection hg with _ hg
          rw [← hg]
          decide)
        have sz6 : w.heap.size + 2 ≤ w6.heap.size := Nat.le_trans SZ.out (Nat.le_trans cd.size rp.2.size)
        obtain ⟨v7, w7, hr7, om7, ch7⟩ := om6.add (o := o) (by rw [ho]; exact o1) (by rw [ho]; exact o2) (by rw [ho]; exact ho1.1) (by rw [ho]; exact ho1.2) (by rw [ho]; exact opS_len _ _ _) (fun g hg => by rw [ho] at hg; have h9 := hn2 g hg; have h8 := SZ.out; have h7 := cd.size; omega) sz6 (by rw [HL.out]; exact jl)
        obtain ⟨ya, yc, hyf⟩ := om7.form
        obtain ⟨ln, hln⟩ : ∃ ln, ln = (L ++ [o]).length := ⟨_, rfl⟩
        rw [← hln] at hyf
        subst hyf
        have ownv : ∀ g, some g = (Value.slice va vn vc).ownBlock → w.heap.size + 2 ≤ g := fun g e => om6.nb g e.symm
        have at6 : At w w6 p 195 tv T (opS T aj 0).at_ (opS T aj 0).err := (AT.out.drewN 1).call rp
        have at7 : At w w7 p 195 tv T (opS T aj 0).at_ (opS T aj 0).err := by
          refine ⟨⟨at6.rp.1.keep2 ch7 (fun e => by have := ownv p e; omega) (fun g hg => ?_), at6.rp.2.trans ch7 (fun g e => .inr (by have := ownv g e; omega))⟩, at6.plt, at6.tlt⟩
          exact .inl (fun e2 => by have := ownv g e2; have := HTV.out g hg; omega)
        have lb6 : Blk w6 (w.heap.size + 1) (prC U (.slice va vn vc)) 98 := (LB.out.keep cd (fun e => e)).keep rp.2 (by omega)
        have rb6 : Blk w6 w.heap.size (prC 0 (.slice none 0 0)) 98 := (RB.out.keep cd (fun e => e)).keep rp.2 (by omega)
        have lb7 : Blk w7 (w.heap.size + 1) (prC U (.slice va vn vc)) 98 := lb6.keep ch7 (fun e => by have := ownv _ e; omega)
        have rb7 : Blk w7 w.heap.size (prC 0 (.slice none 0 0)) 98 := rb6.keep ch7 (fun e => by have := ownv _ e; omega)
        obtain ⟨w8, hw8⟩ : ∃ w8, w8 = w7.setCell ⟨w.heap.size + 1, 1, none⟩ (.slice ya ln yc) := ⟨_, rfl⟩
        have ch8 : Chg (fun k => k = w.heap.size + 1) w7 w8 := by rw [hw8]; exact (Chg.refl (fun k => k = w.heap.size + 1) w7).setCell (p := ⟨w.heap.size + 1, 1, none⟩) (.inl rfl) _
        have FIN : Hid (At w w8 p 195 tv T (opS T aj 0).at_ (opS T aj 0).err ∧ Blk w8 w.heap.size (prC 0 (.slice none 0 0)) 98 ∧ Blk w8 (w.heap.size + 1) (prC U (.slice ya ln yc)) 98 ∧ OM w8 (w.heap.size + 2) (.slice ya ln yc) (L ++ [o]) ∧ (L ++ [o]).length = j + 1 ∧ w.heap.size + 2 ≤ w8.heap.size ∧ (LS.2.2 = 0 → LS = ((L ++ [o]).map Prod.fst ++ (opsL T f' (opS T aj 0).at_ (opS T aj 0).err).1, (opsL T f' (opS T aj 0).at_ (opS T aj 0).err).2)) ∧ (¬ LS.2.2 = 0 → (opS T aj 0).at_ = a1 ∧ (opS T aj 0).err = e2)) := by
          refine ⟨?_, rb7.keep ch8 (by omega), ?_, om7.kept ch8 (fun g cur t e hg => ?_), by rw [List.length_append, HL.out]; rfl, Nat.le_trans sz6 (Nat.le_trans ch7.size ch8.size), fun _ => ?_, fun x => absurd ok x⟩
          · rw [hw8]; exact at7.set (g := w.heap.size + 1) (Nat.le_succ _) 1 _
          · rw [hw8]; exact lb7.set 1 _
          · rw [e, lb7.eq] at hg
            injection hg with hg
            injection hg with _ hg
            rw [← hg]
            decide
          · rw [HDEC.out, ho]
            simp
        have HW8 : Hid _ := hw8
        have QB : Hid (w6.cell? ⟨w.heap.size + 1, 1, none⟩ = some (.slice va vn vc)) := lb6.cell 1
        have QC : Hid ((w6.alloc (.cells (ocOf o).toArray 220)).cell? ⟨w.heap.size + 1, 1, none⟩ = some (.slice va vn vc)) := (lb6.alloc _).cell 1
        have Q7 : Hid (w7.cell? ⟨w.heap.size + 1, 1, none⟩ = some (.slice va vn vc)) := lb7.cell 1
        have F7 : Hid (w7.frozen? ⟨w.heap.size + 1, 1, none⟩ = false) := lb7.fr 1
        have LC : (ocOf o).length = 37 := by rw [ocOf, opC_len, ho, opS_len]
        have HR7 : Hid _ := hr7
        rw [show opC (opS T aj 0).ki (opS T aj 0).lv s (opS T aj 0).ct (opS T aj 0).sm v2 = ocOf o by rw [ho]; rfl]
        clear hq ho1 o1 o2 rp hn2 ho cd om6 sz6 hr7 om7 ch7 hln ownv at6 at7 lb6 rb6 lb7 rb7 hw8 ch8
        refine hKK.out _ _ trivial (fun _ => ?_)
        clear hKK KK
        refine wpAnyH_ready (rs := [1, 4]) (by kernel_rfl) (by simp) ?_
        refine AllReadyH.cons rfl (fun KK hKK => ?_) (AllReadyH.cons rfl (fun KK hKK => ?_) AllReadyH.nil)
        · have q4 := QB.out
          go_simp
          refine hKK.out _ _ trivial (fun _ => ?_)
          clear hKK KK q4
          refine wpAnyH_ready (rs := [4]) (by kernel_rfl) (by simp) ?_
          refine AllReadyH.cons rfl (fun KK hKK => ?_) AllReadyH.nil
          refine step_buildP (sl := 96) Try.underlying96 info219 (by decide) (by decide) rfl (.tmp 19) rfl (C := ocOf o) (by kernel_rfl) LC ?_
          refine hKK.out _ _ trivial (fun _ => ?_)
          clear hKK KK
          refine wpAnyH_ready (rs := [5]) (by kernel_rfl) (by simp) ?_
          refine AllReadyH.cons rfl (fun KK hKK => ?_) AllReadyH.nil
          refine step_appP #[96, 96] rfl (.tmp 17) (.tmp 20) rfl (v := .slice va vn vc) (u := .slice (some ⟨w6.heap.size, 0, none⟩) 1 1) (by kernel_rfl) (by kernel_rfl) HR7.out ?_
          refine hKK.out _ _ trivial (fun _ => ?_)
          clear hKK KK
          refine wpAnyH_take (i := 6) (v := .pointer (some ⟨w.heap.size + 1, 1, none⟩)) rfl (by kernel_rfl) (by kernel_rfl) (by kernel_rfl) (fun _ _ _ h => h) (Or.inl ⟨by rfl, fun w' _ => by go_simp⟩) trivial ?_
          refine wpAnyH_ready (rs := [7]) (by kernel_rfl) (by simp) ?_
          refine AllReadyH.cons rfl (fun KK hKK => ?_) AllReadyH.nil
          have s7 := Q7.out
          have f7 := F7.out
          go_simp
          refine hKK.out _ _ trivial (fun _ => ?_)
          clear hKK KK s7 f7
          refine wpAnyH_done (by kernel_rfl) ?_ _
          rw [← HW8.out]
          go_wp2_with fail
          go_roundw
          case rel => exact ⟨j + 1, _, f', _, _, L ++ [o], by omega, by go_num, FIN.out⟩
          case measure => simp [intOf]; omega
        · refine step_buildP (sl := 96) Try.underlying96 info219 (by decide) (by decide) rfl (.tmp 19) rfl (C := ocOf o) (by kernel_rfl) LC ?_
          refine hKK.out _ _ trivial (fun _ => ?_)
          clear hKK KK
          refine wpAnyH_ready (rs := [1]) (by kernel_rfl) (by simp) ?_
          refine AllReadyH.cons rfl (fun KK hKK => ?_) AllReadyH.nil
          have q4 := QC.out
          go_simp
          refine hKK.out _ _ trivial (fun _ => ?_)
          clear hKK KK q4
          refine wpAnyH_ready (rs := [5]) (by kernel_rfl) (by simp) ?_
          refine AllReadyH.cons rfl (fun KK hKK => ?_) AllReadyH.nil
          refine step_appP #[96, 96] rfl (.tmp 17) (.tmp 20) rfl (v := .slice va vn vc) (u := .slice (some ⟨w6.heap.size, 0, none⟩) 1 1) (by kernel_rfl) (by kernel_rfl) HR7.out ?_
          refine hKK.out _ _ trivial (fun _ => ?_)
          clear hKK KK
          refine wpAnyH_take (i := 6) (v := .pointer (some ⟨w.heap.size + 1, 1, none⟩)) rfl (by kernel_rfl) (by kernel_rfl) (by kernel_rfl) (fun _ _ _ h => h) (Or.inl ⟨by rfl, fun w' _ => by go_simp⟩) trivial ?_
          refine wpAnyH_ready (rs := [7]) (by kernel_rfl) (by simp) ?_
          refine AllReadyH.cons rfl (fun KK hKK => ?_) AllReadyH.nil
          have s7 := Q7.out
          have f7 := F7.out
          go_simp
          refine hKK.out _ _ trivial (fun _ => ?_)
          clear hKK KK s7 f7
          refine wpAnyH_done (by kernel_rfl) ?_ _
          rw [← HW8.out]
          go_wp2_with fail
          go_roundw
          case rel => exact ⟨j + 1, _, f', _, _, L ++ [o], by omega, by go_num, FIN.out⟩
          case measure => simp [intOf]; omega
    · have hjn : j = n := by omega
      have hlast : opsL T f aj ej = opsL T f aj ej := rfl
      have SR : Hid (S.ct = U ∧ L.map Prod.fst = S.ops ∧ S.at_ = aj ∧ S.err = ej) := by
        by_cases ok : LS.2.2 = 0
        · have hdec := HOK.out ok
          have h9 := HSS.out
          rw [if_pos ok] at h9
          have nL : n = LS.1.length := by rw [HN.out, leftN, if_pos ok]
          have e0 : (opsL T f aj ej).1.length = 0 := by
            have e := congrArg (fun x => x.1.length) hdec
            simp only [List.length_append, List.length_map, HL.out] at e
            omega
          have e1' := List.eq_nil_of_length_eq_zero e0
          have st : ¬ (ej = 0 ∧ aj < T.length) ∨ f = 0 := by
            rcases Nat.eq_zero_or_pos f with z | z
            · exact .inr z
            · left
              intro q
              obtain ⟨f', hf'⟩ : ∃ f', f = f' + 1 := ⟨f - 1, by omega⟩
              rw [hf', q.1, opsL_step q.2] at e0
              simp at e0
          have e2' : opsL T f aj ej = ([], aj, ej) := by
            rcases st with st | st
            · exact opsL_stop st
            · rw [st]; rfl
          rw [e2'] at hdec
          rw [h9, hdec]
          rw [hdec] at ok
          exact ⟨rfl, by simp, rfl, ok.symm⟩
        · obtain ⟨r1, r2⟩ := HNO.out ok
          have h9 := HSS.out
          rw [if_neg ok] at h9
          have n0 : n = 0 := by rw [HN.out, leftN, if_neg ok]
          have l0 : L = [] := List.eq_nil_of_length_eq_zero (by rw [HL.out]; omega)
          rw [h9, l0, r1, r2, HE2.out]
          exact ⟨rfl, rfl, rfl, rfl⟩
      clear hlast hjn
      go_wp2_with (first
        | (refine wpList_load_part rfl 98 (.tmp 3) rfl (w.heap.size + 1) 0 (prC U (.slice va vn vc)) rfl LB.out (by simp) Try.underlying98 rfl (Try.prSz _ _) ?_)
        | (refine wpList_store_part rfl 98 (.tmp 2) (.tmp 24) rfl w.heap.size 0 (prC U (.slice va vn vc)) rfl rfl RB.out (by simp [prC]) (Try.prSz _ _) (prC_one _ rfl) ?_; intro w8 b8 c8; rw [splice_all _ _ (by simp [prC])] at b8; have RR : Hid _ := b8; have PP : Hid _ := AT.out.chg c8 (Nat.le_refl _); have OO : Hid (OM w8 (w.heap.size + 2) (.slice va vn vc) L) := OMH.out.kept c8 (fun g cur t e hg => by rw [e, RB.out.eq] at hg; injection hg with hg; injection hg with _ hg; rw [← hg]; decide); clear b8 c8))
      exact bodyPost_ret (v := .agg (prC U (.slice va vn vc)).toArray) (results_row1 rfl _ _ w.heap.size 98 _ _ _ rfl RR.out.eq Try.underlying98 rfl (Try.prSz _ _)) rfl ⟨⟨.slice va vn vc, L, by rw [SR.out.1], ⟨OO.out.gl, OO.out.own, fun g hg => Nat.le_trans (Nat.le_add_right _ 2) (OO.out.nb g hg), fun o ho g hg => Nat.le_trans (Nat.le_add_right _ 2) (OO.out.nk o ho g hg)⟩, SR.out.2.1, by rw [SR.out.2.2.1, SR.out.2.2.2]; exact PP.out.rp⟩⟩
end Go.Proofs.Ytjmeaebehndheaa
