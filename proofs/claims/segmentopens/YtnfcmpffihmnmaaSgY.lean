/-
  State: the reference's tail.
-/
import Derived.Test.YtnfcmpffihmnmaaSgX
namespace Go.Proofs.Ytnfcmpffihmnmaa
open Go.RowKit

theorem wp_appG {sl : Nat} {o : Oper} {a : Act} {w w' : World} {K : Act → World → Prop} {Q : Exit → Act → World → Prop} (s x : Operand)
    (ho : o.op = .call { callee := .builtin .append, args := #[s, x], argTypes := #[sl, sl] }) {v u v' : Value} (hs : a.eval s = v) (hx : a.eval x = u) (hr : (Builtin.append_ #[sl, sl] o.type #[v, u]).run Try.prog w = .ok v' w')
    (h : K (a.put o.dst v') w') : Oper.wp Try.prog o a w K Q := by
  unfold Oper.wp execOp
  simp only [ho, resolve, invoke, builtin, Sem.run_bind, Sem.run_pure, Result.andThen_ok, List.map_toArray, List.map_cons, List.map_nil, hs, hx, hr]
  exact h

/-- The reference's log's cells. -/
def rlC (p : Nat) (sp S : Int) (A : Option Addr) (n c : Nat) (H : Option Addr) (hc : Nat) : List Value := [.pointer (some ⟨p, 0, none⟩), .int .i64 sp, .int .u64 S, .slice A n c, .slice H n hc, .int .i64 0]

noncomputable def opsS : Array Oper := (Try.f13.body.bind (regIn 1)).getD #[]
def sS (i : Nat) : Nat := if i = 22 then 25 else 3 + i
theorem sS_ne {i j : Nat} (hi : i < 23) (h : j ≠ i) : sS j ≠ sS i := by
  unfold sS
  split <;> split <;> omega

def cS (r n c hc : Nat) (a h : Addr) (S C : Int) : List Value := [undef, .pointer (some ⟨r, 0, none⟩), .pointer (some ⟨r, 0, none⟩), .pointer (some ⟨r, 3, none⟩), .slice (some a) n c, undef, .pointer (some ⟨r, 0, none⟩), .pointer (some ⟨r, 0, none⟩), .pointer (some ⟨r, 2, none⟩), .int .u64 S, .pointer (some ⟨r, 0, none⟩), .pointer (some ⟨r, 0, none⟩), .pointer (some ⟨r, 3, none⟩), .slice (some a) n c, .int .i64 C, undef, .pointer (some ⟨r, 0, none⟩), .pointer (some ⟨r, 0, none⟩), .pointer (some ⟨r, 4, none⟩), .slice (some h) n hc, undef, undef]

/-- What stands in each slot. -/
def VS (B X r n c hc : Nat) (a h : Addr) (S C : Int) (ms : Nat → Mk) (i : Nat) (w : World) (v : Value) : Prop :=
  match i with
  | 0 => ∃ b, v = .slice (some ⟨b, 0, none⟩) 0 0
  | 15 => ∃ b, v = .slice (some ⟨b, 0, none⟩) 0 0
  | 5 => ∃ A cc, v = .slice A n cc ∧ NL w B A n 2 (mF ms)
  | 20 => ∃ H hcc, v = .slice H n hcc ∧ NL w B H n 1 bF
  | 21 => ∃ A cc H hcc, v = .agg (tlC A n cc S C H hcc).toArray ∧ NL w B A n 2 (mF ms) ∧ NL w B H n 1 bF
  | 22 => ∃ A cc H hcc, Blk w X (tlC A n cc S C H hcc) 56 ∧ NL w B A n 2 (mF ms) ∧ NL w B H n 1 bF
  | i => v = (cS r n c hc a h S C).getD i undef

theorem VS.keep {B X r n c hc : Nat} {a h : Addr} {S C : Int} {ms : Nat → Mk} {w w' : World} (k : Chg (fun k => k = X) w w') (hX : X < B) (i : Nat) {v : Value} (hv : VS B X r n c hc a h S C ms i w v) (hk : i = 22 → Chg (fun _ => False) w w') : VS B X r n c hc a h S C ms i w' v := by
  unfold VS at hv ⊢
  split
  · exact hv
  · exact hv
  · obtain ⟨A, cc, e, q⟩ := hv
    exact ⟨A, cc, e, q.kept k (fun g hg => by omega)⟩
  · obtain ⟨A, cc, e, q⟩ := hv
    exact ⟨A, cc, e, q.kept k (fun g hg => by omega)⟩
  · obtain ⟨A, cc, H, hcc, e, q, q2⟩ := hv
    exact ⟨A, cc, H, hcc, e, q.kept k (fun g hg => by omega), q2.kept k (fun g hg => by omega)⟩
  · obtain ⟨A, cc, H, hcc, e, q, q2⟩ := hv
    exact ⟨A, cc, H, hcc, e.keep (hk rfl) (fun e => e), q.kept k (fun g hg => by omega), q2.kept k (fun g hg => by omega)⟩
  · split at hv <;> first | exact hv | (rename_i h1 h2 h3 h4 h5 h6; first | exact absurd rfl h1 | exact absurd rfl h2 | exact absurd rfl h3 | exact absurd rfl h4 | exact absurd rfl h5 | exact absurd rfl h6)

/-- What stands of the world. -/
structure CS (W : World) (X : Nat) (w : World) : Prop where
  c : Chg (fun k => k = X) W w
  b : ∃ cs, cs.length = 4 ∧ Blk w X cs 56
theorem CS.next {W w w' : World} {X : Nat} (h : CS W X w) (k : Chg (fun _ => False) w w') : CS W X w' := ⟨h.c.trans k (fun _ e => e.elim), by obtain ⟨cs, e, q⟩ := h.b; exact ⟨cs, e, q.keep k (fun e => e)⟩⟩

def JS (W : World) (X r n c hc : Nat) (a h : Addr) (S C : Int) (ms : Nat → Mk) : (Nat → Bool) → Act → World → Prop :=
  RJ 25 sS 23 [(0, .pointer (some ⟨r, 0, none⟩)), (2, .pointer (some ⟨X, 0, none⟩))] (VS W.heap.size X r n c hc a h S C ms) (CS W X)

theorem putS {W : World} {X r n c hc : Nat} {a h : Addr} {S C : Int} {ms : Nat → Mk} {d : Nat → Bool} {T : Array Value} {df : List Deferred} {w w' : World} (hJ : JS W X r n c hc a h S C ms d ⟨T, df⟩ w) (hX : X < W.heap.size) (i : Nat) {s : Nat} {v : Value} (hi : i < 22) (hs : s = sS i) (hv : VS W.heap.size X r n c hc a h S C ms i w' v) (k : Chg (fun _ => False) w w') :
    JS W X r n c hc a h S C ms (fun j => if j = i then true else d j) ⟨T.setIfInBounds s v, df⟩ w' :=
  RJ.put hJ i hs (by unfold sS; split <;> omega) (fun j _ h => sS_ne (by omega) h) (fun x hx => by
    simp only [List.mem_cons, List.not_mem_nil, or_false] at hx
    unfold sS
    rcases hx with rfl | rfl <;> (split <;> simp; try omega)) hv (hJ.ch.next k) (fun j _ _ hq => VS.keep (k.mono (fun _ _ e => e.elim)) hX j hq (fun _ => k))

set_option maxRecDepth 100000 in
set_option maxHeartbeats 8000000 in
theorem regS {W : World} {X r n c hc p : Nat} {a h : Addr} {S C sp : Int} {ms : Nat → Mk} {Av Av2 : Nat → Prop} {Q : Exit → Act → World → Prop} {A : Act} (hB : Blk W r (rlC p sp S (some a) n c (some h) hc) 73) (hXr : r ≠ X) (hX : X < W.heap.size) (hbx : ∃ cs, cs.length = 4 ∧ Blk W X cs 56)
    (hR : RowsIn W Av (some a) n 2 (mF ms)) (hR2 : RowsIn W Av2 (some h) n 1 bF) (hAv : ∀ g, Av g → g ≠ X) (hAv2 : ∀ g, Av2 g → g ≠ X) (hn : 2 ≤ n ∧ n ≤ 65536) (hC : C = (curF ms n).1)
    (sz : A.tmps.size = 25) (df : A.defers = []) (h0 : A.tmps.getD 0 undef = .pointer (some ⟨r, 0, none⟩)) (h2 : A.tmps.getD 2 undef = .pointer (some ⟨X, 0, none⟩))
    (hQ : ∀ b w', b.tmps.size = 25 → b.defers = [] → b.tmps.getD 2 undef = .pointer (some ⟨X, 0, none⟩) → Chg (fun k => k = X) W w' → (∃ A cc H hcc, Blk w' X (tlC A n cc S C H hcc) 56 ∧ NL w' W.heap.size A n 2 (mF ms) ∧ NL w' W.heap.size H n 1 bF) → Q .normal b w') : (Code.region 1 opsS true).wp Try.prog Q A W := by
  have HC : Hid _ := hC
  clear hC
  refine region_plain (by kernel_rfl) (JS W X r n c hc a h S C ms) ?_ (after_of (by kernel_rfl)) ?_ ?_
  · refine ⟨sz, df, fun x hx => ?_, fun i _ (h : false = true) => (by cases h), ⟨(Chg.refl _ _).drew, by obtain ⟨cs, e, q⟩ := hbx; exact ⟨cs, e, q.drew⟩⟩⟩
    simp only [List.mem_cons, List.not_mem_nil, or_false] at hx
    rcases hx with rfl | rfl
    · exact h0
    · exact h2
  · intro d b w hJ hall
    exact hQ b w hJ.sz hJ.df (hJ.fix (2, .pointer (some ⟨X, 0, none⟩)) (by simp)) hJ.ch.c (hJ.val 22 (by decide) (hall 22 (by decide)))
  · rintro d ⟨T, df⟩ w i o hJ hdi ho hdeps K hK
    have hi : i < 23 := (Array.getElem?_eq_some_iff.1 ho).1
    have e0 : T.getD 0 undef = .pointer (some ⟨r, 0, none⟩) := hJ.fix (0, .pointer (some ⟨r, 0, none⟩)) (by simp)
    have e2 : T.getD 2 undef = .pointer (some ⟨X, 0, none⟩) := hJ.fix (2, .pointer (some ⟨X, 0, none⟩)) (by simp)
    have cw := hJ.ch.c
    have k2 : w.cell? ⟨r, 2, none⟩ = some (.int .u64 S) := (hB.keep cw hXr).cell 2
    have k3 : w.cell? ⟨r, 3, none⟩ = some (.slice (some a) n c) := (hB.keep cw hXr).cell 3
    have k4 : w.cell? ⟨r, 4, none⟩ = some (.slice (some h) n hc) := (hB.keep cw hXr).cell 4
    have RW : Hid (RowsIn w Av (some a) n 2 (mF ms)) := hR.kept cw hAv
    have RW2 : Hid (RowsIn w Av2 (some h) n 1 bF) := hR2.kept cw hAv2
    have WS : Hid (W.heap.size ≤ w.heap.size) := cw.size
    clear hdi cw
    obtain rfl | rfl | rfl | rfl | rfl | rfl | rfl | rfl | rfl | rfl | rfl | rfl | rfl | rfl | rfl | rfl | rfl | rfl | rfl | rfl | rfl | rfl | rfl : i = 0 ∨ i = 1 ∨ i = 2 ∨ i = 3 ∨ i = 4 ∨ i = 5 ∨ i = 6 ∨ i = 7 ∨ i = 8 ∨ i = 9 ∨ i = 10 ∨ i = 11 ∨ i = 12 ∨ i = 13 ∨ i = 14 ∨ i = 15 ∨ i = 16 ∨ i = 17 ∨ i = 18 ∨ i = 19 ∨ i = 20 ∨ i = 21 ∨ i = 22 := by omega
    · obtain rfl : o = { dst := some 3, op := Op.buildSlice 23 0 #[], type := 23, pos := "ref.go:137", after := #[], guard := none } := (Option.some.inj ho).symm
      rw [if_pos (want_all rfl)]
      clear ho hdeps hi 
      go_simp
      exact hK _ _ (putS hJ hX 0 (by decide) rfl ⟨_, rfl⟩ ((Chg.refl _ _).alloc _))
    · obtain rfl : o = { dst := some 4, op := Op.move (Operand.tmp 0), type := 41, pos := "ref.go:137", after := #[], guard := none } := (Option.some.inj ho).symm
      rw [if_pos (want_all rfl)]
      clear ho hdeps hi 
      go_simp
      exact hK _ _ (putS hJ hX 1 (by decide) rfl rfl (Chg.refl _ _))
    · obtain rfl : o = { dst := some 5, op := Op.nilCheck (Operand.tmp 4), type := 0, pos := "ref.go:137", after := #[{ on := 1, ground := Ground.data }], guard := none } := (Option.some.inj ho).symm
      have c1 := hJ.val 1 (by decide) (hdeps ⟨1, .data⟩ (by simp) rfl)
      have e4 : T.getD 4 undef = .pointer (some ⟨r, 0, none⟩) := c1
      rw [if_pos (want_all rfl)]
      clear ho hdeps hi c1
      go_simp
      exact hK _ _ (putS hJ hX 2 (by decide) rfl rfl (Chg.refl _ _))
    · obtain rfl : o = { dst := some 6, op := Op.fieldAddr 73 (Operand.tmp 5) 3, type := 0, pos := "ref.go:137", after := #[{ on := 2, ground := Ground.data }], guard := none } := (Option.some.inj ho).symm
      have c2 := hJ.val 2 (by decide) (hdeps ⟨2, .data⟩ (by simp) rfl)
      have e5 : T.getD 5 undef = .pointer (some ⟨r, 0, none⟩) := c2
      rw [if_pos (want_all rfl)]
      clear ho hdeps hi c2
      go_simp
      exact hK _ _ (putS hJ hX 3 (by decide) rfl rfl (Chg.refl _ _))
    · obtain rfl : o = { dst := some 7, op := Op.load 23 (Operand.tmp 6), type := 23, pos := "ref.go:137", after := #[{ on := 3, ground := Ground.data }], guard := none } := (Option.some.inj ho).symm
      have c3 := hJ.val 3 (by decide) (hdeps ⟨3, .data⟩ (by simp) rfl)
      have e6 : T.getD 6 undef = .pointer (some ⟨r, 3, none⟩) := c3
      rw [if_pos (want_all rfl)]
      clear ho hdeps hi c3
      go_simp
      exact hK _ _ (putS hJ hX 4 (by decide) rfl rfl (Chg.refl _ _))
    · obtain rfl : o = { dst := some 8, op := Op.call { callee := Callee.builtin Builtin.append, args := #[Operand.tmp 3, Operand.tmp 7], argTypes := #[23, 23] }, type := 23, pos := "ref.go:137", after := #[{ on := 0, ground := Ground.data }, { on := 4, ground := Ground.data }], guard := none } := (Option.some.inj ho).symm
      have c0 := hJ.val 0 (by decide) (hdeps ⟨0, .data⟩ (by simp) rfl)
      have c4 := hJ.val 4 (by decide) (hdeps ⟨4, .data⟩ (by simp) rfl)
      have e7 : T.getD 7 undef = .slice (some a) n c := c4
      rw [if_pos (want_all rfl)]
      clear ho hdeps hi c4
      obtain ⟨b, hb⟩ := c0
      obtain ⟨cc, w2, r1, r2, r3⟩ := app_fresh (c := c) Try.underlying23 info45 (mF_len ms) RW.out (by omega) (by omega) (by omega) b 23
      refine wp_appG (sl := 23) (.tmp 3) (.tmp 7) rfl (v := .slice (some ⟨b, 0, none⟩) 0 0) (u := .slice (some a) n c) hb e7 r1 ?_
      exact hK _ _ (putS hJ hX 5 (by decide) rfl ⟨_, _, rfl, r2.mono WS.out⟩ r3)
    · obtain rfl : o = { dst := some 9, op := Op.move (Operand.tmp 0), type := 41, pos := "ref.go:137", after := #[], guard := none } := (Option.some.inj ho).symm
      rw [if_pos (want_all rfl)]
      clear ho hdeps hi 
      go_simp
      exact hK _ _ (putS hJ hX 6 (by decide) rfl rfl (Chg.refl _ _))
    · obtain rfl : o = { dst := some 10, op := Op.nilCheck (Operand.tmp 9), type := 0, pos := "ref.go:137", after := #[{ on := 6, ground := Ground.data }], guard := none } := (Option.some.inj ho).symm
      have c6 := hJ.val 6 (by decide) (hdeps ⟨6, .data⟩ (by simp) rfl)
      have e9 : T.getD 9 undef = .pointer (some ⟨r, 0, none⟩) := c6
      rw [if_pos (want_all rfl)]
      clear ho hdeps hi c6
      go_simp
      exact hK _ _ (putS hJ hX 7 (by decide) rfl rfl (Chg.refl _ _))
    · obtain rfl : o = { dst := some 11, op := Op.fieldAddr 73 (Operand.tmp 10) 2, type := 0, pos := "ref.go:137", after := #[{ on := 7, ground := Ground.data }], guard := none } := (Option.some.inj ho).symm
      have c7 := hJ.val 7 (by decide) (hdeps ⟨7, .data⟩ (by simp) rfl)
      have e10 : T.getD 10 undef = .pointer (some ⟨r, 0, none⟩) := c7
      rw [if_pos (want_all rfl)]
      clear ho hdeps hi c7
      go_simp
      exact hK _ _ (putS hJ hX 8 (by decide) rfl rfl (Chg.refl _ _))
    · obtain rfl : o = { dst := some 12, op := Op.load 22 (Operand.tmp 11), type := 22, pos := "ref.go:137", after := #[{ on := 8, ground := Ground.data }], guard := none } := (Option.some.inj ho).symm
      have c8 := hJ.val 8 (by decide) (hdeps ⟨8, .data⟩ (by simp) rfl)
      have e11 : T.getD 11 undef = .pointer (some ⟨r, 2, none⟩) := c8
      rw [if_pos (want_all rfl)]
      clear ho hdeps hi c8
      go_simp
      exact hK _ _ (putS hJ hX 9 (by decide) rfl rfl (Chg.refl _ _))
    · obtain rfl : o = { dst := some 13, op := Op.move (Operand.tmp 0), type := 41, pos := "ref.go:137", after := #[], guard := none } := (Option.some.inj ho).symm
      rw [if_pos (want_all rfl)]
      clear ho hdeps hi 
      go_simp
      exact hK _ _ (putS hJ hX 10 (by decide) rfl rfl (Chg.refl _ _))
    · obtain rfl : o = { dst := some 14, op := Op.nilCheck (Operand.tmp 13), type := 0, pos := "ref.go:137", after := #[{ on := 10, ground := Ground.data }], guard := none } := (Option.some.inj ho).symm
      have c10 := hJ.val 10 (by decide) (hdeps ⟨10, .data⟩ (by simp) rfl)
      have e13 : T.getD 13 undef = .pointer (some ⟨r, 0, none⟩) := c10
      rw [if_pos (want_all rfl)]
      clear ho hdeps hi c10
      go_simp
      exact hK _ _ (putS hJ hX 11 (by decide) rfl rfl (Chg.refl _ _))
    · obtain rfl : o = { dst := some 15, op := Op.fieldAddr 73 (Operand.tmp 14) 3, type := 0, pos := "ref.go:137", after := #[{ on := 11, ground := Ground.data }], guard := none } := (Option.some.inj ho).symm
      have c11 := hJ.val 11 (by decide) (hdeps ⟨11, .data⟩ (by simp) rfl)
      have e14 : T.getD 14 undef = .pointer (some ⟨r, 0, none⟩) := c11
      rw [if_pos (want_all rfl)]
      clear ho hdeps hi c11
      go_simp
      exact hK _ _ (putS hJ hX 12 (by decide) rfl rfl (Chg.refl _ _))
    · obtain rfl : o = { dst := some 16, op := Op.load 23 (Operand.tmp 15), type := 23, pos := "ref.go:137", after := #[{ on := 12, ground := Ground.data }], guard := none } := (Option.some.inj ho).symm
      have c12 := hJ.val 12 (by decide) (hdeps ⟨12, .data⟩ (by simp) rfl)
      have e15 : T.getD 15 undef = .pointer (some ⟨r, 3, none⟩) := c12
      rw [if_pos (want_all rfl)]
      clear ho hdeps hi c12
      go_simp
      exact hK _ _ (putS hJ hX 13 (by decide) rfl rfl (Chg.refl _ _))
    · obtain rfl : o = { dst := some 17, op := Op.call { callee := Callee.value (Operand.func 26), args := #[Operand.tmp 16], argTypes := #[23] }, type := 3, pos := "ref.go:137", after := #[{ on := 13, ground := Ground.data }, { on := 5, ground := Ground.chain }], guard := none } := (Option.some.inj ho).symm
      have c13 := hJ.val 13 (by decide) (hdeps ⟨13, .data⟩ (by simp) rfl)
      have e16 : T.getD 16 undef = .slice (some a) n c := c13
      rw [if_pos (want_all rfl)]
      clear ho hdeps hi c13
      go_simp
      refine Calls.mono (xcur_any RW.out (by omega)) ?_
      rintro e w2 ⟨rfl, q⟩
      exact hK _ _ (putS hJ hX 14 (by decide) rfl (by rw [HC.out]; rfl) q)
    · obtain rfl : o = { dst := some 18, op := Op.buildSlice 54 0 #[], type := 54, pos := "ref.go:137", after := #[], guard := none } := (Option.some.inj ho).symm
      rw [if_pos (want_all rfl)]
      clear ho hdeps hi 
      go_simp
      exact hK _ _ (putS hJ hX 15 (by decide) rfl ⟨_, rfl⟩ ((Chg.refl _ _).alloc _))
    · obtain rfl : o = { dst := some 19, op := Op.move (Operand.tmp 0), type := 41, pos := "ref.go:137", after := #[], guard := none } := (Option.some.inj ho).symm
      rw [if_pos (want_all rfl)]
      clear ho hdeps hi 
      go_simp
      exact hK _ _ (putS hJ hX 16 (by decide) rfl rfl (Chg.refl _ _))
    · obtain rfl : o = { dst := some 20, op := Op.nilCheck (Operand.tmp 19), type := 0, pos := "ref.go:137", after := #[{ on := 16, ground := Ground.data }], guard := none } := (Option.some.inj ho).symm
      have c16 := hJ.val 16 (by decide) (hdeps ⟨16, .data⟩ (by simp) rfl)
      have e19 : T.getD 19 undef = .pointer (some ⟨r, 0, none⟩) := c16
      rw [if_pos (want_all rfl)]
      clear ho hdeps hi c16
      go_simp
      exact hK _ _ (putS hJ hX 17 (by decide) rfl rfl (Chg.refl _ _))
    · obtain rfl : o = { dst := some 21, op := Op.fieldAddr 73 (Operand.tmp 20) 4, type := 0, pos := "ref.go:137", after := #[{ on := 17, ground := Ground.data }], guard := none } := (Option.some.inj ho).symm
      have c17 := hJ.val 17 (by decide) (hdeps ⟨17, .data⟩ (by simp) rfl)
      have e20 : T.getD 20 undef = .pointer (some ⟨r, 0, none⟩) := c17
      rw [if_pos (want_all rfl)]
      clear ho hdeps hi c17
      go_simp
      exact hK _ _ (putS hJ hX 18 (by decide) rfl rfl (Chg.refl _ _))
    · obtain rfl : o = { dst := some 22, op := Op.load 54 (Operand.tmp 21), type := 54, pos := "ref.go:137", after := #[{ on := 18, ground := Ground.data }], guard := none } := (Option.some.inj ho).symm
      have c18 := hJ.val 18 (by decide) (hdeps ⟨18, .data⟩ (by simp) rfl)
      have e21 : T.getD 21 undef = .pointer (some ⟨r, 4, none⟩) := c18
      rw [if_pos (want_all rfl)]
      clear ho hdeps hi c18
      go_simp
      exact hK _ _ (putS hJ hX 19 (by decide) rfl rfl (Chg.refl _ _))
    · obtain rfl : o = { dst := some 23, op := Op.call { callee := Callee.builtin Builtin.append, args := #[Operand.tmp 18, Operand.tmp 22], argTypes := #[54, 54] }, type := 54, pos := "ref.go:137", after := #[{ on := 15, ground := Ground.data }, { on := 19, ground := Ground.data }, { on := 14, ground := Ground.chain }], guard := none } := (Option.some.inj ho).symm
      have c15 := hJ.val 15 (by decide) (hdeps ⟨15, .data⟩ (by simp) rfl)
      have c19 := hJ.val 19 (by decide) (hdeps ⟨19, .data⟩ (by simp) rfl)
      have e22 : T.getD 22 undef = .slice (some h) n hc := c19
      rw [if_pos (want_all rfl)]
      clear ho hdeps hi c19
      obtain ⟨b, hb⟩ := c15
      obtain ⟨cc, w2, r1, r2, r3⟩ := app_fresh (c := hc) Try.underlying54 info4 bF_len RW2.out (by omega) (by omega) (by omega) b 54
      refine wp_appG (sl := 54) (.tmp 18) (.tmp 22) rfl (v := .slice (some ⟨b, 0, none⟩) 0 0) (u := .slice (some h) n hc) hb e22 r1 ?_
      exact hK _ _ (putS hJ hX 20 (by decide) rfl ⟨_, _, rfl, r2.mono WS.out⟩ r3)
    · obtain rfl : o = { dst := some 24, op := Op.build 56 #[(0, Operand.tmp 8), (1, Operand.tmp 12), (2, Operand.tmp 17), (3, Operand.tmp 23)], type := 56, pos := "ref.go:137", after := #[{ on := 5, ground := Ground.data }, { on := 9, ground := Ground.data }, { on := 14, ground := Ground.data }, { on := 20, ground := Ground.data }], guard := none } := (Option.some.inj ho).symm
      have c5 := hJ.val 5 (by decide) (hdeps ⟨5, .data⟩ (by simp) rfl)
      have c9 := hJ.val 9 (by decide) (hdeps ⟨9, .data⟩ (by simp) rfl)
      have e12 : T.getD 12 undef = .int .u64 S := c9
      have c14 := hJ.val 14 (by decide) (hdeps ⟨14, .data⟩ (by simp) rfl)
      have e17 : T.getD 17 undef = .int .i64 C := c14
      have c20 := hJ.val 20 (by decide) (hdeps ⟨20, .data⟩ (by simp) rfl)
      rw [if_pos (want_all rfl)]
      clear ho hdeps hi c9 c14
      obtain ⟨A1, cc, hA1, qA⟩ := c5
      obtain ⟨H1, hcc, hH1, qH⟩ := c20
      replace hA1 : T.getD 8 undef = .slice A1 n cc := hA1
      replace hH1 : T.getD 23 undef = .slice H1 n hcc := hH1
      have QA : Hid _ := And.intro qA qH
      clear qA qH
      have f8 : T[8]?.getD undef = .slice A1 n cc := by simpa using hA1
      have f12 : T[12]?.getD undef = .int .u64 S := by simpa using e12
      have f17 : T[17]?.getD undef = .int .i64 C := by simpa using e17
      have f23 : T[23]?.getD undef = .slice H1 n hcc := by simpa using hH1
      go_simp
      exact hK _ _ (putS hJ hX 21 (by decide) rfl ⟨A1, cc, H1, hcc, rfl, QA.out⟩ (Chg.refl _ _))
    · obtain rfl : o = { dst := none, op := Op.store 56 (Operand.tmp 2) (Operand.tmp 24), type := 0, pos := "ref.go:137", after := #[{ on := 21, ground := Ground.data }, { on := 20, ground := Ground.chain }, { on := 0, ground := Ground.phase }, { on := 1, ground := Ground.phase }, { on := 2, ground := Ground.phase }, { on := 3, ground := Ground.phase }, { on := 4, ground := Ground.phase }, { on := 5, ground := Ground.phase }, { on := 6, ground := Ground.phase }, { on := 7, ground := Ground.phase }, { on := 8, ground := Ground.phase }, { on := 9, ground := Ground.phase }, { on := 10, ground := Ground.phase }, { on := 11, ground := Ground.phase }, { on := 12, ground := Ground.phase }, { on := 13, ground := Ground.phase }, { on := 14, ground := Ground.phase }, { on := 15, ground := Ground.phase }, { on := 16, ground := Ground.phase }, { on := 17, ground := Ground.phase }, { on := 18, ground := Ground.phase }, { on := 19, ground := Ground.phase }, { on := 20, ground := Ground.phase }, { on := 21, ground := Ground.phase }], guard := none } := (Option.some.inj ho).symm
      have c21 := hJ.val 21 (by decide) (hdeps ⟨21, .data⟩ (by simp) rfl)
      rw [if_pos (want_all rfl)]
      clear ho hdeps hi 
      obtain ⟨A1, cc, H1, hcc, hv, qA, qH⟩ := c21
      replace hv : T.getD 24 undef = .agg (tlC A1 n cc S C H1 hcc).toArray := hv
      obtain ⟨cs, hcs, hbk⟩ := hJ.ch.b
      obtain ⟨g2, g3⟩ := Blk.setCells (tlC A1 n cc S C H1 hcc) 0 w cs hbk (by simp [tlC, hcs])
      refine wp_store_mid 56 (.tmp 2) (.tmp 24) rfl X 0 (tlC A1 n cc S C H1 hcc).toArray e2 hv (by rw [List.size_toArray]; exact hbk.there (by simp [tlC, hcs])) (by rw [List.size_toArray]; exact Try.tlSz) (all_oneCell_toArray (tlC_one _ _ _ _ _ _ _)) ?_
      rw [List.toList_toArray]
      rw [splice_all _ _ (by simp [tlC, hcs])] at g2
      exact hK _ _ (RJ.put0 hJ 22 (fun u => ⟨A1, cc, H1, hcc, g2, NL.kept qA g3 (fun g hg => by omega), NL.kept qH g3 (fun g hg => by omega)⟩) ⟨hJ.ch.c.trans g3 (fun _ e => .inl e), _, by simp [tlC], g2⟩ (fun j _ _ hj hq => VS.keep g3 hX j hq (fun e => absurd e hj)))

set_option maxRecDepth 100000 in
set_option maxHeartbeats 2000000 in
theorem state_any {w : World} {Av Av2 : Nat → Prop} {a h : Addr} {r p n c hc : Nat} {sp S : Int} {ms : Nat → Mk} (hb : Blk w r (rlC p sp S (some a) n c (some h) hc) 73) (hr : RowsIn w Av (some a) n 2 (mF ms)) (hh : RowsIn w Av2 (some h) n 1 bF) (hn : 2 ≤ n ∧ n ≤ 65536) :
    Calls Try.prog 13 #[.pointer (some ⟨r, 0, none⟩)] w fun e w' => ∃ A cc H hcc, e = .returned (.agg (tlC A n cc S (curF ms n).1 H hcc).toArray) ∧ NL w' w.heap.size A n 2 (mF ms) ∧ NL w' w.heap.size H n 1 bF ∧ Chg (fun _ => False) w w' := by
  obtain ⟨X, hX⟩ : ∃ X, X = w.heap.size := ⟨_, rfl⟩
  obtain ⟨W, hW⟩ : ∃ W, W = w.alloc (.cells #[.slice none 0 0, .int .u64 0, .int .i64 0, .slice none 0 0] 56) := ⟨_, rfl⟩
  have cW : Chg (fun _ => False) w W := by rw [hW]; exact (Chg.refl _ _).alloc _
  have b1 : Blk W X [.slice none 0 0, .int .u64 0, .int .i64 0, .slice none 0 0] 56 := by rw [hW, hX]; exact Blk.made _ _ _
  have rl := hb.lt
  have CW : Hid _ := cW
  have HX : Hid (X = w.heap.size) := hX
  have RF : Hid (∀ (Q : Exit → Act → World → Prop) (A : Act), A.tmps.size = 25 → A.defers = [] → A.tmps.getD 0 undef = .pointer (some ⟨r, 0, none⟩) → A.tmps.getD 2 undef = .pointer (some ⟨X, 0, none⟩) → (∀ b w', b.tmps.size = 25 → b.defers = [] → b.tmps.getD 2 undef = .pointer (some ⟨X, 0, none⟩) → Chg (fun k => k = X) W w' → (∃ A cc H hcc, Blk w' X (tlC A n cc S (curF ms n).1 H hcc) 56 ∧ NL w' W.heap.size A n 2 (mF ms) ∧ NL w' W.heap.size H n 1 bF) → Q .normal b w') → (Code.region 1 opsS true).wp Try.prog Q A W) :=
    fun Q A h1 h2 h3 h4 h5 => regS (hb.keep cW (fun e => e)) (by omega) b1.lt ⟨_, rfl, b1⟩ ((hr.old (fun _ e => by cases e)).kept cW (fun _ _ e => e)) ((hh.old (fun _ e => by cases e)).kept cW (fun _ _ e => e)) (fun g hg => by omega) (fun g hg => by omega) hn rfl h1 h2 h3 h4 h5
  clear hb hr hh cW b1 rl
  go_enter Try.func13, Try.ntmps13
  go_upto_region 1 with fail
  rw [← hX, ← hW]
  clear hX hW
  refine RF.out _ _ rfl rfl rfl rfl ?_
  rename_i KK hKK
  intro b w' _ b2 b3 b4 b5
  obtain ⟨A, cc, H, hcc, q1, q2, q3⟩ := b5
  refine hKK b w' ?_
  refine wp_ret ?_
  show bodyPost Try.prog Try.f13 _ .ret b w'
  refine bodyPost_ret (results_row rfl _ _ X 56 _ _ b3 q1 Try.underlying56 rfl Try.tlSz) b2 ?_
  have hX := HX.out
  exact ⟨A, cc, H, hcc, rfl, q2.mono CW.out.size, q3.mono CW.out.size, CW.out.trans b4 (fun i e => .inr (by omega))⟩
end Go.Proofs.Ytnfcmpffihmnmaa
