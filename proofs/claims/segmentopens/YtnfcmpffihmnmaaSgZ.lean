/-
  Open: the last region of the code's.
-/
import Derived.Test.YtnfcmpffihmnmaaSgY
namespace Go.Proofs.Ytnfcmpffihmnmaa
open Go.RowKit

theorem mk54 (n : Nat) (hn : n ≤ 65536) (w : World) : (Instr.makeSlice 54 (.int .i64 n) (.int .i64 n)).run Try.prog w = .ok (.slice (some ⟨w.heap.size, 0, none⟩) n n) (w.alloc (.cells (madeCells #[.bool false] n) 4)) := by
  obtain ⟨i0, hi, hz0, hz1, hz2⟩ := info_parts info4
  have := run_make (P := Try.prog) w 54 4 i0 _ Try.underlying54 hi hz0 .i64 .i64 n n (by omega) (by omega) (by rw [hz2]; omega) (by omega)
  rw [this, hz1, Int.toNat_natCast, Nat.mul_one]
  rfl
theorem nl_made (w : World) (n : Nat) : NL (w.alloc (.cells (madeCells #[.bool false] n) 4)) w.heap.size (some ⟨w.heap.size, 0, none⟩) n 1 bF := by
  refine ⟨fun i hi => ⟨w.heap.size, 0, rfl, Nat.le_refl _, fun j u hu => ?_⟩, _, rfl, Nat.le_refl _⟩
  have hj : j = 0 := by
    have := (List.getElem?_eq_some_iff.1 hu).1
    rw [bF_len] at this
    omega
  subst hj
  have hu : Value.bool false = u := by simpa [bF] using hu
  subst hu
  rw [cell_of_row _ _ _ _ _ _ (heap_alloc_new _ _), ← Array.getElem?_toList, toList_madeCells_one]
  simp [hi]

noncomputable def opsO : Array Oper := (Try.f9.body.bind (regIn 8)).getD #[]
def sO (i : Nat) : Nat := if i = 12 then 48 else 35 + i
theorem sO_ne {i j : Nat} (hi : i < 13) (hj : j < 13) (h : j ≠ i) : sO j ≠ sO i := by
  unfold sO
  split <;> split <;> omega

def cO (q n c : Nat) (a : Addr) (S C : Int) : List Value := [.pointer (some ⟨q, 0, none⟩), .slice (some a) n c, .int .u64 S, .slice (some a) n c, .int .i64 C, .slice (some a) n c, .int .i64 n, undef, undef, undef, .pointer (some ⟨q, 0, none⟩), .pointer (some ⟨q, 2, none⟩)]

/-- What stands in each slot. -/
def VO (B q p n c : Nat) (a : Addr) (sp S C : Int) (ms : Nat → Mk) (i : Nat) (w : World) (v : Value) : Prop :=
  match i with
  | 7 => ∃ H, v = .slice H n n ∧ NL w B H n 1 bF
  | 8 => ∃ H, v = .agg (tlC (some a) n c S C H n).toArray ∧ NL w B H n 1 bF
  | 9 => ∃ A cc H hcc, v = .agg (tlC A n cc S C H hcc).toArray ∧ NL w B A n 2 (mF ms) ∧ NL w B H n 1 bF
  | 12 => ∃ A cc H hcc, Blk w q (lgC p sp A n cc S C H hcc) 67 ∧ NL w B A n 2 (mF ms) ∧ NL w B H n 1 bF
  | i => v = (cO q n c a S C).getD i undef

theorem VO.keep {B q p n c : Nat} {a : Addr} {sp S C : Int} {ms : Nat → Mk} {w w' : World} (k : Chg (fun k => k = q) w w') (hX : q < B) (i : Nat) {v : Value} (hv : VO B q p n c a sp S C ms i w v) (hk : i = 12 → Chg (fun _ => False) w w') : VO B q p n c a sp S C ms i w' v := by
  unfold VO at hv ⊢
  split
  · obtain ⟨A, e, x⟩ := hv
    exact ⟨A, e, x.kept k (fun g hg => by omega)⟩
  · obtain ⟨A, e, x⟩ := hv
    exact ⟨A, e, x.kept k (fun g hg => by omega)⟩
  · obtain ⟨A, cc, H, hcc, e, x, x2⟩ := hv
    exact ⟨A, cc, H, hcc, e, x.kept k (fun g hg => by omega), x2.kept k (fun g hg => by omega)⟩
  · obtain ⟨A, cc, H, hcc, e, x, x2⟩ := hv
    exact ⟨A, cc, H, hcc, e.keep (hk rfl) (fun e => e), x.kept k (fun g hg => by omega), x2.kept k (fun g hg => by omega)⟩
  · split at hv <;> first | exact hv | (rename_i h1 h2 h3 h4; first | exact absurd rfl h1 | exact absurd rfl h2 | exact absurd rfl h3 | exact absurd rfl h4)

/-- A log with whatever tail. -/
def lgT (p : Nat) (sp : Int) (t : List Value) : List Value := [.pointer (some ⟨p, 0, none⟩), .int .i64 sp] ++ t ++ [.int .i64 0]
/-- What stands of the world. -/
structure CO (W : World) (q p : Nat) (sp : Int) (w : World) : Prop where
  c : Chg (fun k => k = q) W w
  b : ∃ t, t.length = 4 ∧ Blk w q (lgT p sp t) 67
theorem CO.next {W w w' : World} {q p : Nat} {sp : Int} (h : CO W q p sp w) (k : Chg (fun _ => False) w w') : CO W q p sp w' := ⟨h.c.trans k (fun _ e => e.elim), by obtain ⟨cs, e, x⟩ := h.b; exact ⟨cs, e, x.keep k (fun e => e)⟩⟩
theorem lg_splice (p : Nat) (sp : Int) (A : Option Addr) (n c : Nat) (S C : Int) (H : Option Addr) (hc : Nat) : ∀ t : List Value, t.length = 4 → splice (lgT p sp t) 2 (tlC A n c S C H hc) = lgC p sp A n c S C H hc
  | [_, _, _, _], _ => rfl

def JO (W : World) (q p n c : Nat) (a : Addr) (sp S C : Int) (ms : Nat → Mk) : (Nat → Bool) → Act → World → Prop :=
  RJ 48 sO 13 [(2, .int .u64 S), (3, .slice (some a) n c), (10, .pointer (some ⟨q, 0, none⟩))] (VO W.heap.size q p n c a sp S C ms) (CO W q p sp)

theorem putO {W : World} {q p n c : Nat} {a : Addr} {sp S C : Int} {ms : Nat → Mk} {d : Nat → Bool} {T : Array Value} {df : List Deferred} {w w' : World} (hJ : JO W q p n c a sp S C ms d ⟨T, df⟩ w) (hX : q < W.heap.size) (i : Nat) {s : Nat} {v : Value} (hi : i < 12) (hs : s = sO i) (hv : VO W.heap.size q p n c a sp S C ms i w' v) (k : Chg (fun _ => False) w w') :
    JO W q p n c a sp S C ms (fun j => if j = i then true else d j) ⟨T.setIfInBounds s v, df⟩ w' :=
  RJ.put hJ i hs (by unfold sO; split <;> omega) (fun j hj h => sO_ne (by omega) hj h) (fun x hx => by
    simp only [List.mem_cons, List.not_mem_nil, or_false] at hx
    unfold sO
    rcases hx with rfl | rfl | rfl <;> (split <;> simp; try omega)) hv (hJ.ch.next k) (fun j _ _ hq => VO.keep (k.mono (fun _ _ e => e.elim)) hX j hq (fun _ => k))

set_option maxRecDepth 100000 in
set_option maxHeartbeats 8000000 in
theorem regO {W : World} {q p n c : Nat} {a : Addr} {S C sp : Int} {ms : Nat → Mk} {Av : Nat → Prop} {Q : Exit → Act → World → Prop} {A : Act} (hX : q < W.heap.size) (hbx : ∃ t, t.length = 4 ∧ Blk W q (lgT p sp t) 67)
    (hR : RowsIn W Av (some a) n 2 (mF ms)) (hAv : ∀ g, Av g → g ≠ q) (hn : n ≤ 65536) (hC : C = (curF ms n).1)
    (sz : A.tmps.size = 48) (df : A.defers = []) (h2 : A.tmps.getD 2 undef = .int .u64 S) (h3 : A.tmps.getD 3 undef = .slice (some a) n c) (h10 : A.tmps.getD 10 undef = .pointer (some ⟨q, 0, none⟩))
    (hQ : ∀ b w', b.tmps.size = 48 → b.defers = [] → b.tmps.getD 10 undef = .pointer (some ⟨q, 0, none⟩) → Chg (fun k => k = q) W w' → (∃ A cc H hcc, Blk w' q (lgC p sp A n cc S C H hcc) 67 ∧ NL w' W.heap.size A n 2 (mF ms) ∧ NL w' W.heap.size H n 1 bF) → Q .normal b w') : (Code.region 8 opsO true).wp Try.prog Q A W := by
  have HC : Hid _ := hC
  clear hC
  have hmk := mk54 n hn
  refine region_plain (by kernel_rfl) (JO W q p n c a sp S C ms) ?_ (after_of (by kernel_rfl)) ?_ ?_
  · refine ⟨sz, df, fun x hx => ?_, fun i _ (h : false = true) => (by cases h), ⟨(Chg.refl _ _).drew, by obtain ⟨cs, e, x⟩ := hbx; exact ⟨cs, e, x.drew⟩⟩⟩
    simp only [List.mem_cons, List.not_mem_nil, or_false] at hx
    rcases hx with rfl | rfl | rfl
    · exact h2
    · exact h3
    · exact h10
  · intro d b w hJ hall
    exact hQ b w hJ.sz hJ.df (hJ.fix (10, .pointer (some ⟨q, 0, none⟩)) (by simp)) hJ.ch.c (hJ.val 12 (by decide) (hall 12 (by decide)))
  · rintro d ⟨T, df⟩ w i o hJ hdi ho hdeps K hK
    have hi : i < 13 := (Array.getElem?_eq_some_iff.1 ho).1
    have e2 : T.getD 2 undef = .int .u64 S := hJ.fix (2, .int .u64 S) (by simp)
    have e3 : T.getD 3 undef = .slice (some a) n c := hJ.fix (3, .slice (some a) n c) (by simp)
    have e10 : T.getD 10 undef = .pointer (some ⟨q, 0, none⟩) := hJ.fix (10, .pointer (some ⟨q, 0, none⟩)) (by simp)
    have RW : Hid (RowsIn w Av (some a) n 2 (mF ms)) := hR.kept hJ.ch.c hAv
    have WS : Hid (W.heap.size ≤ w.heap.size) := hJ.ch.c.size
    clear hdi
    obtain rfl | rfl | rfl | rfl | rfl | rfl | rfl | rfl | rfl | rfl | rfl | rfl | rfl : i = 0 ∨ i = 1 ∨ i = 2 ∨ i = 3 ∨ i = 4 ∨ i = 5 ∨ i = 6 ∨ i = 7 ∨ i = 8 ∨ i = 9 ∨ i = 10 ∨ i = 11 ∨ i = 12 := by omega
    · obtain rfl : o = { dst := some 35, op := Op.move (Operand.tmp 10), type := 38, pos := "segment.go:36", after := #[], guard := none } := (Option.some.inj ho).symm
      rw [if_pos (want_all rfl)]
      clear ho hdeps hi 
      go_simp
      exact hK _ _ (putO hJ hX 0 (by decide) rfl rfl (Chg.refl _ _))
    · obtain rfl : o = { dst := some 36, op := Op.move (Operand.tmp 3), type := 23, pos := "segment.go:36", after := #[], guard := none } := (Option.some.inj ho).symm
      rw [if_pos (want_all rfl)]
      clear ho hdeps hi 
      go_simp
      exact hK _ _ (putO hJ hX 1 (by decide) rfl rfl (Chg.refl _ _))
    · obtain rfl : o = { dst := some 37, op := Op.move (Operand.tmp 2), type := 22, pos := "segment.go:36", after := #[], guard := none } := (Option.some.inj ho).symm
      rw [if_pos (want_all rfl)]
      clear ho hdeps hi 
      go_simp
      exact hK _ _ (putO hJ hX 2 (by decide) rfl rfl (Chg.refl _ _))
    · obtain rfl : o = { dst := some 38, op := Op.move (Operand.tmp 3), type := 23, pos := "segment.go:36", after := #[], guard := none } := (Option.some.inj ho).symm
      rw [if_pos (want_all rfl)]
      clear ho hdeps hi 
      go_simp
      exact hK _ _ (putO hJ hX 3 (by decide) rfl rfl (Chg.refl _ _))
    · obtain rfl : o = { dst := some 39, op := Op.call { callee := Callee.value (Operand.func 23), args := #[Operand.tmp 38], argTypes := #[23] }, type := 3, pos := "segment.go:39", after := #[{ on := 3, ground := Ground.data }], guard := none } := (Option.some.inj ho).symm
      have c3 := hJ.val 3 (by decide) (hdeps ⟨3, .data⟩ (by simp) rfl)
      have e38 : T.getD 38 undef = .slice (some a) n c := c3
      rw [if_pos (want_all rfl)]
      clear ho hdeps hi c3
      go_simp
      refine Calls.mono (cur_any RW.out (by omega)) ?_
      rintro e w2 ⟨rfl, x⟩
      exact hK _ _ (putO hJ hX 4 (by decide) rfl (by rw [HC.out]; rfl) x)
    · obtain rfl : o = { dst := some 40, op := Op.move (Operand.tmp 3), type := 23, pos := "segment.go:36", after := #[], guard := none } := (Option.some.inj ho).symm
      rw [if_pos (want_all rfl)]
      clear ho hdeps hi 
      go_simp
      exact hK _ _ (putO hJ hX 5 (by decide) rfl rfl (Chg.refl _ _))
    · obtain rfl : o = { dst := some 41, op := Op.call { callee := Callee.builtin Builtin.len, args := #[Operand.tmp 40], argTypes := #[23] }, type := 3, pos := "segment.go:36", after := #[{ on := 5, ground := Ground.data }], guard := none } := (Option.some.inj ho).symm
      have c5 := hJ.val 5 (by decide) (hdeps ⟨5, .data⟩ (by simp) rfl)
      have e40 : T.getD 40 undef = .slice (some a) n c := c5
      rw [if_pos (want_all rfl)]
      clear ho hdeps hi c5
      go_simp
      exact hK _ _ (putO hJ hX 6 (by decide) rfl rfl (Chg.refl _ _))
    · obtain rfl : o = { dst := some 42, op := Op.makeSlice 54 (Operand.tmp 41) (Operand.tmp 41), type := 54, pos := "segment.go:36", after := #[{ on := 6, ground := Ground.data }, { on := 6, ground := Ground.data }], guard := none } := (Option.some.inj ho).symm
      have c6 := hJ.val 6 (by decide) (hdeps ⟨6, .data⟩ (by simp) rfl)
      have e41 : T.getD 41 undef = .int .i64 n := c6
      rw [if_pos (want_all rfl)]
      clear ho hdeps hi c6
      go_simp
      exact hK _ _ (putO hJ hX 7 (by decide) rfl ⟨_, rfl, (nl_made w n).mono WS.out⟩ ((Chg.refl _ _).alloc _))
    · obtain rfl : o = { dst := some 43, op := Op.build 56 #[(0, Operand.tmp 36), (1, Operand.tmp 37), (2, Operand.tmp 39), (3, Operand.tmp 42)], type := 56, pos := "segment.go:36", after := #[{ on := 1, ground := Ground.data }, { on := 2, ground := Ground.data }, { on := 4, ground := Ground.data }, { on := 7, ground := Ground.data }], guard := none } := (Option.some.inj ho).symm
      have c1 := hJ.val 1 (by decide) (hdeps ⟨1, .data⟩ (by simp) rfl)
      have e36 : T.getD 36 undef = .slice (some a) n c := c1
      have c2 := hJ.val 2 (by decide) (hdeps ⟨2, .data⟩ (by simp) rfl)
      have e37 : T.getD 37 undef = .int .u64 S := c2
      have c4 := hJ.val 4 (by decide) (hdeps ⟨4, .data⟩ (by simp) rfl)
      have e39 : T.getD 39 undef = .int .i64 C := c4
      have c7 := hJ.val 7 (by decide) (hdeps ⟨7, .data⟩ (by simp) rfl)
      rw [if_pos (want_all rfl)]
      clear ho hdeps hi c1 c2 c4
      obtain ⟨H1, hH1, qH⟩ := c7
      replace hH1 : T.getD 42 undef = .slice H1 n n := hH1
      have QH : Hid (NL w W.heap.size H1 n 1 bF) := qH
      clear qH
      have f36 : T[36]?.getD undef = .slice (some a) n c := by simpa using e36
      have f37 : T[37]?.getD undef = .int .u64 S := by simpa using e37
      have f39 : T[39]?.getD undef = .int .i64 C := by simpa using e39
      have f42 : T[42]?.getD undef = .slice H1 n n := by simpa using hH1
      go_simp
      exact hK _ _ (putO hJ hX 8 (by decide) rfl ⟨H1, rfl, QH.out⟩ (Chg.refl _ _))
    · obtain rfl : o = { dst := some 44, op := Op.call { callee := Callee.value (Operand.func 22), args := #[Operand.tmp 43], argTypes := #[56] }, type := 56, pos := "segment.go:36", after := #[{ on := 8, ground := Ground.data }, { on := 4, ground := Ground.chain }], guard := none } := (Option.some.inj ho).symm
      have c8 := hJ.val 8 (by decide) (hdeps ⟨8, .data⟩ (by simp) rfl)
      rw [if_pos (want_all rfl)]
      clear ho hdeps hi 
      obtain ⟨H1, hv, qH⟩ := c8
      obtain ⟨g1, hg1, hgB⟩ := qH.2
      subst hg1
      replace hv : T.getD 43 undef = .agg (tlC (some a) n c S C (some ⟨g1, 0, none⟩) n).toArray := hv
      have QH : Hid (RowsIn w (fun g => W.heap.size ≤ g) (some ⟨g1, 0, none⟩) n 1 bF) := qH.1
      clear qH hgB
      go_simp
      refine Calls.mono (copied_any (c := c) (hc := n) (S := S) (C := C) RW.out QH.out hn) ?_
      rintro e w2 ⟨A1, cc, H2, hcc, rfl, x1, x2, x3⟩
      exact hK _ _ (putO hJ hX 9 (by decide) rfl ⟨A1, cc, H2, hcc, rfl, x1.mono WS.out, x2.mono WS.out⟩ x3)
    · obtain rfl : o = { dst := some 45, op := Op.nilCheck (Operand.tmp 35), type := 0, pos := "segment.go:36", after := #[{ on := 0, ground := Ground.data }, { on := 0, ground := Ground.phase }, { on := 1, ground := Ground.phase }, { on := 2, ground := Ground.phase }, { on := 3, ground := Ground.phase }, { on := 4, ground := Ground.phase }, { on := 5, ground := Ground.phase }, { on := 6, ground := Ground.phase }, { on := 7, ground := Ground.phase }, { on := 8, ground := Ground.phase }, { on := 9, ground := Ground.phase }], guard := none } := (Option.some.inj ho).symm
      have c0 := hJ.val 0 (by decide) (hdeps ⟨0, .data⟩ (by simp) rfl)
      have e35 : T.getD 35 undef = .pointer (some ⟨q, 0, none⟩) := c0
      rw [if_pos (want_all rfl)]
      clear ho hdeps hi c0
      go_simp
      exact hK _ _ (putO hJ hX 10 (by decide) rfl rfl (Chg.refl _ _))
    · obtain rfl : o = { dst := some 46, op := Op.fieldAddr 67 (Operand.tmp 45) 2, type := 0, pos := "segment.go:36", after := #[{ on := 10, ground := Ground.data }, { on := 0, ground := Ground.phase }, { on := 1, ground := Ground.phase }, { on := 2, ground := Ground.phase }, { on := 3, ground := Ground.phase }, { on := 4, ground := Ground.phase }, { on := 5, ground := Ground.phase }, { on := 6, ground := Ground.phase }, { on := 7, ground := Ground.phase }, { on := 8, ground := Ground.phase }, { on := 9, ground := Ground.phase }], guard := none } := (Option.some.inj ho).symm
      have c10 := hJ.val 10 (by decide) (hdeps ⟨10, .data⟩ (by simp) rfl)
      have e45 : T.getD 45 undef = .pointer (some ⟨q, 0, none⟩) := c10
      rw [if_pos (want_all rfl)]
      clear ho hdeps hi c10
      go_simp
      exact hK _ _ (putO hJ hX 11 (by decide) rfl rfl (Chg.refl _ _))
    · obtain rfl : o = { dst := none, op := Op.store 56 (Operand.tmp 46) (Operand.tmp 44), type := 0, pos := "segment.go:36", after := #[{ on := 11, ground := Ground.data }, { on := 9, ground := Ground.data }, { on := 9, ground := Ground.chain }, { on := 0, ground := Ground.phase }, { on := 1, ground := Ground.phase }, { on := 2, ground := Ground.phase }, { on := 3, ground := Ground.phase }, { on := 4, ground := Ground.phase }, { on := 5, ground := Ground.phase }, { on := 6, ground := Ground.phase }, { on := 7, ground := Ground.phase }, { on := 8, ground := Ground.phase }, { on := 9, ground := Ground.phase }], guard := none } := (Option.some.inj ho).symm
      have c11 := hJ.val 11 (by decide) (hdeps ⟨11, .data⟩ (by simp) rfl)
      have e46 : T.getD 46 undef = .pointer (some ⟨q, 2, none⟩) := c11
      have c9 := hJ.val 9 (by decide) (hdeps ⟨9, .data⟩ (by simp) rfl)
      rw [if_pos (want_all rfl)]
      clear ho hdeps hi c11
      obtain ⟨A1, cc, H1, hcc, hv, qA, qH⟩ := c9
      replace hv : T.getD 44 undef = .agg (tlC A1 n cc S C H1 hcc).toArray := hv
      obtain ⟨cs, hcs, hbk⟩ := hJ.ch.b
      obtain ⟨g2, g3⟩ := Blk.setCells (tlC A1 n cc S C H1 hcc) 2 w _ hbk (by simp [tlC, lgT, hcs])
      refine wp_store_mid 56 (.tmp 46) (.tmp 44) rfl q 2 (tlC A1 n cc S C H1 hcc).toArray e46 hv (by rw [List.size_toArray]; exact hbk.there (by simp [tlC, lgT, hcs])) (by rw [List.size_toArray]; exact Try.tlSz) (all_oneCell_toArray (tlC_one _ _ _ _ _ _ _)) ?_
      rw [List.toList_toArray]
      rw [lg_splice _ _ _ _ _ _ _ _ _ cs hcs] at g2
      exact hK _ _ (RJ.put0 hJ 12 (fun u => ⟨A1, cc, H1, hcc, g2, NL.kept qA g3 (fun g hg => by omega), NL.kept qH g3 (fun g hg => by omega)⟩) ⟨hJ.ch.c.trans g3 (fun _ e => .inl e), tlC A1 n cc S C H1 hcc, rfl, g2⟩ (fun j _ _ hj hq => VO.keep g3 hX j hq (fun e => absurd e hj)))

end Go.Proofs.Ytnfcmpffihmnmaa
