/-
  The writing of messages: numbers of any sign, spans, paths, changes.
-/
import Derived.Test.YtjmeaebehndheaaPrX
import Derived.Test.YtjmeaebehndheaaMsM
namespace Go.Proofs.Ytjmeaebehndheaa
open Go.RowKit

/-- A text that came in or was made. -/
structure Tx where
  a : Option Addr
  n : Nat
  c : Nat
  l : List Int
abbrev Tx.val (t : Tx) : Value := .slice t.a t.n t.c
def Tx.bytes (t : Tx) : List Int := numB t.l.length ++ t.l
structure TxIn (w : World) (Av : Nat → Prop) (t : Tx) : Prop where
  s : Src w t.val t.l
  av : ∀ g, t.val.ownBlock = some g → Av g ∨ t.l = []
  le : t.l.length ≤ 140737488355328
theorem TxIn.kept {w w' : World} {Av : Nat → Prop} {o : Tx} (h : TxIn w Av o) {S : Nat → Prop} (c : Chg S w w') (hS : ∀ g, Av g → ¬ S g) : TxIn w' Av o := ⟨h.s.keptE c (fun g hg => (h.av g hg).imp (hS g) id), h.av, h.le⟩
theorem TxIn.mono {w : World} {Av Av' : Nat → Prop} {o : Tx} (h : TxIn w Av o) (hA : ∀ g, Av g → Av' g) : TxIn w Av' o := ⟨h.s, fun g hg => (h.av g hg).imp (hA g) id, h.le⟩
theorem Tx.bytes_le (t : Tx) (h : t.l.length ≤ 140737488355328) : t.l.length < t.bytes.length ∧ t.bytes.length ≤ t.l.length + 10 := by
  have := numB_ten (n := t.l.length) (by omega)
  have := numB_pos t.l.length
  simp only [Tx.bytes, List.length_append]
  omega

/-- A number of any sign, as its 64 bits. -/
def u64 (n : Int) : Nat := (n % 18446744073709551616).toNat
theorem u64_lt (n : Int) : u64 n < 18446744073709551616 := by unfold u64; omega
set_option maxRecDepth 100000 in
set_option maxHeartbeats 1000000 in
theorem wNumberI_any {w : World} {p : Nat} {cs : Array Value} {t : TypeId} {v : Value} {l : List Int} (h : WS w p 0 cs t v l) (n : Int) (hl : l.length + 10 ≤ 140737488355328) :
    Calls Try.prog 146 #[.pointer (some ⟨p, 0, none⟩), .int .i64 n] w fun e w' => e = .returned (.tuple #[]) ∧ PW w w' p 0 cs t v (l ++ numB (u64 n)) := by
  obtain ⟨U, hU⟩ : ∃ U, U = u64 n := ⟨_, rfl⟩
  have H : Hid _ := wUint_any h U (by rw [hU]; exact u64_lt n) hl
  have hu : IntKind.wrap .u64 n = (U : Int) := by rw [hU, IntKind.wrap_u64]; unfold u64; omega
  rw [← hU]
  clear h hU
  go_enter Try.func146, Try.ntmps146
  go_wp2_with fail
  refine Calls.mono H.out ?_
  rintro e w1 ⟨rfl, r⟩
  have R : Hid _ := r
  clear r
  go_wp2_with fail
  go_end0
  exact ⟨rfl, R.out⟩

/-- A span. -/
structure Sp where
  lo : Tx
  hi : Tx
  op : Bool
def Sp.cells (o : Sp) : List Value := [o.lo.val, o.hi.val, .bool o.op]
def Sp.bytes (o : Sp) : List Int := [if o.op then 1 else 0] ++ o.lo.bytes ++ (if o.op then [] else o.hi.bytes)
structure SpIn (w : World) (Av : Nat → Prop) (o : Sp) : Prop where
  lo : TxIn w Av o.lo
  hi : TxIn w Av o.hi
theorem SpIn.kept {w w' : World} {Av : Nat → Prop} {o : Sp} (h : SpIn w Av o) {S : Nat → Prop} (c : Chg S w w') (hS : ∀ g, Av g → ¬ S g) : SpIn w' Av o := ⟨h.lo.kept c hS, h.hi.kept c hS⟩
theorem SpIn.mono {w : World} {Av Av' : Nat → Prop} {o : Sp} (h : SpIn w Av o) (hA : ∀ g, Av g → Av' g) : SpIn w Av' o := ⟨h.lo.mono hA, h.hi.mono hA⟩

set_option maxRecDepth 100000 in
set_option maxHeartbeats 8000000 in
theorem wSpan_any {w0 w : World} {Av : Nat → Prop} {p : Nat} {t : TypeId} {l : List Int} (h : WB w0 w Av p t l) {o : Sp} (hO : SpIn w0 Av o) (hl : l.length + o.bytes.length + 20 ≤ 140737488355328) :
    Calls Try.prog 153 #[.pointer (some ⟨p, 0, none⟩), .agg o.cells.toArray] w fun e w' => e = .returned (.tuple #[]) ∧ WB w0 w' Av p t (l ++ o.bytes) := by
  obtain ⟨X, hX⟩ : ∃ X, X = w.heap.size := ⟨_, rfl⟩
  obtain ⟨W, hW⟩ : ∃ W, W = w.alloc (.cells o.cells.toArray 89) := ⟨_, rfl⟩
  have cW : Chg (fun _ => False) w W := by rw [hW]; exact (Chg.refl _ _).alloc _
  have b0 : Blk W X o.cells 89 := by rw [hW, hX]; exact Blk.made _ _ _
  have h0 : WB W W (AvX Av X) p t l := by rw [hX]; exact h.box cW (by rw [hW]; simp)
  have H : Hid _ := h
  have CW : Hid _ := cW
  have B0 : Hid _ := b0
  have H0 : Hid _ := h0
  have OI : Hid (SpIn W Av o) := (hO.kept h.ch (fun g ha e => e ha)).kept cW (fun _ _ e => e)
  have PX : p ≠ X := by have := h.pw; omega
  have T1 := o.lo.bytes_le hO.lo.le
  have T2 := o.hi.bytes_le hO.hi.le
  have LB : o.bytes.length = 1 + o.lo.bytes.length + (if o.op then ([] : List Int) else o.hi.bytes).length := by simp [Sp.bytes]; omega
  have kb : W.cell? ⟨X, 2, none⟩ = some (.bool o.op) := b0.cell 2
  clear h cW b0 h0 hO
  go_enter Try.func153, Try.ntmps153
  go_upto_region 1 with fail
  rw [← hX, ← hW]
  clear hX hW
  go_wp2_with fail
  refine Calls.mono (H0.out.go (fun cs v s hv => wFlag_any s o.op (by omega))) ?_
  rintro e w1 ⟨rfl, h1⟩
  have H1 : Hid _ := h1
  clear h1 kb
  go_upto_region 2 with fail
  refine wp_region_held_drew (S := fun w' => Blk w' X o.cells 89) (by kernel_rfl) (Blk.drew (H1.out.blk B0.out (.inr rfl))) (fun hH => ?_)
  refine wpAnyH_take (i := 0) (v := .pointer (some ⟨p, 0, none⟩)) rfl (by kernel_rfl) (by kernel_rfl) (by kernel_rfl) (fun _ _ _ h => h) (Or.inl ⟨by rfl, fun w' _ => by go_simp⟩) hH ?_
  refine wpAnyH_take (i := 1) (v := .pointer (some ⟨p, 0, none⟩)) rfl (by kernel_rfl) (by kernel_rfl) (by kernel_rfl) (fun _ _ _ h => h) (Or.inl ⟨by rfl, fun w' _ => by go_simp⟩) hH ?_
  refine wpAnyH_take (i := 2) (v := .pointer (some ⟨p, 0, none⟩)) rfl (by kernel_rfl) (by kernel_rfl) (by kernel_rfl) (fun _ _ _ h => h) (Or.inl ⟨by rfl, fun w' _ => by go_simp⟩) hH ?_
  refine wpAnyH_take (i := 3) (v := .pointer (some ⟨X, 0, none⟩)) rfl (by kernel_rfl) (by kernel_rfl) (by kernel_rfl) (fun _ _ _ h => h) (Or.inl ⟨by rfl, fun w' _ => by go_simp⟩) hH ?_
  refine wpAnyH_take (i := 4) (v := o.lo.val) rfl (by kernel_rfl) (by kernel_rfl) (by kernel_rfl) (fun _ _ _ h => h) (Or.inl ⟨by rfl, fun w' hw' => by have h2 : w'.cell? ⟨X, 0, none⟩ = some (o.lo.val) := Blk.cell hw' 0; go_simp⟩) hH ?_
  refine wpAnyH_ready (rs := [5]) (by kernel_rfl) (by simp) ?_
  refine AllReadyH.cons rfl (fun K hK => ?_) AllReadyH.nil
  go_simp
  refine Calls.mono ((H1.out.drew).go (fun cs v s hv => wTextE_any s (H1.out.drew.src OI.out.lo.s (fun q hq => (OI.out.lo.av q hq).imp .inl id)) (fun q hq => (OI.out.lo.av q hq).imp (fun ha => ⟨fun e => H0.out.np (by rw [← e]; exact .inl ha), fun e => hv q e.symm (.inl ha)⟩) id) (by simp; omega))) ?_
  rintro e w9 ⟨rfl, h9⟩
  refine hK.out _ _ (h9.blk B0.out (.inr rfl)) (fun _ => ?_)
  clear hK K hH
  refine wpAnyH_done (by kernel_rfl) ?_ _
  have H2 : Hid _ := h9
  clear h9
  obtain ⟨w2, hw2⟩ : ∃ w2, w2 = w9 := ⟨_, rfl⟩
  rw [← hw2] at H2 ⊢
  clear hw2
  have kb : w2.cell? ⟨X, 2, none⟩ = some (.bool o.op) := (H2.out.blk B0.out (.inr rfl)).cell 2
  by_cases hb : o.op = true
  · have BD : Hid (o.bytes = [if o.op then 1 else 0] ++ o.lo.bytes) := by show _ = _; simp [Sp.bytes, hb]
    rw [hb] at kb
    have F : Hid (WB w0 w2 Av p t (l ++ o.bytes)) := by
      have h9 := H.out.leave CW.out H2.out
      have e : l ++ o.bytes = l ++ [if o.op then 1 else 0] ++ (numB o.lo.l.length ++ o.lo.l) := by rw [BD.out, Tx.bytes]; simp
      rw [e]
      exact h9
    go_wp2_with fail
    go_end0
    exact ⟨rfl, F.out⟩
  · have hb2 : o.op = false := by cases h9 : o.op <;> simp_all
    have BD : Hid (o.bytes = [if o.op then 1 else 0] ++ o.lo.bytes ++ o.hi.bytes) := by show _ = _; simp [Sp.bytes, hb2]
    have LC : (if o.op then ([] : List Int) else o.hi.bytes).length = o.hi.bytes.length := by rw [if_neg (c := o.op = true) hb]
    rw [hb2] at kb
    clear hb hb2
    go_upto_region 4 with fail
    refine wp_region_held_drew (S := fun w' => Blk w' X o.cells 89) (by kernel_rfl) (Blk.drew (H2.out.blk B0.out (.inr rfl))) (fun hH => ?_)
    refine wpAnyH_take (i := 0) (v := .pointer (some ⟨p, 0, none⟩)) rfl (by kernel_rfl) (by kernel_rfl) (by kernel_rfl) (fun _ _ _ h => h) (Or.inl ⟨by rfl, fun w' _ => by go_simp⟩) hH ?_
    refine wpAnyH_take (i := 1) (v := .pointer (some ⟨p, 0, none⟩)) rfl (by kernel_rfl) (by kernel_rfl) (by kernel_rfl) (fun _ _ _ h => h) (Or.inl ⟨by rfl, fun w' _ => by go_simp⟩) hH ?_
    refine wpAnyH_take (i := 2) (v := .pointer (some ⟨p, 0, none⟩)) rfl (by kernel_rfl) (by kernel_rfl) (by kernel_rfl) (fun _ _ _ h => h) (Or.inl ⟨by rfl, fun w' _ => by go_simp⟩) hH ?_
    refine wpAnyH_take (i := 3) (v := .pointer (some ⟨X, 1, none⟩)) rfl (by kernel_rfl) (by kernel_rfl) (by kernel_rfl) (fun _ _ _ h => h) (Or.inl ⟨by rfl, fun w' _ => by go_simp⟩) hH ?_
    refine wpAnyH_take (i := 4) (v := o.hi.val) rfl (by kernel_rfl) (by kernel_rfl) (by kernel_rfl) (fun _ _ _ h => h) (Or.inl ⟨by rfl, fun w' hw' => by have h2 : w'.cell? ⟨X, 1, none⟩ = some (o.hi.val) := Blk.cell hw' 1; go_simp⟩) hH ?_
    refine wpAnyH_ready (rs := [5]) (by kernel_rfl) (by simp) ?_
    refine AllReadyH.cons rfl (fun K hK => ?_) AllReadyH.nil
    go_simp
    refine Calls.mono ((H2.out.drew).go (fun cs v s hv => wTextE_any s (H2.out.drew.src OI.out.hi.s (fun q hq => (OI.out.hi.av q hq).imp .inl id)) (fun q hq => (OI.out.hi.av q hq).imp (fun ha => ⟨fun e => H0.out.np (by rw [← e]; exact .inl ha), fun e => hv q e.symm (.inl ha)⟩) id) (by simp [← Nat.add_assoc]; simp [Tx.bytes] at LB LC T1 T2; omega))) ?_
    rintro e w9 ⟨rfl, h9⟩
    refine hK.out _ _ (h9.blk B0.out (.inr rfl)) (fun _ => ?_)
    clear hK K hH
    refine wpAnyH_done (by kernel_rfl) ?_ _
    have H3 : Hid _ := h9
    clear h9
    have F : Hid (WB w0 w9 Av p t (l ++ o.bytes)) := by
      have h9 := H.out.leave CW.out H3.out
      have e : l ++ o.bytes = l ++ [if o.op then 1 else 0] ++ (numB o.lo.l.length ++ o.lo.l) ++ (numB o.hi.l.length ++ o.hi.l) := by rw [BD.out, Tx.bytes, Tx.bytes]; simp
      rw [e]
      exact h9
    go_wp2_with fail
    go_end0
    exact ⟨rfl, F.out⟩

/-- A change. -/
structure Cg where
  ky : Tx
  had : Bool
  od : Tx
  has : Bool
  nw : Tx
def Cg.cells (o : Cg) : List Value := [o.ky.val, .bool o.had, o.od.val, .bool o.has, o.nw.val]
def Cg.bytes (o : Cg) : List Int := [(if o.had then 1 else 0) + (if o.has then 2 else 0)] ++ o.ky.bytes ++ (if o.had then o.od.bytes else []) ++ (if o.has then o.nw.bytes else [])
theorem Cg.one (o : Cg) : ∀ u ∈ o.cells, u.oneCell' = true := chC_one rfl rfl rfl _ _
theorem Try.cgSz (o : Cg) : (Try.prog.info? 112).map (·.size) = some o.cells.length := Try.size215
structure CgIn (w : World) (Av : Nat → Prop) (o : Cg) : Prop where
  ky : TxIn w Av o.ky
  od : TxIn w Av o.od
  nw : TxIn w Av o.nw
theorem CgIn.kept {w w' : World} {Av : Nat → Prop} {o : Cg} (h : CgIn w Av o) {S : Nat → Prop} (c : Chg S w w') (hS : ∀ g, Av g → ¬ S g) : CgIn w' Av o := ⟨h.ky.kept c hS, h.od.kept c hS, h.nw.kept c hS⟩
theorem CgIn.mono {w : World} {Av Av' : Nat → Prop} {o : Cg} (h : CgIn w Av o) (hA : ∀ g, Av g → Av' g) : CgIn w Av' o := ⟨h.ky.mono hA, h.od.mono hA, h.nw.mono hA⟩

set_option maxRecDepth 100000 in
set_option maxHeartbeats 16000000 in
theorem wChange_any {w0 w : World} {Av : Nat → Prop} {p : Nat} {t : TypeId} {l : List Int} (h : WB w0 w Av p t l) {o : Cg} (hO : CgIn w0 Av o) (hl : l.length + o.bytes.length + 20 ≤ 140737488355328) :
    Calls Try.prog 156 #[.pointer (some ⟨p, 0, none⟩), .agg o.cells.toArray] w fun e w' => e = .returned (.tuple #[]) ∧ WB w0 w' Av p t (l ++ o.bytes) := by
  obtain ⟨X, hX⟩ : ∃ X, X = w.heap.size := ⟨_, rfl⟩
  obtain ⟨W, hW⟩ : ∃ W, W = w.alloc (.cells o.cells.toArray 112) := ⟨_, rfl⟩
  have cW : Chg (fun _ => False) w W := by rw [hW]; exact (Chg.refl _ _).alloc _
  have b0 : Blk W X o.cells 112 := by rw [hW, hX]; exact Blk.made _ _ _
  have h0 : WB W W (AvX Av X) p t l := by rw [hX]; exact h.box cW (by rw [hW]; simp)
  have H : Hid _ := h
  have CW : Hid _ := cW
  have B0 : Hid _ := b0
  have H0 : Hid _ := h0
  have OI : Hid (CgIn W Av o) := (hO.kept h.ch (fun g ha e => e ha)).kept cW (fun _ _ e => e)
  have PX : p ≠ X := by have := h.pw; omega
  have T1 := o.ky.bytes_le hO.ky.le
  have T2 := o.od.bytes_le hO.od.le
  have T3 := o.nw.bytes_le hO.nw.le
  have k1 : W.cell? ⟨X, 1, none⟩ = some (.bool o.had) := b0.cell 1
  have k3 : W.cell? ⟨X, 3, none⟩ = some (.bool o.has) := b0.cell 3
  clear h cW b0 h0 hO
  cases g1 : o.had with
  | true =>
    cases g3 : o.has with
    | true =>
      have BD : Hid (o.bytes = [3] ++ o.ky.bytes ++ o.od.bytes ++ o.nw.bytes) := by show _ = _; simp [Cg.bytes, g1, g3]
      have LB : l.length + 1 + o.ky.bytes.length + o.od.bytes.length + o.nw.bytes.length + 20 ≤ 140737488355328 := by have h9 := hl; rw [BD.out] at h9; simp at h9; omega
      have G1 : Hid _ := g1
      have G3 : Hid _ := g3
      rw [g1] at k1
      rw [g3] at k3
      clear g1 g3 hl
      go_enter Try.func156, Try.ntmps156
      go_upto_region 1 with fail
      rw [← hX, ← hW]
      clear hX hW
      go_wp2_with fail
      refine Calls.mono (H0.out.go (fun cs v s hv => wByte_any s 3 (by omega))) ?_
      rintro e w1 ⟨rfl, h1⟩
      have H1 : Hid _ := h1
      clear h1 k1 k3
      go_upto_region 7 with fail
      refine wp_region_held_drew (S := fun w' => Blk w' X o.cells 112) (by kernel_rfl) (Blk.drew (H1.out.blk B0.out (.inr rfl))) (fun hH => ?_)
      refine wpAnyH_take (i := 0) (v := .pointer (some ⟨p, 0, none⟩)) rfl (by kernel_rfl) (by kernel_rfl) (by kernel_rfl) (fun _ _ _ h => h) (Or.inl ⟨by rfl, fun w' _ => by go_simp⟩) hH ?_
      refine wpAnyH_take (i := 1) (v := .pointer (some ⟨p, 0, none⟩)) rfl (by kernel_rfl) (by kernel_rfl) (by kernel_rfl) (fun _ _ _ h => h) (Or.inl ⟨by rfl, fun w' _ => by go_simp⟩) hH ?_
      refine wpAnyH_take (i := 2) (v := .pointer (some ⟨p, 0, none⟩)) rfl (by kernel_rfl) (by kernel_rfl) (by kernel_rfl) (fun _ _ _ h => h) (Or.inl ⟨by rfl, fun w' _ => by go_simp⟩) hH ?_
      refine wpAnyH_take (i := 3) (v := .pointer (some ⟨X, 0, none⟩)) rfl (by kernel_rfl) (by kernel_rfl) (by kernel_rfl) (fun _ _ _ h => h) (Or.inl ⟨by rfl, fun w' _ => by go_simp⟩) hH ?_
      refine wpAnyH_take (i := 4) (v := o.ky.val) rfl (by kernel_rfl) (by kernel_rfl) (by kernel_rfl) (fun _ _ _ h => h) (Or.inl ⟨by rfl, fun w' hw' => by have h2 : w'.cell? ⟨X, 0, none⟩ = some (o.ky.val) := Blk.cell hw' 0; go_simp⟩) hH ?_
      refine wpAnyH_ready (rs := [5]) (by kernel_rfl) (by simp) ?_
      refine AllReadyH.cons rfl (fun K hK => ?_) AllReadyH.nil
      go_simp
      refine Calls.mono ((H1.out.drew).go (fun cs v s hv => wTextE_any s (H1.out.drew.src OI.out.ky.s (fun q hq => (OI.out.ky.av q hq).imp .inl id)) (fun q hq => (OI.out.ky.av q hq).imp (fun ha => ⟨fun e => H0.out.np (by rw [← e]; exact .inl ha), fun e => hv q e.symm (.inl ha)⟩) id) (by simp; simp [Tx.bytes] at LB T1 T2 T3; omega))) ?_
      rintro e w9 ⟨rfl, h9⟩
      refine hK.out _ _ (h9.blk B0.out (.inr rfl)) (fun _ => ?_)
      clear hK K hH
      refine wpAnyH_done (by kernel_rfl) ?_ _
      have H2 : Hid _ := h9
      clear h9
      obtain ⟨w2, hw2⟩ : ∃ w2, w2 = w9 := ⟨_, rfl⟩
      rw [← hw2] at H2 ⊢
      clear hw2
      have k1 : w2.cell? ⟨X, 1, none⟩ = some (.bool true) := by rw [← G1.out]; exact (H2.out.blk B0.out (.inr rfl)).cell 1
      go_upto_region 9 with fail
      refine wp_region_held_drew (S := fun w' => Blk w' X o.cells 112) (by kernel_rfl) (Blk.drew (H2.out.blk B0.out (.inr rfl))) (fun hH => ?_)
      refine wpAnyH_take (i := 0) (v := .pointer (some ⟨p, 0, none⟩)) rfl (by kernel_rfl) (by kernel_rfl) (by kernel_rfl) (fun _ _ _ h => h) (Or.inl ⟨by rfl, fun w' _ => by go_simp⟩) hH ?_
      refine wpAnyH_take (i := 1) (v := .pointer (some ⟨p, 0, none⟩)) rfl (by kernel_rfl) (by kernel_rfl) (by kernel_rfl) (fun _ _ _ h => h) (Or.inl ⟨by rfl, fun w' _ => by go_simp⟩) hH ?_
      refine wpAnyH_take (i := 2) (v := .pointer (some ⟨p, 0, none⟩)) rfl (by kernel_rfl) (by kernel_rfl) (by kernel_rfl) (fun _ _ _ h => h) (Or.inl ⟨by rfl, fun w' _ => by go_simp⟩) hH ?_
      refine wpAnyH_take (i := 3) (v := .pointer (some ⟨X, 2, none⟩)) rfl (by kernel_rfl) (by kernel_rfl) (by kernel_rfl) (fun _ _ _ h => h) (Or.inl ⟨by rfl, fun w' _ => by go_simp⟩) hH ?_
      refine wpAnyH_take (i := 4) (v := o.od.val) rfl (by kernel_rfl) (by kernel_rfl) (by kernel_rfl) (fun _ _ _ h => h) (Or.inl ⟨by rfl, fun w' hw' => by have h2 : w'.cell? ⟨X, 2, none⟩ = some (o.od.val) := Blk.cell hw' 2; go_simp⟩) hH ?_
      refine wpAnyH_ready (rs := [5]) (by kernel_rfl) (by simp) ?_
      refine AllReadyH.cons rfl (fun K hK => ?_) AllReadyH.nil
      go_simp
      refine Calls.mono ((H2.out.drew).go (fun cs v s hv => wTextE_any s (H2.out.drew.src OI.out.od.s (fun q hq => (OI.out.od.av q hq).imp .inl id)) (fun q hq => (OI.out.od.av q hq).imp (fun ha => ⟨fun e => H0.out.np (by rw [← e]; exact .inl ha), fun e => hv q e.symm (.inl ha)⟩) id) (by simp; simp [Tx.bytes] at LB T1 T2 T3; omega))) ?_
      rintro e w9 ⟨rfl, h9⟩
      refine hK.out _ _ (h9.blk B0.out (.inr rfl)) (fun _ => ?_)
      clear hK K hH
      refine wpAnyH_done (by kernel_rfl) ?_ _
      have H3 : Hid _ := h9
      clear h9
      obtain ⟨w3, hw3⟩ : ∃ w3, w3 = w9 := ⟨_, rfl⟩
      rw [← hw3] at H3 ⊢
      clear hw3
      clear k1
      have k3 : w3.cell? ⟨X, 3, none⟩ = some (.bool true) := by rw [← G3.out]; exact (H3.out.blk B0.out (.inr rfl)).cell 3
      go_upto_region 11 with fail
      refine wp_region_held_drew (S := fun w' => Blk w' X o.cells 112) (by kernel_rfl) (Blk.drew (H3.out.blk B0.out (.inr rfl))) (fun hH => ?_)
      refine wpAnyH_take (i := 0) (v := .pointer (some ⟨p, 0, none⟩)) rfl (by kernel_rfl) (by kernel_rfl) (by kernel_rfl) (fun _ _ _ h => h) (Or.inl ⟨by rfl, fun w' _ => by go_simp⟩) hH ?_
      refine wpAnyH_take (i := 1) (v := .pointer (some ⟨p, 0, none⟩)) rfl (by kernel_rfl) (by kernel_rfl) (by kernel_rfl) (fun _ _ _ h => h) (Or.inl ⟨by rfl, fun w' _ => by go_simp⟩) hH ?_
      refine wpAnyH_take (i := 2) (v := .pointer (some ⟨p, 0, none⟩)) rfl (by kernel_rfl) (by kernel_rfl) (by kernel_rfl) (fun _ _ _ h => h) (Or.inl ⟨by rfl, fun w' _ => by go_simp⟩) hH ?_
      refine wpAnyH_take (i := 3) (v := .pointer (some ⟨X, 4, none⟩)) rfl (by kernel_rfl) (by kernel_rfl) (by kernel_rfl) (fun _ _ _ h => h) (Or.inl ⟨by rfl, fun w' _ => by go_simp⟩) hH ?_
      refine wpAnyH_take (i := 4) (v := o.nw.val) rfl (by kernel_rfl) (by kernel_rfl) (by kernel_rfl) (fun _ _ _ h => h) (Or.inl ⟨by rfl, fun w' hw' => by have h2 : w'.cell? ⟨X, 4, none⟩ = some (o.nw.val) := Blk.cell hw' 4; go_simp⟩) hH ?_
      refine wpAnyH_ready (rs := [5]) (by kernel_rfl) (by simp) ?_
      refine AllReadyH.cons rfl (fun K hK => ?_) AllReadyH.nil
      go_simp
      refine Calls.mono ((H3.out.drew).go (fun cs v s hv => wTextE_any s (H3.out.drew.src OI.out.nw.s (fun q hq => (OI.out.nw.av q hq).imp .inl id)) (fun q hq => (OI.out.nw.av q hq).imp (fun ha => ⟨fun e => H0.out.np (by rw [← e]; exact .inl ha), fun e => hv q e.symm (.inl ha)⟩) id) (by simp; simp [Tx.bytes] at LB T1 T2 T3; omega))) ?_
      rintro e w9 ⟨rfl, h9⟩
      refine hK.out _ _ (h9.blk B0.out (.inr rfl)) (fun _ => ?_)
      clear hK K hH
      refine wpAnyH_done (by kernel_rfl) ?_ _
      have H4 : Hid _ := h9
      clear h9
      obtain ⟨w4, hw4⟩ : ∃ w4, w4 = w9 := ⟨_, rfl⟩
      rw [← hw4] at H4 ⊢
      clear hw4
      have F : Hid (WB w0 w4 Av p t (l ++ o.bytes)) := by
        have h9 := H.out.leave CW.out H4.out
        have e : l ++ o.bytes = l ++ [3] ++ (numB o.ky.l.length ++ o.ky.l) ++ (numB o.od.l.length ++ o.od.l) ++ (numB o.nw.l.length ++ o.nw.l) := by rw [BD.out]; simp [Tx.bytes]
        rw [e]
        exact h9
      go_wp2_with fail
      go_end0
      exact ⟨rfl, F.out⟩
    | false =>
      have BD : Hid (o.bytes = [1] ++ o.ky.bytes ++ o.od.bytes) := by show _ = _; simp [Cg.bytes, g1, g3]
      have LB : l.length + 1 + o.ky.bytes.length + o.od.bytes.length + 20 ≤ 140737488355328 := by have h9 := hl; rw [BD.out] at h9; simp at h9; omega
      have G1 : Hid _ := g1
      have G3 : Hid _ := g3
      rw [g1] at k1
      rw [g3] at k3
      clear g1 g3 hl
      go_enter Try.func156, Try.ntmps156
      go_upto_region 1 with fail
      rw [← hX, ← hW]
      clear hX hW
      go_wp2_with fail
      refine Calls.mono (H0.out.go (fun cs v s hv => wByte_any s 1 (by omega))) ?_
      rintro e w1 ⟨rfl, h1⟩
      have H1 : Hid _ := h1
      clear h1 k1 k3
      go_upto_region 7 with fail
      refine wp_region_held_drew (S := fun w' => Blk w' X o.cells 112) (by kernel_rfl) (Blk.drew (H1.out.blk B0.out (.inr rfl))) (fun hH => ?_)
      refine wpAnyH_take (i := 0) (v := .pointer (some ⟨p, 0, none⟩)) rfl (by kernel_rfl) (by kernel_rfl) (by kernel_rfl) (fun _ _ _ h => h) (Or.inl ⟨by rfl, fun w' _ => by go_simp⟩) hH ?_
      refine wpAnyH_take (i := 1) (v := .pointer (some ⟨p, 0, none⟩)) rfl (by kernel_rfl) (by kernel_rfl) (by kernel_rfl) (fun _ _ _ h => h) (Or.inl ⟨by rfl, fun w' _ => by go_simp⟩) hH ?_
      refine wpAnyH_take (i := 2) (v := .pointer (some ⟨p, 0, none⟩)) rfl (by kernel_rfl) (by kernel_rfl) (by kernel_rfl) (fun _ _ _ h => h) (Or.inl ⟨by rfl, fun w' _ => by go_simp⟩) hH ?_
      refine wpAnyH_take (i := 3) (v := .pointer (some ⟨X, 0, none⟩)) rfl (by kernel_rfl) (by kernel_rfl) (by kernel_rfl) (fun _ _ _ h => h) (Or.inl ⟨by rfl, fun w' _ => by go_simp⟩) hH ?_
      refine wpAnyH_take (i := 4) (v := o.ky.val) rfl (by kernel_rfl) (by kernel_rfl) (by kernel_rfl) (fun _ _ _ h => h) (Or.inl ⟨by rfl, fun w' hw' => by have h2 : w'.cell? ⟨X, 0, none⟩ = some (o.ky.val) := Blk.cell hw' 0; go_simp⟩) hH ?_
      refine wpAnyH_ready (rs := [5]) (by kernel_rfl) (by simp) ?_
      refine AllReadyH.cons rfl (fun K hK => ?_) AllReadyH.nil
      go_simp
      refine Calls.mono ((H1.out.drew).go (fun cs v s hv => wTextE_any s (H1.out.drew.src OI.out.ky.s (fun q hq => (OI.out.ky.av q hq).imp .inl id)) (fun q hq => (OI.out.ky.av q hq).imp (fun ha => ⟨fun e => H0.out.np (by rw [← e]; exact .inl ha), fun e => hv q e.symm (.inl ha)⟩) id) (by simp; simp [Tx.bytes] at LB T1 T2 T3; omega))) ?_
      rintro e w9 ⟨rfl, h9⟩
      refine hK.out _ _ (h9.blk B0.out (.inr rfl)) (fun _ => ?_)
      clear hK K hH
      refine wpAnyH_done (by kernel_rfl) ?_ _
      have H2 : Hid _ := h9
      clear h9
      obtain ⟨w2, hw2⟩ : ∃ w2, w2 = w9 := ⟨_, rfl⟩
      rw [← hw2] at H2 ⊢
      clear hw2
      have k1 : w2.cell? ⟨X, 1, none⟩ = some (.bool true) := by rw [← G1.out]; exact (H2.out.blk B0.out (.inr rfl)).cell 1
      go_upto_region 9 with fail
      refine wp_region_held_drew (S := fun w' => Blk w' X o.cells 112) (by kernel_rfl) (Blk.drew (H2.out.blk B0.out (.inr rfl))) (fun hH => ?_)
      refine wpAnyH_take (i := 0) (v := .pointer (some ⟨p, 0, none⟩)) rfl (by kernel_rfl) (by kernel_rfl) (by kernel_rfl) (fun _ _ _ h => h) (Or.inl ⟨by rfl, fun w' _ => by go_simp⟩) hH ?_
      refine wpAnyH_take (i := 1) (v := .pointer (some ⟨p, 0, none⟩)) rfl (by kernel_rfl) (by kernel_rfl) (by kernel_rfl) (fun _ _ _ h => h) (Or.inl ⟨by rfl, fun w' _ => by go_simp⟩) hH ?_
      refine wpAnyH_take (i := 2) (v := .pointer (some ⟨p, 0, none⟩)) rfl (by kernel_rfl) (by kernel_rfl) (by kernel_rfl) (fun _ _ _ h => h) (Or.inl ⟨by rfl, fun w' _ => by go_simp⟩) hH ?_
      refine wpAnyH_take (i := 3) (v := .pointer (some ⟨X, 2, none⟩)) rfl (by kernel_rfl) (by kernel_rfl) (by kernel_rfl) (fun _ _ _ h => h) (Or.inl ⟨by rfl, fun w' _ => by go_simp⟩) hH ?_
      refine wpAnyH_take (i := 4) (v := o.od.val) rfl (by kernel_rfl) (by kernel_rfl) (by kernel_rfl) (fun _ _ _ h => h) (Or.inl ⟨by rfl, fun w' hw' => by have h2 : w'.cell? ⟨X, 2, none⟩ = some (o.od.val) := Blk.cell hw' 2; go_simp⟩) hH ?_
      refine wpAnyH_ready (rs := [5]) (by kernel_rfl) (by simp) ?_
      refine AllReadyH.cons rfl (fun K hK => ?_) AllReadyH.nil
      go_simp
      refine Calls.mono ((H2.out.drew).go (fun cs v s hv => wTextE_any s (H2.out.drew.src OI.out.od.s (fun q hq => (OI.out.od.av q hq).imp .inl id)) (fun q hq => (OI.out.od.av q hq).imp (fun ha => ⟨fun e => H0.out.np (by rw [← e]; exact .inl ha), fun e => hv q e.symm (.inl ha)⟩) id) (by simp; simp [Tx.bytes] at LB T1 T2 T3; omega))) ?_
      rintro e w9 ⟨rfl, h9⟩
      refine hK.out _ _ (h9.blk B0.out (.inr rfl)) (fun _ => ?_)
      clear hK K hH
      refine wpAnyH_done (by kernel_rfl) ?_ _
      have H3 : Hid _ := h9
      clear h9
      obtain ⟨w3, hw3⟩ : ∃ w3, w3 = w9 := ⟨_, rfl⟩
      rw [← hw3] at H3 ⊢
      clear hw3
      clear k1
      have k3 : w3.cell? ⟨X, 3, none⟩ = some (.bool false) := by rw [← G3.out]; exact (H3.out.blk B0.out (.inr rfl)).cell 3
      have F : Hid (WB w0 w3 Av p t (l ++ o.bytes)) := by
        have h9 := H.out.leave CW.out H3.out
        have e : l ++ o.bytes = l ++ [1] ++ (numB o.ky.l.length ++ o.ky.l) ++ (numB o.od.l.length ++ o.od.l) := by rw [BD.out]; simp [Tx.bytes]
        rw [e]
        exact h9
      go_wp2_with fail
      go_end0
      exact ⟨rfl, F.out⟩
  | false =>
    cases g3 : o.has with
    | true =>
      have BD : Hid (o.bytes = [2] ++ o.ky.bytes ++ o.nw.bytes) := by show _ = _; simp [Cg.bytes, g1, g3]
      have LB : l.length + 1 + o.ky.bytes.length + o.nw.bytes.length + 20 ≤ 140737488355328 := by have h9 := hl; rw [BD.out] at h9; simp at h9; omega
      have G1 : Hid _ := g1
      have G3 : Hid _ := g3
      rw [g1] at k1
      rw [g3] at k3
      clear g1 g3 hl
      go_enter Try.func156, Try.ntmps156
      go_upto_region 1 with fail
      rw [← hX, ← hW]
      clear hX hW
      go_wp2_with fail
      refine Calls.mono (H0.out.go (fun cs v s hv => wByte_any s 2 (by omega))) ?_
      rintro e w1 ⟨rfl, h1⟩
      have H1 : Hid _ := h1
      clear h1 k1 k3
      go_upto_region 7 with fail
      refine wp_region_held_drew (S := fun w' => Blk w' X o.cells 112) (by kernel_rfl) (Blk.drew (H1.out.blk B0.out (.inr rfl))) (fun hH => ?_)
      refine wpAnyH_take (i := 0) (v := .pointer (some ⟨p, 0, none⟩)) rfl (by kernel_rfl) (by kernel_rfl) (by kernel_rfl) (fun _ _ _ h => h) (Or.inl ⟨by rfl, fun w' _ => by go_simp⟩) hH ?_
      refine wpAnyH_take (i := 1) (v := .pointer (some ⟨p, 0, none⟩)) rfl (by kernel_rfl) (by kernel_rfl) (by kernel_rfl) (fun _ _ _ h => h) (Or.inl ⟨by rfl, fun w' _ => by go_simp⟩) hH ?_
      refine wpAnyH_take (i := 2) (v := .pointer (some ⟨p, 0, none⟩)) rfl (by kernel_rfl) (by kernel_rfl) (by kernel_rfl) (fun _ _ _ h => h) (Or.inl ⟨by rfl, fun w' _ => by go_simp⟩) hH ?_
      refine wpAnyH_take (i := 3) (v := .pointer (some ⟨X, 0, none⟩)) rfl (by kernel_rfl) (by kernel_rfl) (by kernel_rfl) (fun _ _ _ h => h) (Or.inl ⟨by rfl, fun w' _ => by go_simp⟩) hH ?_
      refine wpAnyH_take (i := 4) (v := o.ky.val) rfl (by kernel_rfl) (by kernel_rfl) (by kernel_rfl) (fun _ _ _ h => h) (Or.inl ⟨by rfl, fun w' hw' => by have h2 : w'.cell? ⟨X, 0, none⟩ = some (o.ky.val) := Blk.cell hw' 0; go_simp⟩) hH ?_
      refine wpAnyH_ready (rs := [5]) (by kernel_rfl) (by simp) ?_
      refine AllReadyH.cons rfl (fun K hK => ?_) AllReadyH.nil
      go_simp
      refine Calls.mono ((H1.out.drew).go (fun cs v s hv => wTextE_any s (H1.out.drew.src OI.out.ky.s (fun q hq => (OI.out.ky.av q hq).imp .inl id)) (fun q hq => (OI.out.ky.av q hq).imp (fun ha => ⟨fun e => H0.out.np (by rw [← e]; exact .inl ha), fun e => hv q e.symm (.inl ha)⟩) id) (by simp; simp [Tx.bytes] at LB T1 T2 T3; omega))) ?_
      rintro e w9 ⟨rfl, h9⟩
      refine hK.out _ _ (h9.blk B0.out (.inr rfl)) (fun _ => ?_)
      clear hK K hH
      refine wpAnyH_done (by kernel_rfl) ?_ _
      have H2 : Hid _ := h9
      clear h9
      obtain ⟨w2, hw2⟩ : ∃ w2, w2 = w9 := ⟨_, rfl⟩
      rw [← hw2] at H2 ⊢
      clear hw2
      have k1 : w2.cell? ⟨X, 1, none⟩ = some (.bool false) := by rw [← G1.out]; exact (H2.out.blk B0.out (.inr rfl)).cell 1
      have k3 : w2.cell? ⟨X, 3, none⟩ = some (.bool true) := by rw [← G3.out]; exact (H2.out.blk B0.out (.inr rfl)).cell 3
      go_upto_region 11 with fail
      refine wp_region_held_drew (S := fun w' => Blk w' X o.cells 112) (by kernel_rfl) (Blk.drew (H2.out.blk B0.out (.inr rfl))) (fun hH => ?_)
      refine wpAnyH_take (i := 0) (v := .pointer (some ⟨p, 0, none⟩)) rfl (by kernel_rfl) (by kernel_rfl) (by kernel_rfl) (fun _ _ _ h => h) (Or.inl ⟨by rfl, fun w' _ => by go_simp⟩) hH ?_
      refine wpAnyH_take (i := 1) (v := .pointer (some ⟨p, 0, none⟩)) rfl (by kernel_rfl) (by kernel_rfl) (by kernel_rfl) (fun _ _ _ h => h) (Or.inl ⟨by rfl, fun w' _ => by go_simp⟩) hH ?_
      refine wpAnyH_take (i := 2) (v := .pointer (some ⟨p, 0, none⟩)) rfl (by kernel_rfl) (by kernel_rfl) (by kernel_rfl) (fun _ _ _ h => h) (Or.inl ⟨by rfl, fun w' _ => by go_simp⟩) hH ?_
      refine wpAnyH_take (i := 3) (v := .pointer (some ⟨X, 4, none⟩)) rfl (by kernel_rfl) (by kernel_rfl) (by kernel_rfl) (fun _ _ _ h => h) (Or.inl ⟨by rfl, fun w' _ => by go_simp⟩) hH ?_
      refine wpAnyH_take (i := 4) (v := o.nw.val) rfl (by kernel_rfl) (by kernel_rfl) (by kernel_rfl) (fun _ _ _ h => h) (Or.inl ⟨by rfl, fun w' hw' => by have h2 : w'.cell? ⟨X, 4, none⟩ = some (o.nw.val) := Blk.cell hw' 4; go_simp⟩) hH ?_
      refine wpAnyH_ready (rs := [5]) (by kernel_rfl) (by simp) ?_
      refine AllReadyH.cons rfl (fun K hK => ?_) AllReadyH.nil
      go_simp
      refine Calls.mono ((H2.out.drew).go (fun cs v s hv => wTextE_any s (H2.out.drew.src OI.out.nw.s (fun q hq => (OI.out.nw.av q hq).imp .inl id)) (fun q hq => (OI.out.nw.av q hq).imp (fun ha => ⟨fun e => H0.out.np (by rw [← e]; exact .inl ha), fun e => hv q e.symm (.inl ha)⟩) id) (by simp; simp [Tx.bytes] at LB T1 T2 T3; omega))) ?_
      rintro e w9 ⟨rfl, h9⟩
      refine hK.out _ _ (h9.blk B0.out (.inr rfl)) (fun _ => ?_)
      clear hK K hH
      refine wpAnyH_done (by kernel_rfl) ?_ _
      have H4 : Hid _ := h9
      clear h9
      obtain ⟨w4, hw4⟩ : ∃ w4, w4 = w9 := ⟨_, rfl⟩
      rw [← hw4] at H4 ⊢
      clear hw4
      have F : Hid (WB w0 w4 Av p t (l ++ o.bytes)) := by
        have h9 := H.out.leave CW.out H4.out
        have e : l ++ o.bytes = l ++ [2] ++ (numB o.ky.l.length ++ o.ky.l) ++ (numB o.nw.l.length ++ o.nw.l) := by rw [BD.out]; simp [Tx.bytes]
        rw [e]
        exact h9
      go_wp2_with fail
      go_end0
      exact ⟨rfl, F.out⟩
    | false =>
      have BD : Hid (o.bytes = [0] ++ o.ky.bytes) := by show _ = _; simp [Cg.bytes, g1, g3]
      have LB : l.length + 1 + o.ky.bytes.length + 20 ≤ 140737488355328 := by have h9 := hl; rw [BD.out] at h9; simp at h9; omega
      have G1 : Hid _ := g1
      have G3 : Hid _ := g3
      rw [g1] at k1
      rw [g3] at k3
      clear g1 g3 hl
      go_enter Try.func156, Try.ntmps156
      go_upto_region 1 with fail
      rw [← hX, ← hW]
      clear hX hW
      go_wp2_with fail
      refine Calls.mono (H0.out.go (fun cs v s hv => wByte_any s 0 (by omega))) ?_
      rintro e w1 ⟨rfl, h1⟩
      have H1 : Hid _ := h1
      clear h1 k1 k3
      go_upto_region 7 with fail
      refine wp_region_held_drew (S := fun w' => Blk w' X o.cells 112) (by kernel_rfl) (Blk.drew (H1.out.blk B0.out (.inr rfl))) (fun hH => ?_)
      refine wpAnyH_take (i := 0) (v := .pointer (some ⟨p, 0, none⟩)) rfl (by kernel_rfl) (by kernel_rfl) (by kernel_rfl) (fun _ _ _ h => h) (Or.inl ⟨by rfl, fun w' _ => by go_simp⟩) hH ?_
      refine wpAnyH_take (i := 1) (v := .pointer (some ⟨p, 0, none⟩)) rfl (by kernel_rfl) (by kernel_rfl) (by kernel_rfl) (fun _ _ _ h => h) (Or.inl ⟨by rfl, fun w' _ => by go_simp⟩) hH ?_
      refine wpAnyH_take (i := 2) (v := .pointer (some ⟨p, 0, none⟩)) rfl (by kernel_rfl) (by kernel_rfl) (by kernel_rfl) (fun _ _ _ h => h) (Or.inl ⟨by rfl, fun w' _ => by go_simp⟩) hH ?_
      refine wpAnyH_take (i := 3) (v := .pointer (some ⟨X, 0, none⟩)) rfl (by kernel_rfl) (by kernel_rfl) (by kernel_rfl) (fun _ _ _ h => h) (Or.inl ⟨by rfl, fun w' _ => by go_simp⟩) hH ?_
      refine wpAnyH_take (i := 4) (v := o.ky.val) rfl (by kernel_rfl) (by kernel_rfl) (by kernel_rfl) (fun _ _ _ h => h) (Or.inl ⟨by rfl, fun w' hw' => by have h2 : w'.cell? ⟨X, 0, none⟩ = some (o.ky.val) := Blk.cell hw' 0; go_simp⟩) hH ?_
      refine wpAnyH_ready (rs := [5]) (by kernel_rfl) (by simp) ?_
      refine AllReadyH.cons rfl (fun K hK => ?_) AllReadyH.nil
      go_simp
      refine Calls.mono ((H1.out.drew).go (fun cs v s hv => wTextE_any s (H1.out.drew.src OI.out.ky.s (fun q hq => (OI.out.ky.av q hq).imp .inl id)) (fun q hq => (OI.out.ky.av q hq).imp (fun ha => ⟨fun e => H0.out.np (by rw [← e]; exact .inl ha), fun e => hv q e.symm (.inl ha)⟩) id) (by simp; simp [Tx.bytes] at LB T1 T2 T3; omega))) ?_
      rintro e w9 ⟨rfl, h9⟩
      refine hK.out _ _ (h9.blk B0.out (.inr rfl)) (fun _ => ?_)
      clear hK K hH
      refine wpAnyH_done (by kernel_rfl) ?_ _
      have H2 : Hid _ := h9
      clear h9
      obtain ⟨w2, hw2⟩ : ∃ w2, w2 = w9 := ⟨_, rfl⟩
      rw [← hw2] at H2 ⊢
      clear hw2
      have k1 : w2.cell? ⟨X, 1, none⟩ = some (.bool false) := by rw [← G1.out]; exact (H2.out.blk B0.out (.inr rfl)).cell 1
      have k3 : w2.cell? ⟨X, 3, none⟩ = some (.bool false) := by rw [← G3.out]; exact (H2.out.blk B0.out (.inr rfl)).cell 3
      have F : Hid (WB w0 w2 Av p t (l ++ o.bytes)) := by
        have h9 := H.out.leave CW.out H2.out
        have e : l ++ o.bytes = l ++ [0] ++ (numB o.ky.l.length ++ o.ky.l) := by rw [BD.out]; simp [Tx.bytes]
        rw [e]
        exact h9
      go_wp2_with fail
      go_end0
      exact ⟨rfl, F.out⟩

end Go.Proofs.Ytjmeaebehndheaa
