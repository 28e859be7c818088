import Derived.Test.YtjmeaebehndheaaPgR
import Derived.Test.YtjmeaebehndheaaPrW
/-
  Pages: what they are in memory, their bytes.
-/
namespace Go.Proofs.Ytjmeaebehndheaa
open Go.RowKit

structure Mk where
  se : Nat
  us : Int
def Mk.cells (m : Mk) : List Value := [.int .u64 m.se, .int .i64 m.us]
def Mk.bytes (m : Mk) : List Int := numB m.se ++ numB m.us.toNat
structure Vs where
  n : Nat
  x : List Int
  c : Nat
  y : List Int
def Vs.cells (v : Vs) : List Value := vsC v.n v.x v.c v.y
def Vs.bytes (v : Vs) : List Int := numB v.n ++ v.x ++ numB v.c ++ v.y
structure Pk where
  n : Nat
  x : List Int
  y : List Int
def Pk.cells (k : Pk) : List Value := leafC k.n (k.x ++ k.y)
def Pk.bytes (k : Pk) : List Int := numB k.n ++ (k.x ++ k.y)
def recsB (f : Nat → List Int) : Nat → List Int
  | 0 => []
  | n + 1 => recsB f n ++ f n
theorem recsB_len {f : Nat → List Int} {b : Nat} : ∀ n, (∀ i, i < n → (f i).length ≤ b) → (recsB f n).length ≤ n * b
  | 0, _ => by simp [recsB]
  | n + 1, h => by
    have h1 := recsB_len n (fun i hi => h i (by omega))
    have h2 := h n (by omega)
    rw [recsB, List.length_append, Nat.succ_mul]
    omega
/-- A page. -/
structure Pg where
  la : Nat
  wi : Int
  se : Nat
  ma : Option Addr
  mn : Nat
  mc : Nat
  ms : Nat → Mk
  va : Option Addr
  vn : Nat
  vc : Nat
  vs : Nat → Vs
  sz : Nat
  pa : Option Addr
  pn : Nat
  pc : Nat
  ps : Nat → Pk
def Pg.cells (P : Pg) : List Value := [.int .u64 P.la, .int .i64 P.wi, .int .u64 P.se, .slice P.ma P.mn P.mc, .slice P.va P.vn P.vc, .int .u64 P.sz, .slice P.pa P.pn P.pc]
def Pg.mB (P : Pg) : Nat → List Int := fun i => (P.ms i).bytes
def Pg.vB (P : Pg) : Nat → List Int := fun i => (P.vs i).bytes
def Pg.pB (P : Pg) : Nat → List Int := fun i => (P.ps i).bytes
def Pg.bytes (P : Pg) : List Int := numB P.la ++ numB P.wi.toNat ++ numB P.se ++ numB P.mn ++ recsB P.mB P.mn ++ numB P.vn ++ recsB P.vB P.vn ++ numB P.sz ++ numB P.pn ++ recsB P.pB P.pn
/-- Records that lie one behind the other. -/
def RowsIn (w : World) (Av : Nat → Prop) (A : Option Addr) (n sz : Nat) (f : Nat → List Value) : Prop := ∀ i, i < n → ∃ g o, A = some ⟨g, o, none⟩ ∧ Av g ∧ w.rangeAt g (o + i * sz) (f i)
/-- A page in memory. -/
structure PgIn (w : World) (Av : Nat → Prop) (P : Pg) : Prop where
  la : P.la < 18446744073709551616
  wi : -9223372036854775808 ≤ P.wi ∧ P.wi ≤ 9223372036854775807
  se : P.se < 18446744073709551616
  sz : P.sz < 18446744073709551616
  mn : P.mn ≤ 9223372036854775807
  vn : P.vn ≤ 9223372036854775807
  pn : P.pn ≤ 9223372036854775807
  mrow : RowsIn w Av P.ma P.mn 2 (fun i => (P.ms i).cells)
  vrow : RowsIn w Av P.va P.vn 67 (fun i => (P.vs i).cells)
  prow : RowsIn w Av P.pa P.pn 66 (fun i => (P.ps i).cells)
  em : ∀ i, i < P.mn → (P.ms i).se < 18446744073709551616 ∧ -9223372036854775808 ≤ (P.ms i).us ∧ (P.ms i).us ≤ 9223372036854775807
  vk : ∀ i, i < P.vn → (P.vs i).n < 18446744073709551616 ∧ (P.vs i).x.length = 33 ∧ (P.vs i).c < 18446744073709551616 ∧ (P.vs i).y.length = 32
  pk : ∀ i, i < P.pn → (P.ps i).n < 18446744073709551616 ∧ (P.ps i).x.length = 33 ∧ (P.ps i).y.length = 32
/-- A page within the document's bounds. -/
structure PgFit (P : Pg) : Prop where
  la : P.la ≤ 4611686018427387904
  wi : 0 ≤ P.wi ∧ P.wi ≤ 64
  se : P.se ≤ 4611686018427387904
  mn : P.mn ≤ 32768
  vn : P.vn ≤ 64
  sz : P.sz ≤ 4611686018427387905
  pn : P.pn ≤ 63
  em : ∀ i, i < P.mn → (P.ms i).se ≤ 4611686018427387904 ∧ 0 ≤ (P.ms i).us ∧ (P.ms i).us ≤ 4194304
  vk : ∀ i, i < P.vn → (P.vs i).n ≤ 4611686018427387904 ∧ (P.vs i).c ≤ 4611686018427387904
  pk : ∀ i, i < P.pn → (P.ps i).n ≤ 4611686018427387904
theorem RowsIn.kept {w w' : World} {Av : Nat → Prop} {A : Option Addr} {n sz : Nat} {f : Nat → List Value} (h : RowsIn w Av A n sz f) {S : Nat → Prop} (c : Chg S w w') (hS : ∀ g, Av g → ¬ S g) : RowsIn w' Av A n sz f := fun i hi => by
  obtain ⟨g, o, e, ha, hr⟩ := h i hi
  exact ⟨g, o, e, ha, rangeAt_kept hr c (hS g ha)⟩
theorem RowsIn.mono {w : World} {Av Av' : Nat → Prop} {A : Option Addr} {n sz : Nat} {f : Nat → List Value} (h : RowsIn w Av A n sz f) (hA : ∀ g, Av g → Av' g) : RowsIn w Av' A n sz f := fun i hi => by
  obtain ⟨g, o, e, ha, hr⟩ := h i hi
  exact ⟨g, o, e, hA g ha, hr⟩
theorem PgIn.kept {w w' : World} {Av : Nat → Prop} {P : Pg} (h : PgIn w Av P) {S : Nat → Prop} (c : Chg S w w') (hS : ∀ g, Av g → ¬ S g) : PgIn w' Av P :=
  ⟨h.la, h.wi, h.se, h.sz, h.mn, h.vn, h.pn, h.mrow.kept c hS, h.vrow.kept c hS, h.prow.kept c hS, h.em, h.vk, h.pk⟩
theorem PgIn.mono {w : World} {Av Av' : Nat → Prop} {P : Pg} (h : PgIn w Av P) (hA : ∀ g, Av g → Av' g) : PgIn w Av' P :=
  ⟨h.la, h.wi, h.se, h.sz, h.mn, h.vn, h.pn, h.mrow.mono hA, h.vrow.mono hA, h.prow.mono hA, h.em, h.vk, h.pk⟩
theorem PgIn.keep0 {w w' : World} {P : Pg} (h : PgIn w (fun g => g < w.heap.size) P) (b : Below w.heap.size w w') : PgIn w' (fun g => g < w'.heap.size) P :=
  (h.kept (Chg.of_below b (fun _ => False)) (fun _ _ e => e)).mono (fun _ e => Nat.lt_of_lt_of_le e b.size)

theorem ix_at {sl ty sz : Nat} (hu : Try.prog.underlying sl = some (.slice ty)) (he : Try.prog.elem sl = ty) (hs : ∀ w, (sizeOf ty).run Try.prog w = .ok sz w) {A : Option Addr} {g o n c j : Nat} (hA : A = some ⟨g, o, none⟩) (hj : j < n) (w : World) :
    (Instr.indexAt sl (.slice A n c) (.int .i64 j)).run Try.prog w = .ok (.pointer (some ⟨g, o + j * sz, none⟩)) w := by
  subst hA
  rw [run_indexAt_slice _ sl _ _ _ _ _ (by rw [he]; exact hu), if_pos ⟨by omega, by omega⟩, he, hs]
  simp [addr_add]
theorem Try.elem45 : Try.prog.elem 45 = 126 := by kernel_rfl
theorem Try.elem46 : Try.prog.elem 46 = 130 := by kernel_rfl
theorem Try.elem47 : Try.prog.elem 47 = 132 := by kernel_rfl
theorem Try.so124 (w : World) : (sizeOf 126).run Try.prog w = .ok 2 w := by kernel_rfl
theorem Try.so128 (w : World) : (sizeOf 130).run Try.prog w = .ok 67 w := by kernel_rfl
theorem Try.so130 (w : World) : (sizeOf 132).run Try.prog w = .ok 66 w := by kernel_rfl
theorem Mk.one (m : Mk) : ∀ u ∈ m.cells, u.oneCell' = true := by
  intro v hv
  simp only [Mk.cells, List.mem_cons, List.not_mem_nil, or_false] at hv
  rcases hv with rfl | rfl <;> rfl
theorem Try.mkSz (m : Mk) : (Try.prog.info? 126).map (·.size) = some m.cells.length := Try.size124
theorem Try.vsSz (v : Vs) (hx : v.x.length = 33) (hy : v.y.length = 32) : (Try.prog.info? 130).map (·.size) = some v.cells.length := Try.versSz _ _ _ _ hx hy
theorem Try.pkSz (k : Pk) (hx : k.x.length = 33) (hy : k.y.length = 32) : (Try.prog.info? 132).map (·.size) = some k.cells.length := Try.peakSz _ _ (by rw [List.length_append, hx, hy])
theorem Vs.x_at (v : Vs) : (v.cells.drop 1).take (bs v.x).length = bs v.x := by simp [Vs.cells, vsC]
theorem Vs.c_at (v : Vs) (h : v.x.length = 33) : v.cells[34]? = some (.int .u64 v.c) := vsC_at _ _ _ _ h
theorem Vs.y_at (v : Vs) (h : v.x.length = 33) : (v.cells.drop 35).take (bs v.y).length = bs v.y := by
  have e : v.cells = vsC v.n v.x v.c [] ++ bs v.y := by simp [Vs.cells, vsC, bs]
  have l : (vsC v.n v.x v.c []).length = 35 := by rw [vsC_len, h]; rfl
  rw [e, List.drop_left' l, List.take_length]
theorem Pk.z_at (k : Pk) : (k.cells.drop 1).take (bs (k.x ++ k.y)).length = bs (k.x ++ k.y) := leafC_back _ _

end Go.Proofs.Ytjmeaebehndheaa

/-
  The writing of proofs.
-/
namespace Go.Proofs.Ytjmeaebehndheaa
open Go.RowKit

/-- A proof. -/
structure Prf where
  ct : Nat
  oa : Option Addr
  on : Nat
  oc : Nat
  os : Nat → Oc
def Prf.cells (P : Prf) : List Value := [.int .u64 P.ct, .slice P.oa P.on P.oc]
def Prf.oB (P : Prf) : Nat → List Int := fun i => (P.os i).bytes
def Prf.bytes (P : Prf) : List Int := numB P.ct ++ recsB P.oB P.on
structure PrIn (w : World) (Av : Nat → Prop) (P : Prf) : Prop where
  ct : P.ct < 18446744073709551616
  on : P.on ≤ 9223372036854775807
  row : RowsIn w Av P.oa P.on 37 (fun i => (P.os i).cells)
  op : ∀ i, i < P.on → OcIn w Av (P.os i)
theorem PrIn.kept {w w' : World} {Av : Nat → Prop} {P : Prf} (h : PrIn w Av P) {S : Nat → Prop} (c : Chg S w w') (hS : ∀ g, Av g → ¬ S g) : PrIn w' Av P :=
  ⟨h.ct, h.on, h.row.kept c hS, fun i hi => (h.op i hi).kept c hS⟩
theorem PrIn.mono {w : World} {Av Av' : Nat → Prop} {P : Prf} (h : PrIn w Av P) (hA : ∀ g, Av g → Av' g) : PrIn w Av' P :=
  ⟨h.ct, h.on, h.row.mono hA, fun i hi => (h.op i hi).mono hA⟩
theorem PrIn.keep0 {w w' : World} {P : Prf} (h : PrIn w (fun g => g < w.heap.size) P) (b : Below w.heap.size w w') : PrIn w' (fun g => g < w'.heap.size) P :=
  (h.kept (Chg.of_below b (fun _ => False)) (fun _ _ e => e)).mono (fun _ e => Nat.lt_of_lt_of_le e b.size)
theorem recsB_le (f : Nat → List Int) (n : Nat) : ∀ i, i ≤ n → (recsB f i).length ≤ (recsB f n).length := by
  induction n with
  | zero => intro i hi; rw [Nat.le_zero.1 hi]; exact Nat.le_refl _
  | succ n ih =>
    intro i hi
    rcases Nat.lt_or_ge n i with e | e
    · have : i = n + 1 := by omega
      rw [this]; exact Nat.le_refl _
    · have := ih i e
      simp only [recsB, List.length_append]
      omega
theorem Try.elem96 : Try.prog.elem 96 = 220 := by kernel_rfl
theorem Try.so219 (w : World) : (sizeOf 220).run Try.prog w = .ok 37 w := by kernel_rfl

set_option maxRecDepth 100000 in
set_option maxHeartbeats 8000000 in
theorem wProof_any {w0 w : World} {Av : Nat → Prop} {p : Nat} {t : TypeId} {l : List Int} (h : WB w0 w Av p t l) {P : Prf} (hP : PrIn w0 Av P) (hl : l.length + P.bytes.length + 40 ≤ 140737488355328) :
    Calls Try.prog 157 #[.agg P.cells.toArray, .pointer (some ⟨p, 0, none⟩)] w fun e w' => e = .returned (.tuple #[]) ∧ WB w0 w' Av p t (l ++ P.bytes) := by
  obtain ⟨X, hX⟩ : ∃ X, X = w.heap.size := ⟨_, rfl⟩
  obtain ⟨W, hW⟩ : ∃ W, W = w.alloc (.cells P.cells.toArray 177) := ⟨_, rfl⟩
  have cW : Chg (fun _ => False) w W := by rw [hW]; exact (Chg.refl _ _).alloc _
  have b0 : Blk W X P.cells 177 := by rw [hW, hX]; exact Blk.made _ _ _
  have h0 : WB W W (AvX Av X) p t l := by rw [hX]; exact h.box cW (by rw [hW]; simp)
  have pw : PrIn W Av P := (hP.kept h.ch (fun g ha e => e ha)).kept cW (fun _ _ e => e)
  have H : Hid _ := h
  have CW : Hid _ := cW
  have B0 : Hid _ := b0
  have H0 : Hid _ := h0
  have HP : Hid _ := pw
  have CT := hP.ct
  have ON := hP.on
  have t1 := numB_ten CT
  have LB : P.bytes.length = (numB P.ct).length + (recsB P.oB P.on).length := by simp [Prf.bytes]
  have PX : p ≠ X := by have := h.pw; omega
  clear h cW b0 h0 pw hP
  go_enter Try.func157, Try.ntmps157
  go_upto_region 1 with fail
  rw [← hX, ← hW]
  clear hX hW
  go_upto_region 1 with fail
  refine wp_region_held_drew (S := fun w' => Blk w' X P.cells 177) (by kernel_rfl) (Blk.drew (H0.out.blk B0.out (.inr rfl))) (fun hH => ?_)
  refine wpAnyH_take (i := 0) (v := .pointer (some ⟨p, 0, none⟩)) rfl (by kernel_rfl) (by kernel_rfl) (by kernel_rfl) (fun _ _ _ h => h) (Or.inl ⟨by rfl, fun w' _ => by go_simp⟩) hH ?_
  refine wpAnyH_take (i := 1) (v := .pointer (some ⟨p, 0, none⟩)) rfl (by kernel_rfl) (by kernel_rfl) (by kernel_rfl) (fun _ _ _ h => h) (Or.inl ⟨by rfl, fun w' _ => by go_simp⟩) hH ?_
  refine wpAnyH_take (i := 2) (v := .pointer (some ⟨p, 0, none⟩)) rfl (by kernel_rfl) (by kernel_rfl) (by kernel_rfl) (fun _ _ _ h => h) (Or.inl ⟨by rfl, fun w' _ => by go_simp⟩) hH ?_
  refine wpAnyH_take (i := 3) (v := .pointer (some ⟨X, 0, none⟩)) rfl (by kernel_rfl) (by kernel_rfl) (by kernel_rfl) (fun _ _ _ h => h) (Or.inl ⟨by rfl, fun w' _ => by go_simp⟩) hH ?_
  refine wpAnyH_take (i := 4) (v := .int .u64 P.ct) rfl (by kernel_rfl) (by kernel_rfl) (by kernel_rfl) (fun _ _ _ h => h) (Or.inl ⟨by rfl, fun w' hw' => by have h2 : w'.cell? ⟨X, 0, none⟩ = some (.int .u64 P.ct) := Blk.cell hw' 0; go_simp⟩) hH ?_
  refine wpAnyH_ready (rs := [5]) (by kernel_rfl) (by simp) ?_
  refine AllReadyH.cons rfl (fun K hK => ?_) AllReadyH.nil
  go_simp
  refine Calls.mono ((H0.out.drew).go (fun cs v s hv => wUint_any s P.ct CT (by omega))) ?_
  rintro e w9 ⟨rfl, h9⟩
  refine hK.out _ _ (h9.blk B0.out (.inr rfl)) (fun _ => ?_)
  clear hK K hH
  refine wpAnyH_done (by kernel_rfl) ?_ _
  have H1 : Hid _ := h9
  clear h9
  obtain ⟨w1, hw1⟩ : ∃ w1, w1 = w9 := ⟨_, rfl⟩
  rw [← hw1] at H1 ⊢
  clear hw1
  have k1 : w1.cell? ⟨X, 1, none⟩ = some (.slice P.oa P.on P.oc) := (H1.out.blk B0.out (.inr rfl)).cell 1
  obtain ⟨M0, hM0⟩ : ∃ M0, M0 = l ++ numB P.ct := ⟨_, rfl⟩
  rw [← hM0] at H1
  have LM0 : M0.length = l.length + (numB P.ct).length := by rw [hM0]; simp
  have HM0 : Hid _ := hM0
  clear hM0 H0
  go_wp2_with fail
  clear k1
  go_loopw [15] (fun i wr => ∃ j : Nat, j ≤ P.on ∧ i = .int .i64 j ∧ Hid (WB W wr (AvX Av X) p t (M0 ++ recsB P.oB j))) (fun i _ => P.on - (intOf i).toNat)
  case atStart => exact ⟨0, Nat.zero_le _, rfl, by show WB W w1 (AvX Av X) p t (M0 ++ []); rw [List.append_nil]; exact H1.out⟩
  case round =>
    obtain ⟨j, hj, rfl, hid⟩ := hrel
    have HB : Hid _ := hid.out
    clear hid
    by_cases hlt : j < P.on
    · obtain ⟨k, hk⟩ : ∃ k, k = P.os j := ⟨_, rfl⟩
      obtain ⟨g, o, hsa, hav, hrg⟩ := HP.out.row j hlt
      have kin := HP.out.op j hlt
      have hrg : W.rangeAt g (o + j * 37) k.cells := by rw [hk]; exact hrg
      rw [← hk] at kin
      have hix := ix_at Try.underlying96 Try.elem96 Try.so219 (c := P.oc) hsa hlt
      have RG : Hid (wr.rangeAt g (o + j * 37) k.cells) := rangeAt_kept hrg HB.out.ch (fun e => e (.inl hav))
      have HKK : Hid _ := hk
      have A4 := kin.sm
      have KIN : Hid _ := kin
      have KB : (recsB P.oB j).length + k.bytes.length ≤ (recsB P.oB P.on).length := by
        have := recsB_le P.oB P.on (j + 1) (by omega)
        simp only [recsB, Prf.oB, List.length_append, ← hk] at this
        exact this
      clear hrg hk hsa hav kin
      go_upto_region 5 with (first
        | refine wpList_load_mid rfl 220 (.tmp 17) rfl g (o + j * 37) rfl k.cells _ RG.out Try.underlying220 rfl (Try.opSz k A4) ?_
        | (refine wpList_store_part rfl 220 (.tmp 5) (.tmp 18) rfl wr.heap.size 0 k.cells rfl rfl (t := 220) ⟨heap_alloc_new _ _⟩ (by simp [Oc.cells, bs, A4]) (Try.opSz k A4) k.one ?_; intro wB hw8 hc8; rw [splice_all _ _ (by simp [Oc.cells, bs, A4])] at hw8; have c8 : Chg (fun _ => False) wr wB := ((Chg.refl (fun _ => False) wr).alloc _).trans hc8 (fun i e => .inr (by omega)); have BK : Hid _ := hw8; have CB : Hid _ := c8; clear hw8 hc8 c8))
      have G0 : Hid (WB wB wB (AvX (AvX Av X) wr.heap.size) p t (M0 ++ recsB P.oB j)) := HB.out.box CB.out BK.out.lt
      have KI : Hid (OcIn wB (AvX (AvX Av X) wr.heap.size) k) := (((KIN.out.kept HB.out.ch (fun g ha e => e (.inl ha))).kept CB.out (fun _ _ e => e))).mono (fun g e => .inl (.inl e))
      have LB2 : (M0 ++ recsB P.oB j).length + k.bytes.length ≤ l.length + P.bytes.length := by rw [List.length_append]; omega
      obtain ⟨Lj, hLj⟩ : ∃ Lj, Lj = M0 ++ recsB P.oB j := ⟨_, rfl⟩
      rw [← hLj] at G0 LB2
      have HLJ : Hid _ := hLj
      clear hLj hix
      go_upto_region 6 with (first
        | refine wpList_load_part rfl 220 (.tmp 5) rfl wr.heap.size 0 k.cells rfl BK.out (by simp) Try.underlying220 rfl (Try.opSz k A4) ?_
        | (go_at_call 158; refine Calls.mono (wOp_any G0.out KI.out (by omega)) ?_; rintro e wD ⟨rfl, h6⟩; have G2 : Hid _ := h6; clear h6))
      have F : Hid (WB W wD (AvX Av X) p t (M0 ++ recsB P.oB (j + 1))) := by
        have h9 := (HLJ.out ▸ HB.out : WB W wr (AvX Av X) p t Lj).leave CB.out G2.out
        have e : M0 ++ recsB P.oB (j + 1) = Lj ++ k.bytes := by
          rw [HLJ.out, recsB, Prf.oB, ← HKK.out]
          simp
        rw [e]
        exact h9
      go_wp2_with fail
      go_roundw
      case rel => exact ⟨j + 1, by omega, by go_num, F.out⟩
      case measure => simp [intOf]; omega
    · have hjn : j = P.on := by omega
      subst hjn
      have F : Hid (WB w0 wr Av p t (l ++ P.bytes)) := by
        have h9 := H.out.leave CW.out HB.out
        have e : l ++ P.bytes = M0 ++ recsB P.oB P.on := by rw [HM0.out, Prf.bytes]; simp
        rw [e]
        exact h9
      go_wp2_with fail
      go_end0
      exact ⟨rfl, F.out⟩
end Go.Proofs.Ytjmeaebehndheaa
