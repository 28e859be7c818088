/-
  The writing of proofs: ops.
-/
import Derived.Test.YtjmeaebehndheaaTwB
import Derived.Deep.CutBlock
namespace Go.Proofs.Ytjmeaebehndheaa
open Go.RowKit

/-- An op. -/
structure Oc where
  ki : Int
  lv : Int
  ka : Option Addr
  kn : Nat
  kc : Nat
  kl : List Int
  ct : Nat
  sm : List Int
  va : Option Addr
  vn : Nat
  vc : Nat
  vl : List Int
def Oc.cells (o : Oc) : List Value := .int .i64 o.ki :: .int .i64 o.lv :: .slice o.ka o.kn o.kc :: .int .u64 o.ct :: (bs o.sm ++ [.slice o.va o.vn o.vc])
def Oc.nb (o : Oc) : List Int := [o.lv % 256] ++ (numB o.kl.length ++ o.kl) ++ numB o.ct
def Oc.body (o : Oc) : List Int :=
  if o.ki = 1 then numB o.vl.length ++ o.vl else if o.ki = 2 then o.sm else if o.ki = 4 ∨ o.ki = 5 then o.nb ++ o.sm else if o.ki = 6 then o.nb else []
def Oc.bytes (o : Oc) : List Int := [o.ki % 256] ++ o.body
structure OcIn (w : World) (Av : Nat → Prop) (o : Oc) : Prop where
  ks : Src w (.slice o.ka o.kn o.kc) o.kl
  kav : ∀ g, (Value.slice o.ka o.kn o.kc).ownBlock = some g → Av g ∨ o.kl = []
  vs : Src w (.slice o.va o.vn o.vc) o.vl
  vav : ∀ g, (Value.slice o.va o.vn o.vc).ownBlock = some g → Av g ∨ o.vl = []
  ki : -9223372036854775808 ≤ o.ki ∧ o.ki ≤ 9223372036854775807
  lv : -9223372036854775808 ≤ o.lv ∧ o.lv ≤ 9223372036854775807
  ct : o.ct < 18446744073709551616
  sm : o.sm.length = 32
  kl : o.kl.length ≤ 140737488355328
  vl : o.vl.length ≤ 140737488355328
theorem OcIn.kept {w w' : World} {Av : Nat → Prop} {o : Oc} (h : OcIn w Av o) {S : Nat → Prop} (c : Chg S w w') (hS : ∀ g, Av g → ¬ S g) : OcIn w' Av o :=
  ⟨h.ks.keptE c (fun g hg => (h.kav g hg).imp (hS g) id), h.kav, h.vs.keptE c (fun g hg => (h.vav g hg).imp (hS g) id), h.vav, h.ki, h.lv, h.ct, h.sm, h.kl, h.vl⟩
theorem OcIn.mono {w : World} {Av Av' : Nat → Prop} {o : Oc} (h : OcIn w Av o) (hA : ∀ g, Av g → Av' g) : OcIn w Av' o :=
  ⟨h.ks, fun g hg => (h.kav g hg).imp (hA g) id, h.vs, fun g hg => (h.vav g hg).imp (hA g) id, h.ki, h.lv, h.ct, h.sm, h.kl, h.vl⟩
theorem Oc.sm_at (o : Oc) : (o.cells.drop 4).take (bs o.sm).length = bs o.sm := by simp [Oc.cells]
theorem Oc.vl_at (o : Oc) (h : o.sm.length = 32) : o.cells[36]? = some (.slice o.va o.vn o.vc) := by
  show (bs o.sm ++ [Value.slice o.va o.vn o.vc])[32]? = _
  rw [List.getElem?_append_right (by rw [bs_len]; omega), bs_len, h]
  rfl
theorem Oc.one (o : Oc) : ∀ u ∈ o.cells, u.oneCell' = true := by
  intro u hu
  simp only [Oc.cells, List.mem_cons, List.mem_append, List.not_mem_nil, or_false] at hu
  rcases hu with rfl | rfl | rfl | rfl | hu | rfl
  · rfl
  · rfl
  · rfl
  · rfl
  · exact bs_one _ u hu
  · rfl
theorem Try.sz219 : (Try.prog.info? 220).map (·.size) = some 37 := by kernel_rfl
theorem Try.opSz (o : Oc) (h : o.sm.length = 32) : (Try.prog.info? 220).map (·.size) = some o.cells.length := by
  rw [Try.sz219]
  simp [Oc.cells, bs, h]

set_option maxRecDepth 100000 in
set_option maxHeartbeats 8000000 in
theorem wNb_any {w0 w : World} {Av : Nat → Prop} {p : Nat} {t : TypeId} {l : List Int} (h : WB w0 w Av p t l) {o : Oc} (hO : OcIn w0 Av o) (hl : l.length + o.nb.length + 10 ≤ 140737488355328) :
    Calls Try.prog 159 #[.pointer (some ⟨p, 0, none⟩), .agg o.cells.toArray] w fun e w' => e = .returned (.tuple #[]) ∧ WB w0 w' Av p t (l ++ o.nb) := by
  obtain ⟨X, hX⟩ : ∃ X, X = w.heap.size := ⟨_, rfl⟩
  obtain ⟨W, hW⟩ : ∃ W, W = w.alloc (.cells o.cells.toArray 220) := ⟨_, rfl⟩
  have cW : Chg (fun _ => False) w W := by rw [hW]; exact (Chg.refl _ _).alloc _
  have b0 : Blk W X o.cells 220 := by rw [hW, hX]; exact Blk.made _ _ _
  have h0 : WB W W (AvX Av X) p t l := by rw [hX]; exact h.box cW (by rw [hW]; simp)
  have H : Hid _ := h
  have CW : Hid _ := cW
  have B0 : Hid _ := b0
  have H0 : Hid _ := h0
  have OI : Hid (OcIn W Av o) := (hO.kept h.ch (fun g ha e => e ha)).kept cW (fun _ _ e => e)
  have A1 := hO.ki
  have A2 := hO.lv
  have A3 := hO.ct
  have A4 := hO.sm
  have A5 := hO.kl
  have A6 := hO.vl
  have n1 := numB_ten (n := o.kl.length) (by omega)
  have n2 := numB_ten A3
  have n3 := numB_ten (n := o.vl.length) (by omega)
  have PX : p ≠ X := by have := h.pw; omega
  have LB : o.nb.length = 1 + ((numB o.kl.length).length + o.kl.length) + (numB o.ct).length := by simp [Oc.nb]; omega
  clear h cW b0 h0 hO
  go_enter Try.func159, Try.ntmps159
  go_upto_region 1 with fail
  rw [← hX, ← hW]
  clear hX hW
  go_upto_region 1 with fail
  refine wp_region_held_drew (S := fun w' => Blk w' X o.cells 220) (by kernel_rfl) (Blk.drew (H0.out.blk B0.out (.inr rfl))) (fun hH => ?_)
  refine wpAnyH_take (i := 0) (v := .pointer (some ⟨p, 0, none⟩)) rfl (by kernel_rfl) (by kernel_rfl) (by kernel_rfl) (fun _ _ _ h => h) (Or.inl ⟨by rfl, fun w' _ => by go_simp⟩) hH ?_
  refine wpAnyH_take (i := 1) (v := .pointer (some ⟨p, 0, none⟩)) rfl (by kernel_rfl) (by kernel_rfl) (by kernel_rfl) (fun _ _ _ h => h) (Or.inl ⟨by rfl, fun w' _ => by go_simp⟩) hH ?_
  refine wpAnyH_take (i := 2) (v := .pointer (some ⟨p, 0, none⟩)) rfl (by kernel_rfl) (by kernel_rfl) (by kernel_rfl) (fun _ _ _ h => h) (Or.inl ⟨by rfl, fun w' _ => by go_simp⟩) hH ?_
  refine wpAnyH_take (i := 3) (v := .pointer (some ⟨X, 1, none⟩)) rfl (by kernel_rfl) (by kernel_rfl) (by kernel_rfl) (fun _ _ _ h => h) (Or.inl ⟨by rfl, fun w' _ => by go_simp⟩) hH ?_
  refine wpAnyH_take (i := 4) (v := .int .i64 o.lv) rfl (by kernel_rfl) (by kernel_rfl) (by kernel_rfl) (fun _ _ _ h => h) (Or.inl ⟨by rfl, fun w' hw' => by have h2 : w'.cell? ⟨X, 1, none⟩ = some (.int .i64 o.lv) := Blk.cell hw' 1; go_simp⟩) hH ?_
  refine wpAnyH_take (i := 5) (v := .int .u8 (o.lv % 256)) rfl (by kernel_rfl) (by kernel_rfl) (by kernel_rfl) (fun _ _ _ h => h) (Or.inl ⟨by rfl, fun w' _ => by go_simp; first | rfl | simp [IntKind.wrap_u8] | simp [IntKind.wrap]⟩) hH ?_
  refine wpAnyH_ready (rs := [6]) (by kernel_rfl) (by simp) ?_
  refine AllReadyH.cons rfl (fun K hK => ?_) AllReadyH.nil
  go_simp
  refine Calls.mono ((H0.out.drew).go (fun cs v s hv => wByte_any s (o.lv % 256) (by omega))) ?_
  rintro e w9 ⟨rfl, h9⟩
  refine hK.out _ _ (h9.blk B0.out (.inr rfl)) (fun _ => ?_)
  clear hK K hH
  refine wpAnyH_done (by kernel_rfl) ?_ _
  have H1 : Hid _ := h9
  clear h9
  go_upto_region 2 with fail
  refine wp_region_held_drew (S := fun w' => Blk w' X o.cells 220) (by kernel_rfl) (Blk.drew (H1.out.blk B0.out (.inr rfl))) (fun hH => ?_)
  refine wpAnyH_take (i := 0) (v := .pointer (some ⟨p, 0, none⟩)) rfl (by kernel_rfl) (by kernel_rfl) (by kernel_rfl) (fun _ _ _ h => h) (Or.inl ⟨by rfl, fun w' _ => by go_simp⟩) hH ?_
  refine wpAnyH_take (i := 1) (v := .pointer (some ⟨p, 0, none⟩)) rfl (by kernel_rfl) (by kernel_rfl) (by kernel_rfl) (fun _ _ _ h => h) (Or.inl ⟨by rfl, fun w' _ => by go_simp⟩) hH ?_
  refine wpAnyH_take (i := 2) (v := .pointer (some ⟨p, 0, none⟩)) rfl (by kernel_rfl) (by kernel_rfl) (by kernel_rfl) (fun _ _ _ h => h) (Or.inl ⟨by rfl, fun w' _ => by go_simp⟩) hH ?_
  refine wpAnyH_take (i := 3) (v := .pointer (some ⟨X, 2, none⟩)) rfl (by kernel_rfl) (by kernel_rfl) (by kernel_rfl) (fun _ _ _ h => h) (Or.inl ⟨by rfl, fun w' _ => by go_simp⟩) hH ?_
  refine wpAnyH_take (i := 4) (v := .slice o.ka o.kn o.kc) rfl (by kernel_rfl) (by kernel_rfl) (by kernel_rfl) (fun _ _ _ h => h) (Or.inl ⟨by rfl, fun w' hw' => by have h2 : w'.cell? ⟨X, 2, none⟩ = some (.slice o.ka o.kn o.kc) := Blk.cell hw' 2; go_simp⟩) hH ?_
  refine wpAnyH_ready (rs := [5]) (by kernel_rfl) (by simp) ?_
  refine AllReadyH.cons rfl (fun K hK => ?_) AllReadyH.nil
  go_simp
  refine Calls.mono ((H1.out.drew).go (fun cs v s hv => wTextE_any s (H1.out.drew.src OI.out.ks (fun q hq => (OI.out.kav q hq).imp .inl id)) (fun q hq => (OI.out.kav q hq).imp (fun ha => ⟨fun e => H0.out.np (by rw [← e]; exact .inl ha), fun e => hv q e.symm (.inl ha)⟩) id) (by simp; omega))) ?_
  rintro e w9 ⟨rfl, h9⟩
  refine hK.out _ _ (h9.blk B0.out (.inr rfl)) (fun _ => ?_)
  clear hK K hH
  refine wpAnyH_done (by kernel_rfl) ?_ _
  have H2 : Hid _ := h9
  clear h9
  go_upto_region 3 with fail
  refine wp_region_held_drew (S := fun w' => Blk w' X o.cells 220) (by kernel_rfl) (Blk.drew (H2.out.blk B0.out (.inr rfl))) (fun hH => ?_)
  refine wpAnyH_take (i := 0) (v := .pointer (some ⟨p, 0, none⟩)) rfl (by kernel_rfl) (by kernel_rfl) (by kernel_rfl) (fun _ _ _ h => h) (Or.inl ⟨by rfl, fun w' _ => by go_simp⟩) hH ?_
  refine wpAnyH_take (i := 1) (v := .pointer (some ⟨p, 0, none⟩)) rfl (by kernel_rfl) (by kernel_rfl) (by kernel_rfl) (fun _ _ _ h => h) (Or.inl ⟨by rfl, fun w' _ => by go_simp⟩) hH ?_
  refine wpAnyH_take (i := 2) (v := .pointer (some ⟨p, 0, none⟩)) rfl (by kernel_rfl) (by kernel_rfl) (by kernel_rfl) (fun _ _ _ h => h) (Or.inl ⟨by rfl, fun w' _ => by go_simp⟩) hH ?_
  refine wpAnyH_take (i := 3) (v := .pointer (some ⟨X, 3, none⟩)) rfl (by kernel_rfl) (by kernel_rfl) (by kernel_rfl) (fun _ _ _ h => h) (Or.inl ⟨by rfl, fun w' _ => by go_simp⟩) hH ?_
  refine wpAnyH_take (i := 4) (v := .int .u64 o.ct) rfl (by kernel_rfl) (by kernel_rfl) (by kernel_rfl) (fun _ _ _ h => h) (Or.inl ⟨by rfl, fun w' hw' => by have h2 : w'.cell? ⟨X, 3, none⟩ = some (.int .u64 o.ct) := Blk.cell hw' 3; go_simp⟩) hH ?_
  refine wpAnyH_ready (rs := [5]) (by kernel_rfl) (by simp) ?_
  refine AllReadyH.cons rfl (fun K hK => ?_) AllReadyH.nil
  go_simp
  refine Calls.mono ((H2.out.drew).go (fun cs v s hv => wUint_any s o.ct A3 (by simp; omega))) ?_
  rintro e w9 ⟨rfl, h9⟩
  refine hK.out _ _ (h9.blk B0.out (.inr rfl)) (fun _ => ?_)
  clear hK K hH
  refine wpAnyH_done (by kernel_rfl) ?_ _
  have H3 : Hid _ := h9
  clear h9
  have F : Hid (WB w0 w9 Av p t (l ++ o.nb)) := by
    have h9 := H.out.leave CW.out H3.out
    simp only [Oc.nb, List.append_assoc] at h9 ⊢
    exact h9
  go_wp2_with fail
  go_end0
  exact ⟨rfl, F.out⟩

set_option maxRecDepth 100000 in
set_option maxHeartbeats 16000000 in
theorem wOp_any {w0 w : World} {Av : Nat → Prop} {p : Nat} {t : TypeId} {l : List Int} (h : WB w0 w Av p t l) {o : Oc} (hO : OcIn w0 Av o) (hl : l.length + o.bytes.length + 20 ≤ 140737488355328) :
    Calls Try.prog 158 #[.pointer (some ⟨p, 0, none⟩), .agg o.cells.toArray] w fun e w' => e = .returned (.tuple #[]) ∧ WB w0 w' Av p t (l ++ o.bytes) := by
  obtain ⟨X, hX⟩ : ∃ X, X = w.heap.size := ⟨_, rfl⟩
  obtain ⟨W, hW⟩ : ∃ W, W = w.alloc (.cells o.cells.toArray 220) := ⟨_, rfl⟩
  have cW : Chg (fun _ => False) w W := by rw [hW]; exact (Chg.refl _ _).alloc _
  have b0 : Blk W X o.cells 220 := by rw [hW, hX]; exact Blk.made _ _ _
  have h0 : WB W W (AvX Av X) p t l := by rw [hX]; exact h.box cW (by rw [hW]; simp)
  have H : Hid _ := h
  have CW : Hid _ := cW
  have B0 : Hid _ := b0
  have H0 : Hid _ := h0
  have OI : Hid (OcIn W Av o) := (hO.kept h.ch (fun g ha e => e ha)).kept cW (fun _ _ e => e)
  have A1 := hO.ki
  have A2 := hO.lv
  have A3 := hO.ct
  have A4 := hO.sm
  have A5 := hO.kl
  have A6 := hO.vl
  have n1 := numB_ten (n := o.kl.length) (by omega)
  have n2 := numB_ten A3
  have n3 := numB_ten (n := o.vl.length) (by omega)
  have PX : p ≠ X := by have := h.pw; omega
  have LB : o.bytes.length = 1 + o.body.length := by simp [Oc.bytes]; omega
  have k0 : W.cell? ⟨X, 0, none⟩ = some (.int .i64 o.ki) := b0.cell 0
  clear h cW b0 h0 hO k0
  go_enter Try.func158, Try.ntmps158
  go_upto_region 1 with fail
  rw [← hX, ← hW]
  clear hX hW
  go_upto_region 1 with fail
  refine wp_region_held_drew (S := fun w' => Blk w' X o.cells 220) (by kernel_rfl) (Blk.drew (H0.out.blk B0.out (.inr rfl))) (fun hH => ?_)
  refine wpAnyH_take (i := 0) (v := .pointer (some ⟨p, 0, none⟩)) rfl (by kernel_rfl) (by kernel_rfl) (by kernel_rfl) (fun _ _ _ h => h) (Or.inl ⟨by rfl, fun w' _ => by go_simp⟩) hH ?_
  refine wpAnyH_take (i := 1) (v := .pointer (some ⟨p, 0, none⟩)) rfl (by kernel_rfl) (by kernel_rfl) (by kernel_rfl) (fun _ _ _ h => h) (Or.inl ⟨by rfl, fun w' _ => by go_simp⟩) hH ?_
  refine wpAnyH_take (i := 2) (v := .pointer (some ⟨p, 0, none⟩)) rfl (by kernel_rfl) (by kernel_rfl) (by kernel_rfl) (fun _ _ _ h => h) (Or.inl ⟨by rfl, fun w' _ => by go_simp⟩) hH ?_
  refine wpAnyH_take (i := 3) (v := .pointer (some ⟨X, 0, none⟩)) rfl (by kernel_rfl) (by kernel_rfl) (by kernel_rfl) (fun _ _ _ h => h) (Or.inl ⟨by rfl, fun w' _ => by go_simp⟩) hH ?_
  refine wpAnyH_take (i := 4) (v := .int .i64 o.ki) rfl (by kernel_rfl) (by kernel_rfl) (by kernel_rfl) (fun _ _ _ h => h) (Or.inl ⟨by rfl, fun w' hw' => by have h2 : w'.cell? ⟨X, 0, none⟩ = some (.int .i64 o.ki) := Blk.cell hw' 0; go_simp⟩) hH ?_
  refine wpAnyH_take (i := 5) (v := .int .u8 (o.ki % 256)) rfl (by kernel_rfl) (by kernel_rfl) (by kernel_rfl) (fun _ _ _ h => h) (Or.inl ⟨by rfl, fun w' _ => by go_simp; first | rfl | simp [IntKind.wrap_u8] | simp [IntKind.wrap]⟩) hH ?_
  refine wpAnyH_ready (rs := [6]) (by kernel_rfl) (by simp) ?_
  refine AllReadyH.cons rfl (fun K hK => ?_) AllReadyH.nil
  go_simp
  refine Calls.mono ((H0.out.drew).go (fun cs v s hv => wByte_any s (o.ki % 256) (by omega))) ?_
  rintro e w9 ⟨rfl, h9⟩
  refine hK.out _ _ (h9.blk B0.out (.inr rfl)) (fun _ => ?_)
  clear hK K hH
  refine wpAnyH_done (by kernel_rfl) ?_ _
  have H1 : Hid _ := h9
  clear h9
  obtain ⟨w1, hw1⟩ : ∃ w1, w1 = w9 := ⟨_, rfl⟩
  rw [← hw1] at H1 ⊢
  clear hw1
  have k0 : w1.cell? ⟨X, 0, none⟩ = some (.int .i64 o.ki) := (H1.out.blk B0.out (.inr rfl)).cell 0
  by_cases e1 : o.ki = 1
  · have BD : Hid (o.body = numB o.vl.length ++ o.vl) := by show _ = _; rw [Oc.body, if_pos e1]
    have LBD : o.body.length = (numB o.vl.length).length + o.vl.length := by rw [BD.out]; simp
    rw [e1] at k0
    clear e1
    go_upto_region 4 with fail
    refine wp_region_held_drew (S := fun w' => Blk w' X o.cells 220) (by kernel_rfl) (Blk.drew (H1.out.blk B0.out (.inr rfl))) (fun hH => ?_)
    refine wpAnyH_take (i := 0) (v := .pointer (some ⟨p, 0, none⟩)) rfl (by kernel_rfl) (by kernel_rfl) (by kernel_rfl) (fun _ _ _ h => h) (Or.inl ⟨by rfl, fun w' _ => by go_simp⟩) hH ?_
    refine wpAnyH_take (i := 1) (v := .pointer (some ⟨p, 0, none⟩)) rfl (by kernel_rfl) (by kernel_rfl) (by kernel_rfl) (fun _ _ _ h => h) (Or.inl ⟨by rfl, fun w' _ => by go_simp⟩) hH ?_
    refine wpAnyH_take (i := 2) (v := .pointer (some ⟨p, 0, none⟩)) rfl (by kernel_rfl) (by kernel_rfl) (by kernel_rfl) (fun _ _ _ h => h) (Or.inl ⟨by rfl, fun w' _ => by go_simp⟩) hH ?_
    refine wpAnyH_take (i := 3) (v := .pointer (some ⟨X, 36, none⟩)) rfl (by kernel_rfl) (by kernel_rfl) (by kernel_rfl) (fun _ _ _ h => h) (Or.inl ⟨by rfl, fun w' _ => by go_simp⟩) hH ?_
    refine wpAnyH_take (i := 4) (v := .slice o.va o.vn o.vc) rfl (by kernel_rfl) (by kernel_rfl) (by kernel_rfl) (fun _ _ _ h => h) (Or.inl ⟨by rfl, fun w' hw' => by have h2 : w'.cell? ⟨X, 36, none⟩ = some (.slice o.va o.vn o.vc) := (by rw [Blk.cell hw']; exact o.vl_at A4); go_simp⟩) hH ?_
    refine wpAnyH_ready (rs := [5]) (by kernel_rfl) (by simp) ?_
    refine AllReadyH.cons rfl (fun K hK => ?_) AllReadyH.nil
    go_simp
    refine Calls.mono ((H1.out.drew).go (fun cs v s hv => wTextE_any s (H1.out.drew.src OI.out.vs (fun q hq => (OI.out.vav q hq).imp .inl id)) (fun q hq => (OI.out.vav q hq).imp (fun ha => ⟨fun e => H0.out.np (by rw [← e]; exact .inl ha), fun e => hv q e.symm (.inl ha)⟩) id) (by simp; omega))) ?_
    rintro e w9 ⟨rfl, h9⟩
    refine hK.out _ _ (h9.blk B0.out (.inr rfl)) (fun _ => ?_)
    clear hK K hH
    refine wpAnyH_done (by kernel_rfl) ?_ _
    have H2 : Hid _ := h9
    clear h9
    have F : Hid (WB w0 w9 Av p t (l ++ o.bytes)) := by
      have h9 := H.out.leave CW.out H2.out
      have e : l ++ o.bytes = l ++ [o.ki % 256] ++ (numB o.vl.length ++ o.vl) := by rw [Oc.bytes, BD.out]; simp
      rw [e]
      exact h9
    go_wp2_with fail
    go_end0
    exact ⟨rfl, F.out⟩
  · by_cases e2 : o.ki = 2
    · have BD : Hid (o.body = o.sm) := by show _ = _; rw [Oc.body, if_neg e1, if_pos e2]
      have LBD : o.body.length = 32 := by rw [BD.out]; exact A4
      rw [e2] at k0
      clear e1 e2
      go_upto_region 6 with fail
      refine wp_region_held_drew (S := fun w' => Blk w' X o.cells 220) (by kernel_rfl) (Blk.drew (H1.out.blk B0.out (.inr rfl))) (fun hH => ?_)
      refine wpAnyH_take (i := 0) (v := .pointer (some ⟨p, 0, none⟩)) rfl (by kernel_rfl) (by kernel_rfl) (by kernel_rfl) (fun _ _ _ h => h) (Or.inl ⟨by rfl, fun w' _ => by go_simp⟩) hH ?_
      refine wpAnyH_take (i := 1) (v := .pointer (some ⟨p, 0, none⟩)) rfl (by kernel_rfl) (by kernel_rfl) (by kernel_rfl) (fun _ _ _ h => h) (Or.inl ⟨by rfl, fun w' _ => by go_simp⟩) hH ?_
      refine wpAnyH_take (i := 2) (v := .pointer (some ⟨p, 0, none⟩)) rfl (by kernel_rfl) (by kernel_rfl) (by kernel_rfl) (fun _ _ _ h => h) (Or.inl ⟨by rfl, fun w' _ => by go_simp⟩) hH ?_
      refine wpAnyH_take (i := 3) (v := .pointer (some ⟨X, 4, none⟩)) rfl (by kernel_rfl) (by kernel_rfl) (by kernel_rfl) (fun _ _ _ h => h) (Or.inl ⟨by rfl, fun w' _ => by go_simp⟩) hH ?_
      refine wpAnyH_take (i := 4) (v := .agg (bs o.sm).toArray) rfl (by kernel_rfl) (by kernel_rfl) (by kernel_rfl) (fun _ _ _ h => h) (yieldsIf_load_mid (by rfl) _ _ rfl X 4 rfl _ _ (fun w' h => Blk.range h (o.sm_at)) Try.underlying31 rfl (Try.sumSz' o.sm A4)) hH ?_
      refine wpAnyH_ready (rs := [5]) (by kernel_rfl) (by simp) ?_
      refine AllReadyH.cons rfl (fun K hK => ?_) AllReadyH.nil
      go_simp
      refine Calls.mono ((H1.out.drew).go (fun cs v s hv => wSum_any s o.sm A4 (by simp; omega))) ?_
      rintro e w9 ⟨rfl, h9⟩
      refine hK.out _ _ (h9.blk B0.out (.inr rfl)) (fun _ => ?_)
      clear hK K hH
      refine wpAnyH_done (by kernel_rfl) ?_ _
      have H2 : Hid _ := h9
      clear h9
      have F : Hid (WB w0 w9 Av p t (l ++ o.bytes)) := by
        have h9 := H.out.leave CW.out H2.out
        have e : l ++ o.bytes = l ++ [o.ki % 256] ++ o.sm := by rw [Oc.bytes, BD.out]; simp
        rw [e]
        exact h9
      go_wp2_with fail
      go_end0
      exact ⟨rfl, F.out⟩
    · by_cases e45 : o.ki = 4 ∨ o.ki = 5
      · have BD : Hid (o.body = o.nb ++ o.sm) := by show _ = _; rw [Oc.body, if_neg e1, if_neg e2, if_pos e45]
        have LBD : o.body.length = o.nb.length + 32 := by rw [BD.out, List.length_append, A4]
        have D0 : Hid (Blk w1 X o.cells 220) := H1.out.blk B0.out (.inr rfl)
        have OI1 : Hid (OcIn W (AvX Av X) o) := OI.out.mono (fun g e => .inl e)
        clear e1 e2
        rcases e45 with e4 | e4
        · rw [e4] at k0
          clear e4
          go_upto_region 10 with (first
            | refine wpList_load_part rfl 220 (.tmp 3) rfl X 0 o.cells rfl D0.out (by simp) Try.underlying220 rfl (Try.opSz o A4) ?_
            | (go_at_call 159; refine Calls.mono (wNb_any H1.out OI1.out (by simp; omega)) ?_; rintro e w2 ⟨rfl, h6⟩; have H2 : Hid _ := h6; clear h6))
          go_upto_region 10 with fail
          refine wp_region_held_drew (S := fun w' => Blk w' X o.cells 220) (by kernel_rfl) (Blk.drew (H2.out.blk B0.out (.inr rfl))) (fun hH => ?_)
          refine wpAnyH_take (i := 0) (v := .pointer (some ⟨p, 0, none⟩)) rfl (by kernel_rfl) (by kernel_rfl) (by kernel_rfl) (fun _ _ _ h => h) (Or.inl ⟨by rfl, fun w' _ => by go_simp⟩) hH ?_
          refine wpAnyH_take (i := 1) (v := .pointer (some ⟨p, 0, none⟩)) rfl (by kernel_rfl) (by kernel_rfl) (by kernel_rfl) (fun _ _ _ h => h) (Or.inl ⟨by rfl, fun w' _ => by go_simp⟩) hH ?_
          refine wpAnyH_take (i := 2) (v := .pointer (some ⟨p, 0, none⟩)) rfl (by kernel_rfl) (by kernel_rfl) (by kernel_rfl) (fun _ _ _ h => h) (Or.inl ⟨by rfl, fun w' _ => by go_simp⟩) hH ?_
          refine wpAnyH_take (i := 3) (v := .pointer (some ⟨X, 4, none⟩)) rfl (by kernel_rfl) (by kernel_rfl) (by kernel_rfl) (fun _ _ _ h => h) (Or.inl ⟨by rfl, fun w' _ => by go_simp⟩) hH ?_
          refine wpAnyH_take (i := 4) (v := .agg (bs o.sm).toArray) rfl (by kernel_rfl) (by kernel_rfl) (by kernel_rfl) (fun _ _ _ h => h) (yieldsIf_load_mid (by rfl) _ _ rfl X 4 rfl _ _ (fun w' h => Blk.range h (o.sm_at)) Try.underlying31 rfl (Try.sumSz' o.sm A4)) hH ?_
          refine wpAnyH_ready (rs := [5]) (by kernel_rfl) (by simp) ?_
          refine AllReadyH.cons rfl (fun K hK => ?_) AllReadyH.nil
          go_simp
          refine Calls.mono ((H2.out.drew).go (fun cs v s hv => wSum_any s o.sm A4 (by simp; omega))) ?_
          rintro e w9 ⟨rfl, h9⟩
          refine hK.out _ _ (h9.blk B0.out (.inr rfl)) (fun _ => ?_)
          clear hK K hH
          refine wpAnyH_done (by kernel_rfl) ?_ _
          have H3 : Hid _ := h9
          clear h9
          have F : Hid (WB w0 w9 Av p t (l ++ o.bytes)) := by
            have h9 := H.out.leave CW.out H3.out
            have e : l ++ o.bytes = l ++ [o.ki % 256] ++ o.nb ++ o.sm := by rw [Oc.bytes, BD.out]; simp
            rw [e]
            exact h9
          go_wp2_with fail
          go_end0
          exact ⟨rfl, F.out⟩
        · rw [e4] at k0
          clear e4
          go_upto_region 10 with (first
            | refine wpList_load_part rfl 220 (.tmp 3) rfl X 0 o.cells rfl D0.out (by simp) Try.underlying220 rfl (Try.opSz o A4) ?_
            | (go_at_call 159; refine Calls.mono (wNb_any H1.out OI1.out (by simp; omega)) ?_; rintro e w2 ⟨rfl, h6⟩; have H2 : Hid _ := h6; clear h6))
          go_upto_region 10 with fail
          refine wp_region_held_drew (S := fun w' => Blk w' X o.cells 220) (by kernel_rfl) (Blk.drew (H2.out.blk B0.out (.inr rfl))) (fun hH => ?_)
          refine wpAnyH_take (i := 0) (v := .pointer (some ⟨p, 0, none⟩)) rfl (by kernel_rfl) (by kernel_rfl) (by kernel_rfl) (fun _ _ _ h => h) (Or.inl ⟨by rfl, fun w' _ => by go_simp⟩) hH ?_
          refine wpAnyH_take (i := 1) (v := .pointer (some ⟨p, 0, none⟩)) rfl (by kernel_rfl) (by kernel_rfl) (by kernel_rfl) (fun _ _ _ h => h) (Or.inl ⟨by rfl, fun w' _ => by go_simp⟩) hH ?_
          refine wpAnyH_take (i := 2) (v := .pointer (some ⟨p, 0, none⟩)) rfl (by kernel_rfl) (by kernel_rfl) (by kernel_rfl) (fun _ _ _ h => h) (Or.inl ⟨by rfl, fun w' _ => by go_simp⟩) hH ?_
          refine wpAnyH_take (i := 3) (v := .pointer (some ⟨X, 4, none⟩)) rfl (by kernel_rfl) (by kernel_rfl) (by kernel_rfl) (fun _ _ _ h => h) (Or.inl ⟨by rfl, fun w' _ => by go_simp⟩) hH ?_
          refine wpAnyH_take (i := 4) (v := .agg (bs o.sm).toArray) rfl (by kernel_rfl) (by kernel_rfl) (by kernel_rfl) (fun _ _ _ h => h) (yieldsIf_load_mid (by rfl) _ _ rfl X 4 rfl _ _ (fun w' h => Blk.range h (o.sm_at)) Try.underlying31 rfl (Try.sumSz' o.sm A4)) hH ?_
          refine wpAnyH_ready (rs := [5]) (by kernel_rfl) (by simp) ?_
          refine AllReadyH.cons rfl (fun K hK => ?_) AllReadyH.nil
          go_simp
          refine Calls.mono ((H2.out.drew).go (fun cs v s hv => wSum_any s o.sm A4 (by simp; omega))) ?_
          rintro e w9 ⟨rfl, h9⟩
          refine hK.out _ _ (h9.blk B0.out (.inr rfl)) (fun _ => ?_)
          clear hK K hH
          refine wpAnyH_done (by kernel_rfl) ?_ _
          have H3 : Hid _ := h9
          clear h9
          have F : Hid (WB w0 w9 Av p t (l ++ o.bytes)) := by
            have h9 := H.out.leave CW.out H3.out
            have e : l ++ o.bytes = l ++ [o.ki % 256] ++ o.nb ++ o.sm := by rw [Oc.bytes, BD.out]; simp
            rw [e]
            exact h9
          go_wp2_with fail
          go_end0
          exact ⟨rfl, F.out⟩
      · have e4 : ¬ o.ki = 4 := fun e => e45 (.inl e)
        have e5 : ¬ o.ki = 5 := fun e => e45 (.inr e)
        clear e45
        by_cases e6 : o.ki = 6
        · have BD : Hid (o.body = o.nb) := by show _ = _; rw [Oc.body, if_neg e1, if_neg e2, if_neg (by omega), if_pos e6]
          have LBD : o.body.length = o.nb.length := by rw [BD.out]
          have D0 : Hid (Blk w1 X o.cells 220) := H1.out.blk B0.out (.inr rfl)
          have OI1 : Hid (OcIn W (AvX Av X) o) := OI.out.mono (fun g e => .inl e)
          rw [e6] at k0
          clear e1 e2 e4 e5 e6
          go_wp2_with (first
            | refine wpList_load_part rfl 220 (.tmp 3) rfl X 0 o.cells rfl D0.out (by simp) Try.underlying220 rfl (Try.opSz o A4) ?_
            | (go_at_call 159; refine Calls.mono (wNb_any H1.out OI1.out (by simp; omega)) ?_; rintro e w2 ⟨rfl, h6⟩; have H2 : Hid _ := h6; clear h6))
          have F : Hid (WB w0 w2 Av p t (l ++ o.bytes)) := by
            have h9 := H.out.leave CW.out H2.out
            have e : l ++ o.bytes = l ++ [o.ki % 256] ++ o.nb := by rw [Oc.bytes, BD.out]; simp
            rw [e]
            exact h9
          go_end0
          exact ⟨rfl, F.out⟩
        · have F : Hid (WB w0 w1 Av p t (l ++ o.bytes)) := by
            have h9 := H.out.leave CW.out H1.out
            have e : l ++ o.bytes = l ++ [o.ki % 256] := by rw [Oc.bytes, Oc.body, if_neg e1, if_neg e2, if_neg (by omega), if_neg e6]; simp
            rw [e]
            exact h9
          have q1 : (o.ki == 1) = false := by simpa using e1
          have q2 : (o.ki == 2) = false := by simpa using e2
          have q4 : (o.ki == 4) = false := by simpa using e4
          have q5 : (o.ki == 5) = false := by simpa using e5
          have q6 : (o.ki == 6) = false := by simpa using e6
          go_wp2_with fail
          go_end0
          exact ⟨rfl, F.out⟩
end Go.Proofs.Ytjmeaebehndheaa
