/-
  The writing of messages.
-/
import Derived.Test.YtjmeaebehndheaaMsP
import Derived.Test.YtjmeaebehndheaaPrC
namespace Go.Proofs.Ytjmeaebehndheaa
open Go.RowKit

/-- A message. -/
structure Msg where
  ki : Int
  ver : Nat
  oth : Nat
  sp : Sp
  hs : Nat
  hl : List Int
  lb : List Int
  ct : Nat
  co : Int
  bo : Tx
  pa : Option Addr
  pn : Nat
  pc : Nat
  ps : Nat → List Int
  ca : Option Addr
  cn : Nat
  cc : Nat
  cs : Nat → Cg
def Msg.tail (o : Msg) : List Value := [.int .u64 o.ct, .int .i64 o.co, o.bo.val, .slice o.pa o.pn o.pc, .slice o.ca o.cn o.cc]
def Msg.cells (o : Msg) : List Value := .int .i64 o.ki :: .int .u64 o.ver :: .int .u64 o.oth :: o.sp.lo.val :: o.sp.hi.val :: .bool o.sp.op :: .int .u64 o.hs :: (bs o.hl ++ (bs o.lb ++ o.tail))
def Msg.body (o : Msg) : List Int :=
  if o.ki = 2 then numB o.ver ++ o.sp.bytes else if o.ki = 3 then numB o.ver else if o.ki = 4 then numB o.oth else if o.ki = 5 then numB o.oth ++ numB o.ver
  else if o.ki = 11 then numB o.ver ++ (o.lb ++ (numB o.ct ++ (numB o.hs ++ o.hl))) else if o.ki = 12 then o.bo.bytes
  else if o.ki = 13 ∨ o.ki = 14 then numB o.pn ++ recsB o.ps o.pn else if o.ki = 15 then numB o.cn ++ recsB (fun i => (o.cs i).bytes) o.cn
  else if o.ki = 19 then numB (u64 o.co) else []
def Msg.bytes (o : Msg) : List Int := [o.ki % 256] ++ o.body
structure MsIn (w : World) (Av : Nat → Prop) (o : Msg) : Prop where
  ki : -9223372036854775808 ≤ o.ki ∧ o.ki ≤ 9223372036854775807
  ver : o.ver < 18446744073709551616
  oth : o.oth < 18446744073709551616
  hs : o.hs < 18446744073709551616
  ct : o.ct < 18446744073709551616
  sp : SpIn w Av o.sp
  hl : o.hl.length = 32
  lb : o.lb.length = 32
  bo : TxIn w Av o.bo
  pn : o.pn ≤ 9223372036854775807
  pr : RowsIn w Av o.pa o.pn 32 (fun i => bs (o.ps i))
  pl : ∀ i, i < o.pn → (o.ps i).length = 32
  cn : o.cn ≤ 9223372036854775807
  cr : RowsIn w Av o.ca o.cn 5 (fun i => (o.cs i).cells)
  ci : ∀ i, i < o.cn → CgIn w Av (o.cs i)
theorem MsIn.kept {w w' : World} {Av : Nat → Prop} {o : Msg} (h : MsIn w Av o) {S : Nat → Prop} (c : Chg S w w') (hS : ∀ g, Av g → ¬ S g) : MsIn w' Av o :=
  ⟨h.ki, h.ver, h.oth, h.hs, h.ct, h.sp.kept c hS, h.hl, h.lb, h.bo.kept c hS, h.pn, h.pr.kept c hS, h.pl, h.cn, h.cr.kept c hS, fun i hi => (h.ci i hi).kept c hS⟩
theorem MsIn.mono {w : World} {Av Av' : Nat → Prop} {o : Msg} (h : MsIn w Av o) (hA : ∀ g, Av g → Av' g) : MsIn w Av' o :=
  ⟨h.ki, h.ver, h.oth, h.hs, h.ct, h.sp.mono hA, h.hl, h.lb, h.bo.mono hA, h.pn, h.pr.mono hA, h.pl, h.cn, h.cr.mono hA, fun i hi => (h.ci i hi).mono hA⟩
theorem MsIn.keep0 {w w' : World} {o : Msg} (h : MsIn w (fun g => g < w.heap.size) o) (b : Below w.heap.size w w') : MsIn w' (fun g => g < w'.heap.size) o :=
  (h.kept (Chg.of_below b (fun _ => False)) (fun _ _ e => e)).mono (fun _ e => Nat.lt_of_lt_of_le e b.size)
theorem Msg.hl_at (o : Msg) : (o.cells.drop 7).take (bs o.hl).length = bs o.hl := by simp [Msg.cells]
theorem Msg.lb_at (o : Msg) (h : o.hl.length = 32) : (o.cells.drop 39).take (bs o.lb).length = bs o.lb := by
  have h1 : (bs o.hl).length = 32 := by rw [bs_len, h]
  show ((bs o.hl ++ (bs o.lb ++ o.tail)).drop 32).take _ = _
  rw [List.drop_append, h1, List.drop_of_length_le (l := bs o.hl) (by omega)]
  simp
theorem Msg.sp_at (o : Msg) : (o.cells.drop 3).take o.sp.cells.length = o.sp.cells := by simp [Msg.cells, Sp.cells]
theorem Msg.at (o : Msg) (h1 : o.hl.length = 32) (h2 : o.lb.length = 32) (k : Nat) : o.cells[71 + k]? = o.tail[k]? := by
  rw [show 71 + k = (64 + k) + 7 by omega]
  simp only [Msg.cells, List.getElem?_cons_succ]
  rw [List.getElem?_append_right (by rw [bs_len]; omega), List.getElem?_append_right (by rw [bs_len, bs_len]; omega), bs_len, bs_len, h1, h2, show 64 + k - 32 - 32 = k by omega]
theorem Msg.len (o : Msg) (h1 : o.hl.length = 32) (h2 : o.lb.length = 32) : o.cells.length = 76 := by simp [Msg.cells, Msg.tail, bs_len, h1, h2]

set_option maxRecDepth 100000 in
set_option maxHeartbeats 16000000 in
theorem wMsg_any {w0 w : World} {Av : Nat → Prop} {p : Nat} {t : TypeId} {l : List Int} (h : WB w0 w Av p t l) {o : Msg} (hO : MsIn w0 Av o) (hl : l.length + o.bytes.length + 60 ≤ 140737488355328) :
    Calls Try.prog 152 #[.agg o.cells.toArray, .pointer (some ⟨p, 0, none⟩)] w fun e w' => e = .returned (.tuple #[]) ∧ WB w0 w' Av p t (l ++ o.bytes) := by
  obtain ⟨X, hX⟩ : ∃ X, X = w.heap.size := ⟨_, rfl⟩
  obtain ⟨W, hW⟩ : ∃ W, W = w.alloc (.cells o.cells.toArray 170) := ⟨_, rfl⟩
  have cW : Chg (fun _ => False) w W := by rw [hW]; exact (Chg.refl _ _).alloc _
  have b0 : Blk W X o.cells 170 := by rw [hW, hX]; exact Blk.made _ _ _
  have h0 : WB W W (AvX Av X) p t l := by rw [hX]; exact h.box cW (by rw [hW]; simp)
  have H : Hid _ := h
  have CW : Hid _ := cW
  have B0 : Hid _ := b0
  have H0 : Hid _ := h0
  have OI : Hid (MsIn W Av o) := (hO.kept h.ch (fun g ha e => e ha)).kept cW (fun _ _ e => e)
  have PX : p ≠ X := by have := h.pw; omega
  have A1 := hO.ki
  have A2 := hO.ver
  have A3 := hO.oth
  have A4 := hO.hs
  have A5 := hO.ct
  have A6 := hO.hl
  have A7 := hO.lb
  have A8 := hO.pn
  have A9 := hO.cn
  have n1 := numB_ten A2
  have n2 := numB_ten A3
  have n3 := numB_ten A4
  have n4 := numB_ten A5
  have T1 := o.bo.bytes_le hO.bo.le
  have LB : o.bytes.length = 1 + o.body.length := by simp [Msg.bytes]; omega
  clear h cW b0 h0 hO
  go_enter Try.func152, Try.ntmps152
  go_upto_region 1 with fail
  rw [← hX, ← hW]
  clear hX hW
  go_upto_region 1 with fail
  refine wp_region_held_drew (S := fun w' => Blk w' X o.cells 170) (by kernel_rfl) (Blk.drew (H0.out.blk B0.out (.inr rfl))) (fun hH => ?_)
  refine wpAnyH_take (i := 0) (v := .pointer (some ⟨p, 0, none⟩)) rfl (by kernel_rfl) (by kernel_rfl) (by kernel_rfl) (fun _ _ _ h => h) (Or.inl ⟨by rfl, fun w' _ => by go_simp⟩) hH ?_
  refine wpAnyH_take (i := 1) (v := .pointer (some ⟨p, 0, none⟩)) rfl (by kernel_rfl) (by kernel_rfl) (by kernel_rfl) (fun _ _ _ h => h) (Or.inl ⟨by rfl, fun w' _ => by go_simp⟩) hH ?_
  refine wpAnyH_take (i := 2) (v := .pointer (some ⟨p, 0, none⟩)) rfl (by kernel_rfl) (by kernel_rfl) (by kernel_rfl) (fun _ _ _ h => h) (Or.inl ⟨by rfl, fun w' _ => by go_simp⟩) hH ?_
  refine wpAnyH_take (i := 3) (v := .pointer (some ⟨X, 0, none⟩)) rfl (by kernel_rfl) (by kernel_rfl) (by kernel_rfl) (fun _ _ _ h => h) (Or.inl ⟨by rfl, fun w' _ => by go_simp⟩) hH ?_
  refine wpAnyH_take (i := 4) (v := .int .i64 o.ki) rfl (by kernel_rfl) (by kernel_rfl) (by kernel_rfl) (fun _ _ _ h => h) (Or.inl ⟨by rfl, fun w' hw' => by have h2 : w'.cell? ⟨X, 0, none⟩ = some (.int .i64 o.ki) := Blk.cell hw' 0; go_simp⟩) hH ?_
  refine wpAnyH_take (i := 5) (v := .int .u8 (o.ki % 256)) rfl (by kernel_rfl) (by kernel_rfl) (by kernel_rfl) (fun _ _ _ h => h) (Or.inl ⟨by rfl, fun w' _ => by go_simp; first | rfl | simp [IntKind.wrap_u8] | simp [IntKind.wrap]⟩) hH ?_
  refine wpAnyH_ready (rs := [6]) (by kernel_rfl) (by simp) ?_
  refine AllReadyH.cons rfl (fun K hK => ?_) AllReadyH.nil
  go_simp
  refine Calls.mono ((H0.out.drew).go (fun cs v s hv => wByte_any s (o.ki % 256) (by omega))) ?_
  rintro e w9 ⟨rfl, h9⟩
  refine hK.out _ _ (h9.blk B0.out (.inr rfl)) (fun _ => ?_)
  clear hK K hH
  refine wpAnyH_done (by kernel_rfl) ?_ _
  have H1 : Hid _ := h9
  clear h9
  obtain ⟨w1, hw1⟩ : ∃ w1, w1 = w9 := ⟨_, rfl⟩
  rw [← hw1] at H1 ⊢
  clear hw1
  have k0 : w1.cell? ⟨X, 0, none⟩ = some (.int .i64 o.ki) := (H1.out.blk B0.out (.inr rfl)).cell 0
  by_cases e2 : o.ki = 2
  · have BD : Hid (o.bytes = [o.ki % 256] ++ (numB o.ver ++ o.sp.bytes)) := by show _ = _; rw [Msg.bytes, Msg.body, if_pos e2]
    have LBD : o.body.length = (numB o.ver ++ o.sp.bytes).length := by have h9 := BD.out; rw [Msg.bytes] at h9; exact congrArg List.length (List.append_cancel_left h9)
    rw [e2] at k0
    clear e2
    go_upto_region 4 with fail
    refine wp_region_held_drew (S := fun w' => Blk w' X o.cells 170) (by kernel_rfl) (Blk.drew (H1.out.blk B0.out (.inr rfl))) (fun hH => ?_)
    refine wpAnyH_take (i := 0) (v := .pointer (some ⟨p, 0, none⟩)) rfl (by kernel_rfl) (by kernel_rfl) (by kernel_rfl) (fun _ _ _ h => h) (Or.inl ⟨by rfl, fun w' _ => by go_simp⟩) hH ?_
    refine wpAnyH_take (i := 1) (v := .pointer (some ⟨p, 0, none⟩)) rfl (by kernel_rfl) (by kernel_rfl) (by kernel_rfl) (fun _ _ _ h => h) (Or.inl ⟨by rfl, fun w' _ => by go_simp⟩) hH ?_
    refine wpAnyH_take (i := 2) (v := .pointer (some ⟨p, 0, none⟩)) rfl (by kernel_rfl) (by kernel_rfl) (by kernel_rfl) (fun _ _ _ h => h) (Or.inl ⟨by rfl, fun w' _ => by go_simp⟩) hH ?_
    refine wpAnyH_take (i := 3) (v := .pointer (some ⟨X, 1, none⟩)) rfl (by kernel_rfl) (by kernel_rfl) (by kernel_rfl) (fun _ _ _ h => h) (Or.inl ⟨by rfl, fun w' _ => by go_simp⟩) hH ?_
    refine wpAnyH_take (i := 4) (v := .int .u64 o.ver) rfl (by kernel_rfl) (by kernel_rfl) (by kernel_rfl) (fun _ _ _ h => h) (Or.inl ⟨by rfl, fun w' hw' => by have h2 : w'.cell? ⟨X, 1, none⟩ = some (.int .u64 o.ver) := Blk.cell hw' 1; go_simp⟩) hH ?_
    refine wpAnyH_ready (rs := [5]) (by kernel_rfl) (by simp) ?_
    refine AllReadyH.cons rfl (fun K hK => ?_) AllReadyH.nil
    go_simp
    refine Calls.mono ((H1.out.drew).go (fun cs v s hv => wUint_any s o.ver A2 (by simp at LBD ⊢; omega))) ?_
    rintro e w9 ⟨rfl, h9⟩
    refine hK.out _ _ (h9.blk B0.out (.inr rfl)) (fun _ => ?_)
    clear hK K hH
    refine wpAnyH_done (by kernel_rfl) ?_ _
    have H2 : Hid _ := h9
    clear h9
    obtain ⟨w2, hw2⟩ : ∃ w2, w2 = w9 := ⟨_, rfl⟩
    rw [← hw2] at H2 ⊢
    clear hw2
    have D0 : Hid (Blk w2 X o.cells 170) := H2.out.blk B0.out (.inr rfl)
    have SI : Hid (SpIn W (AvX Av X) o.sp) := OI.out.sp.mono (fun g e => .inl e)
    clear k0
    go_wp2_with (first
      | refine wpList_load_part rfl 89 (.tmp 22) rfl X 3 o.sp.cells rfl D0.out o.sp_at Try.underlying89 rfl (Try.spSz _ _ _) ?_
      | (go_at_call 153; refine Calls.mono (wSpan_any H2.out SI.out (by simp at LBD ⊢; omega)) ?_; rintro e w3 ⟨rfl, h6⟩; have H3 : Hid _ := h6; clear h6))
    have F : Hid (WB w0 w3 Av p t (l ++ o.bytes)) := by
      have h9 := H.out.leave CW.out H3.out
      have e : l ++ o.bytes = l ++ [o.ki % 256] ++ numB o.ver ++ o.sp.bytes := by rw [BD.out]; simp
      rw [e]
      exact h9
    go_end0
    exact ⟨rfl, F.out⟩
  · by_cases e3 : o.ki = 3
    · have BD : Hid (o.bytes = [o.ki % 256] ++ (numB o.ver)) := by show _ = _; rw [Msg.bytes, Msg.body, if_neg e2, if_pos e3]
      have LBD : o.body.length = (numB o.ver).length := by have h9 := BD.out; rw [Msg.bytes] at h9; exact congrArg List.length (List.append_cancel_left h9)
      rw [e3] at k0
      clear e2 e3
      go_upto_region 7 with fail
      refine wp_region_held_drew (S := fun w' => Blk w' X o.cells 170) (by kernel_rfl) (Blk.drew (H1.out.blk B0.out (.inr rfl))) (fun hH => ?_)
      refine wpAnyH_take (i := 0) (v := .pointer (some ⟨p, 0, none⟩)) rfl (by kernel_rfl) (by kernel_rfl) (by kernel_rfl) (fun _ _ _ h => h) (Or.inl ⟨by rfl, fun w' _ => by go_simp⟩) hH ?_
      refine wpAnyH_take (i := 1) (v := .pointer (some ⟨p, 0, none⟩)) rfl (by kernel_rfl) (by kernel_rfl) (by kernel_rfl) (fun _ _ _ h => h) (Or.inl ⟨by rfl, fun w' _ => by go_simp⟩) hH ?_
      refine wpAnyH_take (i := 2) (v := .pointer (some ⟨p, 0, none⟩)) rfl (by kernel_rfl) (by kernel_rfl) (by kernel_rfl) (fun _ _ _ h => h) (Or.inl ⟨by rfl, fun w' _ => by go_simp⟩) hH ?_
      refine wpAnyH_take (i := 3) (v := .pointer (some ⟨X, 1, none⟩)) rfl (by kernel_rfl) (by kernel_rfl) (by kernel_rfl) (fun _ _ _ h => h) (Or.inl ⟨by rfl, fun w' _ => by go_simp⟩) hH ?_
      refine wpAnyH_take (i := 4) (v := .int .u64 o.ver) rfl (by kernel_rfl) (by kernel_rfl) (by kernel_rfl) (fun _ _ _ h => h) (Or.inl ⟨by rfl, fun w' hw' => by have h2 : w'.cell? ⟨X, 1, none⟩ = some (.int .u64 o.ver) := Blk.cell hw' 1; go_simp⟩) hH ?_
      refine wpAnyH_ready (rs := [5]) (by kernel_rfl) (by simp) ?_
      refine AllReadyH.cons rfl (fun K hK => ?_) AllReadyH.nil
      go_simp
      refine Calls.mono ((H1.out.drew).go (fun cs v s hv => wUint_any s o.ver A2 (by simp at LBD ⊢; omega))) ?_
      rintro e w9 ⟨rfl, h9⟩
      refine hK.out _ _ (h9.blk B0.out (.inr rfl)) (fun _ => ?_)
      clear hK K hH
      refine wpAnyH_done (by kernel_rfl) ?_ _
      have H2 : Hid _ := h9
      clear h9
      have F : Hid (WB w0 w9 Av p t (l ++ o.bytes)) := by
        have h9 := H.out.leave CW.out H2.out
        have e : l ++ o.bytes = l ++ [o.ki % 256] ++ numB o.ver := by rw [BD.out]; simp
        rw [e]
        exact h9
      go_wp2_with fail
      go_end0
      exact ⟨rfl, F.out⟩
    · by_cases e4 : o.ki = 4
      · have BD : Hid (o.bytes = [o.ki % 256] ++ (numB o.oth)) := by show _ = _; rw [Msg.bytes, Msg.body, if_neg e2, if_neg e3, if_pos e4]
        have LBD : o.body.length = (numB o.oth).length := by have h9 := BD.out; rw [Msg.bytes] at h9; exact congrArg List.length (List.append_cancel_left h9)
        rw [e4] at k0
        clear e2 e3 e4
        go_upto_region 9 with fail
        refine wp_region_held_drew (S := fun w' => Blk w' X o.cells 170) (by kernel_rfl) (Blk.drew (H1.out.blk B0.out (.inr rfl))) (fun hH => ?_)
        refine wpAnyH_take (i := 0) (v := .pointer (some ⟨p, 0, none⟩)) rfl (by kernel_rfl) (by kernel_rfl) (by kernel_rfl) (fun _ _ _ h => h) (Or.inl ⟨by rfl, fun w' _ => by go_simp⟩) hH ?_
        refine wpAnyH_take (i := 1) (v := .pointer (some ⟨p, 0, none⟩)) rfl (by kernel_rfl) (by kernel_rfl) (by kernel_rfl) (fun _ _ _ h => h) (Or.inl ⟨by rfl, fun w' _ => by go_simp⟩) hH ?_
        refine wpAnyH_take (i := 2) (v := .pointer (some ⟨p, 0, none⟩)) rfl (by kernel_rfl) (by kernel_rfl) (by kernel_rfl) (fun _ _ _ h => h) (Or.inl ⟨by rfl, fun w' _ => by go_simp⟩) hH ?_
        refine wpAnyH_take (i := 3) (v := .pointer (some ⟨X, 2, none⟩)) rfl (by kernel_rfl) (by kernel_rfl) (by kernel_rfl) (fun _ _ _ h => h) (Or.inl ⟨by rfl, fun w' _ => by go_simp⟩) hH ?_
        refine wpAnyH_take (i := 4) (v := .int .u64 o.oth) rfl (by kernel_rfl) (by kernel_rfl) (by kernel_rfl) (fun _ _ _ h => h) (Or.inl ⟨by rfl, fun w' hw' => by have h2 : w'.cell? ⟨X, 2, none⟩ = some (.int .u64 o.oth) := Blk.cell hw' 2; go_simp⟩) hH ?_
        refine wpAnyH_ready (rs := [5]) (by kernel_rfl) (by simp) ?_
        refine AllReadyH.cons rfl (fun K hK => ?_) AllReadyH.nil
        go_simp
        refine Calls.mono ((H1.out.drew).go (fun cs v s hv => wUint_any s o.oth A3 (by simp at LBD ⊢; omega))) ?_
        rintro e w9 ⟨rfl, h9⟩
        refine hK.out _ _ (h9.blk B0.out (.inr rfl)) (fun _ => ?_)
        clear hK K hH
        refine wpAnyH_done (by kernel_rfl) ?_ _
        have H2 : Hid _ := h9
        clear h9
        have F : Hid (WB w0 w9 Av p t (l ++ o.bytes)) := by
          have h9 := H.out.leave CW.out H2.out
          have e : l ++ o.bytes = l ++ [o.ki % 256] ++ numB o.oth := by rw [BD.out]; simp
          rw [e]
          exact h9
        go_wp2_with fail
        go_end0
        exact ⟨rfl, F.out⟩
      · by_cases e5 : o.ki = 5
        · have BD : Hid (o.bytes = [o.ki % 256] ++ (numB o.oth ++ numB o.ver)) := by show _ = _; rw [Msg.bytes, Msg.body, if_neg e2, if_neg e3, if_neg e4, if_pos e5]
          have LBD : o.body.length = (numB o.oth ++ numB o.ver).length := by have h9 := BD.out; rw [Msg.bytes] at h9; exact congrArg List.length (List.append_cancel_left h9)
          rw [e5] at k0
          clear e2 e3 e4 e5
          go_upto_region 11 with fail
          refine wp_region_held_drew (S := fun w' => Blk w' X o.cells 170) (by kernel_rfl) (Blk.drew (H1.out.blk B0.out (.inr rfl))) (fun hH => ?_)
          refine wpAnyH_take (i := 0) (v := .pointer (some ⟨p, 0, none⟩)) rfl (by kernel_rfl) (by kernel_rfl) (by kernel_rfl) (fun _ _ _ h => h) (Or.inl ⟨by rfl, fun w' _ => by go_simp⟩) hH ?_
          refine wpAnyH_take (i := 1) (v := .pointer (some ⟨p, 0, none⟩)) rfl (by kernel_rfl) (by kernel_rfl) (by kernel_rfl) (fun _ _ _ h => h) (Or.inl ⟨by rfl, fun w' _ => by go_simp⟩) hH ?_
          refine wpAnyH_take (i := 2) (v := .pointer (some ⟨p, 0, none⟩)) rfl (by kernel_rfl) (by kernel_rfl) (by kernel_rfl) (fun _ _ _ h => h) (Or.inl ⟨by rfl, fun w' _ => by go_simp⟩) hH ?_
          refine wpAnyH_take (i := 3) (v := .pointer (some ⟨X, 2, none⟩)) rfl (by kernel_rfl) (by kernel_rfl) (by kernel_rfl) (fun _ _ _ h => h) (Or.inl ⟨by rfl, fun w' _ => by go_simp⟩) hH ?_
          refine wpAnyH_take (i := 4) (v := .int .u64 o.oth) rfl (by kernel_rfl) (by kernel_rfl) (by kernel_rfl) (fun _ _ _ h => h) (Or.inl ⟨by rfl, fun w' hw' => by have h2 : w'.cell? ⟨X, 2, none⟩ = some (.int .u64 o.oth) := Blk.cell hw' 2; go_simp⟩) hH ?_
          refine wpAnyH_ready (rs := [5]) (by kernel_rfl) (by simp) ?_
          refine AllReadyH.cons rfl (fun K hK => ?_) AllReadyH.nil
          go_simp
          refine Calls.mono ((H1.out.drew).go (fun cs v s hv => wUint_any s o.oth A3 (by simp at LBD ⊢; omega))) ?_
          rintro e w9 ⟨rfl, h9⟩
          refine hK.out _ _ (h9.blk B0.out (.inr rfl)) (fun _ => ?_)
          clear hK K hH
          refine wpAnyH_done (by kernel_rfl) ?_ _
          have H2 : Hid _ := h9
          clear h9
          go_upto_region 12 with fail
          refine wp_region_held_drew (S := fun w' => Blk w' X o.cells 170) (by kernel_rfl) (Blk.drew (H2.out.blk B0.out (.inr rfl))) (fun hH => ?_)
          refine wpAnyH_take (i := 0) (v := .pointer (some ⟨p, 0, none⟩)) rfl (by kernel_rfl) (by kernel_rfl) (by kernel_rfl) (fun _ _ _ h => h) (Or.inl ⟨by rfl, fun w' _ => by go_simp⟩) hH ?_
          refine wpAnyH_take (i := 1) (v := .pointer (some ⟨p, 0, none⟩)) rfl (by kernel_rfl) (by kernel_rfl) (by kernel_rfl) (fun _ _ _ h => h) (Or.inl ⟨by rfl, fun w' _ => by go_simp⟩) hH ?_
          refine wpAnyH_take (i := 2) (v := .pointer (some ⟨p, 0, none⟩)) rfl (by kernel_rfl) (by kernel_rfl) (by kernel_rfl) (fun _ _ _ h => h) (Or.inl ⟨by rfl, fun w' _ => by go_simp⟩) hH ?_
          refine wpAnyH_take (i := 3) (v := .pointer (some ⟨X, 1, none⟩)) rfl (by kernel_rfl) (by kernel_rfl) (by kernel_rfl) (fun _ _ _ h => h) (Or.inl ⟨by rfl, fun w' _ => by go_simp⟩) hH ?_
          refine wpAnyH_take (i := 4) (v := .int .u64 o.ver) rfl (by kernel_rfl) (by kernel_rfl) (by kernel_rfl) (fun _ _ _ h => h) (Or.inl ⟨by rfl, fun w' hw' => by have h2 : w'.cell? ⟨X, 1, none⟩ = some (.int .u64 o.ver) := Blk.cell hw' 1; go_simp⟩) hH ?_
          refine wpAnyH_ready (rs := [5]) (by kernel_rfl) (by simp) ?_
          refine AllReadyH.cons rfl (fun K hK => ?_) AllReadyH.nil
          go_simp
          refine Calls.mono ((H2.out.drew).go (fun cs v s hv => wUint_any s o.ver A2 (by simp at LBD ⊢; omega))) ?_
          rintro e w9 ⟨rfl, h9⟩
          refine hK.out _ _ (h9.blk B0.out (.inr rfl)) (fun _ => ?_)
          clear hK K hH
          refine wpAnyH_done (by kernel_rfl) ?_ _
          have H3 : Hid _ := h9
          clear h9
          have F : Hid (WB w0 w9 Av p t (l ++ o.bytes)) := by
            have h9 := H.out.leave CW.out H3.out
            have e : l ++ o.bytes = l ++ [o.ki % 256] ++ numB o.oth ++ numB o.ver := by rw [BD.out]; simp
            rw [e]
            exact h9
          go_wp2_with fail
          go_end0
          exact ⟨rfl, F.out⟩
        · by_cases e11 : o.ki = 11
          · have BD : Hid (o.bytes = [o.ki % 256] ++ (numB o.ver ++ (o.lb ++ (numB o.ct ++ (numB o.hs ++ o.hl))))) := by show _ = _; rw [Msg.bytes, Msg.body, if_neg e2, if_neg e3, if_neg e4, if_neg e5, if_pos e11]
            have LBD : o.body.length = (numB o.ver ++ (o.lb ++ (numB o.ct ++ (numB o.hs ++ o.hl)))).length := by have h9 := BD.out; rw [Msg.bytes] at h9; exact congrArg List.length (List.append_cancel_left h9)
            rw [e11] at k0
            clear e2 e3 e4 e5 e11
            go_upto_region 14 with fail
            refine wp_region_held_drew (S := fun w' => Blk w' X o.cells 170) (by kernel_rfl) (Blk.drew (H1.out.blk B0.out (.inr rfl))) (fun hH => ?_)
            refine wpAnyH_take (i := 0) (v := .pointer (some ⟨p, 0, none⟩)) rfl (by kernel_rfl) (by kernel_rfl) (by kernel_rfl) (fun _ _ _ h => h) (Or.inl ⟨by rfl, fun w' _ => by go_simp⟩) hH ?_
            refine wpAnyH_take (i := 1) (v := .pointer (some ⟨p, 0, none⟩)) rfl (by kernel_rfl) (by kernel_rfl) (by kernel_rfl) (fun _ _ _ h => h) (Or.inl ⟨by rfl, fun w' _ => by go_simp⟩) hH ?_
            refine wpAnyH_take (i := 2) (v := .pointer (some ⟨p, 0, none⟩)) rfl (by kernel_rfl) (by kernel_rfl) (by kernel_rfl) (fun _ _ _ h => h) (Or.inl ⟨by rfl, fun w' _ => by go_simp⟩) hH ?_
            refine wpAnyH_take (i := 3) (v := .pointer (some ⟨X, 1, none⟩)) rfl (by kernel_rfl) (by kernel_rfl) (by kernel_rfl) (fun _ _ _ h => h) (Or.inl ⟨by rfl, fun w' _ => by go_simp⟩) hH ?_
            refine wpAnyH_take (i := 4) (v := .int .u64 o.ver) rfl (by kernel_rfl) (by kernel_rfl) (by kernel_rfl) (fun _ _ _ h => h) (Or.inl ⟨by rfl, fun w' hw' => by have h2 : w'.cell? ⟨X, 1, none⟩ = some (.int .u64 o.ver) := Blk.cell hw' 1; go_simp⟩) hH ?_
            refine wpAnyH_ready (rs := [5]) (by kernel_rfl) (by simp) ?_
            refine AllReadyH.cons rfl (fun K hK => ?_) AllReadyH.nil
            go_simp
            refine Calls.mono ((H1.out.drew).go (fun cs v s hv => wUint_any s o.ver A2 (by simp at LBD ⊢; omega))) ?_
            rintro e w9 ⟨rfl, h9⟩
            refine hK.out _ _ (h9.blk B0.out (.inr rfl)) (fun _ => ?_)
            clear hK K hH
            refine wpAnyH_done (by kernel_rfl) ?_ _
            have H2 : Hid _ := h9
            clear h9
            go_upto_region 15 with fail
            refine wp_region_held_drew (S := fun w' => Blk w' X o.cells 170) (by kernel_rfl) (Blk.drew (H2.out.blk B0.out (.inr rfl))) (fun hH => ?_)
            refine wpAnyH_take (i := 0) (v := .pointer (some ⟨p, 0, none⟩)) rfl (by kernel_rfl) (by kernel_rfl) (by kernel_rfl) (fun _ _ _ h => h) (Or.inl ⟨by rfl, fun w' _ => by go_simp⟩) hH ?_
            refine wpAnyH_take (i := 1) (v := .pointer (some ⟨p, 0, none⟩)) rfl (by kernel_rfl) (by kernel_rfl) (by kernel_rfl) (fun _ _ _ h => h) (Or.inl ⟨by rfl, fun w' _ => by go_simp⟩) hH ?_
            refine wpAnyH_take (i := 2) (v := .pointer (some ⟨p, 0, none⟩)) rfl (by kernel_rfl) (by kernel_rfl) (by kernel_rfl) (fun _ _ _ h => h) (Or.inl ⟨by rfl, fun w' _ => by go_simp⟩) hH ?_
            refine wpAnyH_take (i := 3) (v := .pointer (some ⟨X, 39, none⟩)) rfl (by kernel_rfl) (by kernel_rfl) (by kernel_rfl) (fun _ _ _ h => h) (Or.inl ⟨by rfl, fun w' _ => by go_simp⟩) hH ?_
            refine wpAnyH_take (i := 4) (v := .agg (bs o.lb).toArray) rfl (by kernel_rfl) (by kernel_rfl) (by kernel_rfl) (fun _ _ _ h => h) (yieldsIf_load_mid (by rfl) _ _ rfl X 39 rfl _ _ (fun w' h => Blk.range h (o.lb_at A6)) Try.underlying31 rfl (Try.sumSz' o.lb A7)) hH ?_
            refine wpAnyH_ready (rs := [5]) (by kernel_rfl) (by simp) ?_
            refine AllReadyH.cons rfl (fun K hK => ?_) AllReadyH.nil
            go_simp
            refine Calls.mono ((H2.out.drew).go (fun cs v s hv => wSum_any s o.lb A7 (by simp at LBD ⊢; omega))) ?_
            rintro e w9 ⟨rfl, h9⟩
            refine hK.out _ _ (h9.blk B0.out (.inr rfl)) (fun _ => ?_)
            clear hK K hH
            refine wpAnyH_done (by kernel_rfl) ?_ _
            have H3 : Hid _ := h9
            clear h9
            go_upto_region 16 with fail
            refine wp_region_held_drew (S := fun w' => Blk w' X o.cells 170) (by kernel_rfl) (Blk.drew (H3.out.blk B0.out (.inr rfl))) (fun hH => ?_)
            refine wpAnyH_take (i := 0) (v := .pointer (some ⟨p, 0, none⟩)) rfl (by kernel_rfl) (by kernel_rfl) (by kernel_rfl) (fun _ _ _ h => h) (Or.inl ⟨by rfl, fun w' _ => by go_simp⟩) hH ?_
            refine wpAnyH_take (i := 1) (v := .pointer (some ⟨p, 0, none⟩)) rfl (by kernel_rfl) (by kernel_rfl) (by kernel_rfl) (fun _ _ _ h => h) (Or.inl ⟨by rfl, fun w' _ => by go_simp⟩) hH ?_
            refine wpAnyH_take (i := 2) (v := .pointer (some ⟨p, 0, none⟩)) rfl (by kernel_rfl) (by kernel_rfl) (by kernel_rfl) (fun _ _ _ h => h) (Or.inl ⟨by rfl, fun w' _ => by go_simp⟩) hH ?_
            refine wpAnyH_take (i := 3) (v := .pointer (some ⟨X, 71, none⟩)) rfl (by kernel_rfl) (by kernel_rfl) (by kernel_rfl) (fun _ _ _ h => h) (Or.inl ⟨by rfl, fun w' _ => by go_simp⟩) hH ?_
            refine wpAnyH_take (i := 4) (v := .int .u64 o.ct) rfl (by kernel_rfl) (by kernel_rfl) (by kernel_rfl) (fun _ _ _ h => h) (Or.inl ⟨by rfl, fun w' hw' => by have h2 : w'.cell? ⟨X, 71, none⟩ = some (.int .u64 o.ct) := (by rw [Blk.cell hw']; exact o.at A6 A7 0); go_simp⟩) hH ?_
            refine wpAnyH_ready (rs := [5]) (by kernel_rfl) (by simp) ?_
            refine AllReadyH.cons rfl (fun K hK => ?_) AllReadyH.nil
            go_simp
            refine Calls.mono ((H3.out.drew).go (fun cs v s hv => wUint_any s o.ct A5 (by simp at LBD ⊢; omega))) ?_
            rintro e w9 ⟨rfl, h9⟩
            refine hK.out _ _ (h9.blk B0.out (.inr rfl)) (fun _ => ?_)
            clear hK K hH
            refine wpAnyH_done (by kernel_rfl) ?_ _
            have H4 : Hid _ := h9
            clear h9
            go_upto_region 17 with fail
            refine wp_region_held_drew (S := fun w' => Blk w' X o.cells 170) (by kernel_rfl) (Blk.drew (H4.out.blk B0.out (.inr rfl))) (fun hH => ?_)
            refine wpAnyH_take (i := 0) (v := .pointer (some ⟨p, 0, none⟩)) rfl (by kernel_rfl) (by kernel_rfl) (by kernel_rfl) (fun _ _ _ h => h) (Or.inl ⟨by rfl, fun w' _ => by go_simp⟩) hH ?_
            refine wpAnyH_take (i := 1) (v := .pointer (some ⟨p, 0, none⟩)) rfl (by kernel_rfl) (by kernel_rfl) (by kernel_rfl) (fun _ _ _ h => h) (Or.inl ⟨by rfl, fun w' _ => by go_simp⟩) hH ?_
            refine wpAnyH_take (i := 2) (v := .pointer (some ⟨p, 0, none⟩)) rfl (by kernel_rfl) (by kernel_rfl) (by kernel_rfl) (fun _ _ _ h => h) (Or.inl ⟨by rfl, fun w' _ => by go_simp⟩) hH ?_
            refine wpAnyH_take (i := 3) (v := .pointer (some ⟨X, 6, none⟩)) rfl (by kernel_rfl) (by kernel_rfl) (by kernel_rfl) (fun _ _ _ h => h) (Or.inl ⟨by rfl, fun w' _ => by go_simp⟩) hH ?_
            refine wpAnyH_take (i := 4) (v := .pointer (some ⟨X, 6, none⟩)) rfl (by kernel_rfl) (by kernel_rfl) (by kernel_rfl) (fun _ _ _ h => h) (Or.inl ⟨by rfl, fun w' _ => by go_simp⟩) hH ?_
            refine wpAnyH_take (i := 5) (v := .int .u64 o.hs) rfl (by kernel_rfl) (by kernel_rfl) (by kernel_rfl) (fun _ _ _ h => h) (Or.inl ⟨by rfl, fun w' hw' => by have h2 : w'.cell? ⟨X, 6, none⟩ = some (.int .u64 o.hs) := Blk.cell hw' 6; go_simp⟩) hH ?_
            refine wpAnyH_ready (rs := [6]) (by kernel_rfl) (by simp) ?_
            refine AllReadyH.cons rfl (fun K hK => ?_) AllReadyH.nil
            go_simp
            refine Calls.mono ((H4.out.drew).go (fun cs v s hv => wUint_any s o.hs A4 (by simp at LBD ⊢; omega))) ?_
            rintro e w9 ⟨rfl, h9⟩
            refine hK.out _ _ (h9.blk B0.out (.inr rfl)) (fun _ => ?_)
            clear hK K hH
            refine wpAnyH_done (by kernel_rfl) ?_ _
            have H5 : Hid _ := h9
            clear h9
            go_upto_region 18 with fail
            refine wp_region_held_drew (S := fun w' => Blk w' X o.cells 170) (by kernel_rfl) (Blk.drew (H5.out.blk B0.out (.inr rfl))) (fun hH => ?_)
            refine wpAnyH_take (i := 0) (v := .pointer (some ⟨p, 0, none⟩)) rfl (by kernel_rfl) (by kernel_rfl) (by kernel_rfl) (fun _ _ _ h => h) (Or.inl ⟨by rfl, fun w' _ => by go_simp⟩) hH ?_
            refine wpAnyH_take (i := 1) (v := .pointer (some ⟨p, 0, none⟩)) rfl (by kernel_rfl) (by kernel_rfl) (by kernel_rfl) (fun _ _ _ h => h) (Or.inl ⟨by rfl, fun w' _ => by go_simp⟩) hH ?_
            refine wpAnyH_take (i := 2) (v := .pointer (some ⟨p, 0, none⟩)) rfl (by kernel_rfl) (by kernel_rfl) (by kernel_rfl) (fun _ _ _ h => h) (Or.inl ⟨by rfl, fun w' _ => by go_simp⟩) hH ?_
            refine wpAnyH_take (i := 3) (v := .pointer (some ⟨X, 6, none⟩)) rfl (by kernel_rfl) (by kernel_rfl) (by kernel_rfl) (fun _ _ _ h => h) (Or.inl ⟨by rfl, fun w' _ => by go_simp⟩) hH ?_
            refine wpAnyH_take (i := 4) (v := .pointer (some ⟨X, 7, none⟩)) rfl (by kernel_rfl) (by kernel_rfl) (by kernel_rfl) (fun _ _ _ h => h) (Or.inl ⟨by rfl, fun w' _ => by go_simp⟩) hH ?_
            refine wpAnyH_take (i := 5) (v := .agg (bs o.hl).toArray) rfl (by kernel_rfl) (by kernel_rfl) (by kernel_rfl) (fun _ _ _ h => h) (yieldsIf_load_mid (by rfl) _ _ rfl X 7 rfl _ _ (fun w' h => Blk.range h (o.hl_at)) Try.underlying31 rfl (Try.sumSz' o.hl A6)) hH ?_
            refine wpAnyH_ready (rs := [6]) (by kernel_rfl) (by simp) ?_
            refine AllReadyH.cons rfl (fun K hK => ?_) AllReadyH.nil
            go_simp
            refine Calls.mono ((H5.out.drew).go (fun cs v s hv => wSum_any s o.hl A6 (by simp at LBD ⊢; omega))) ?_
            rintro e w9 ⟨rfl, h9⟩
            refine hK.out _ _ (h9.blk B0.out (.inr rfl)) (fun _ => ?_)
            clear hK K hH
            refine wpAnyH_done (by kernel_rfl) ?_ _
            have H6 : Hid _ := h9
            clear h9
            have F : Hid (WB w0 w9 Av p t (l ++ o.bytes)) := by
              have h9 := H.out.leave CW.out H6.out
              have e : l ++ o.bytes = l ++ [o.ki % 256] ++ numB o.ver ++ o.lb ++ numB o.ct ++ numB o.hs ++ o.hl := by rw [BD.out]; simp
              rw [e]
              exact h9
            go_wp2_with fail
            go_end0
            exact ⟨rfl, F.out⟩
          · by_cases e12 : o.ki = 12
            · have BD : Hid (o.bytes = [o.ki % 256] ++ (o.bo.bytes)) := by show _ = _; rw [Msg.bytes, Msg.body, if_neg e2, if_neg e3, if_neg e4, if_neg e5, if_neg e11, if_pos e12]
              have LBD : o.body.length = (o.bo.bytes).length := by have h9 := BD.out; rw [Msg.bytes] at h9; exact congrArg List.length (List.append_cancel_left h9)
              rw [e12] at k0
              clear e2 e3 e4 e5 e11 e12
              go_upto_region 20 with fail
              refine wp_region_held_drew (S := fun w' => Blk w' X o.cells 170) (by kernel_rfl) (Blk.drew (H1.out.blk B0.out (.inr rfl))) (fun hH => ?_)
              refine wpAnyH_take (i := 0) (v := .pointer (some ⟨p, 0, none⟩)) rfl (by kernel_rfl) (by kernel_rfl) (by kernel_rfl) (fun _ _ _ h => h) (Or.inl ⟨by rfl, fun w' _ => by go_simp⟩) hH ?_
              refine wpAnyH_take (i := 1) (v := .pointer (some ⟨p, 0, none⟩)) rfl (by kernel_rfl) (by kernel_rfl) (by kernel_rfl) (fun _ _ _ h => h) (Or.inl ⟨by rfl, fun w' _ => by go_simp⟩) hH ?_
              refine wpAnyH_take (i := 2) (v := .pointer (some ⟨p, 0, none⟩)) rfl (by kernel_rfl) (by kernel_rfl) (by kernel_rfl) (fun _ _ _ h => h) (Or.inl ⟨by rfl, fun w' _ => by go_simp⟩) hH ?_
              refine wpAnyH_take (i := 3) (v := .pointer (some ⟨X, 73, none⟩)) rfl (by kernel_rfl) (by kernel_rfl) (by kernel_rfl) (fun _ _ _ h => h) (Or.inl ⟨by rfl, fun w' _ => by go_simp⟩) hH ?_
              refine wpAnyH_take (i := 4) (v := o.bo.val) rfl (by kernel_rfl) (by kernel_rfl) (by kernel_rfl) (fun _ _ _ h => h) (Or.inl ⟨by rfl, fun w' hw' => by have h2 : w'.cell? ⟨X, 73, none⟩ = some (o.bo.val) := (by rw [Blk.cell hw']; exact o.at A6 A7 2); go_simp⟩) hH ?_
              refine wpAnyH_ready (rs := [5]) (by kernel_rfl) (by simp) ?_
              refine AllReadyH.cons rfl (fun K hK => ?_) AllReadyH.nil
              go_simp
              refine Calls.mono ((H1.out.drew).go (fun cs v s hv => wTextE_any s (H1.out.drew.src OI.out.bo.s (fun q hq => (OI.out.bo.av q hq).imp .inl id)) (fun q hq => (OI.out.bo.av q hq).imp (fun ha => ⟨fun e => H0.out.np (by rw [← e]; exact .inl ha), fun e => hv q e.symm (.inl ha)⟩) id) (by simp [Tx.bytes] at LBD ⊢; omega))) ?_
              rintro e w9 ⟨rfl, h9⟩
              refine hK.out _ _ (h9.blk B0.out (.inr rfl)) (fun _ => ?_)
              clear hK K hH
              refine wpAnyH_done (by kernel_rfl) ?_ _
              have H2 : Hid _ := h9
              clear h9
              have F : Hid (WB w0 w9 Av p t (l ++ o.bytes)) := by
                have h9 := H.out.leave CW.out H2.out
                have e : l ++ o.bytes = l ++ [o.ki % 256] ++ (numB o.bo.l.length ++ o.bo.l) := by rw [BD.out]; simp [Tx.bytes]
                rw [e]
                exact h9
              go_wp2_with fail
              go_end0
              exact ⟨rfl, F.out⟩
            · by_cases e1314 : o.ki = 13 ∨ o.ki = 14
              · have BD : Hid (o.bytes = [o.ki % 256] ++ (numB o.pn ++ recsB o.ps o.pn)) := by show _ = _; rw [Msg.bytes, Msg.body, if_neg e2, if_neg e3, if_neg e4, if_neg e5, if_neg e11, if_neg e12, if_pos e1314]
                have LBD : o.body.length = (numB o.pn ++ recsB o.ps o.pn).length := by have h9 := BD.out; rw [Msg.bytes] at h9; exact congrArg List.length (List.append_cancel_left h9)
                rcases e1314 with e9 | e9
                · rw [e9] at k0
                  clear e9 e2 e3 e4 e5 e11 e12
                  have k9 : w1.cell? ⟨X, 74, none⟩ = some (.slice o.pa o.pn o.pc) := by rw [(H1.out.blk B0.out (.inr rfl)).cell]; exact o.at A6 A7 3
                  go_wp2_with fail
                  refine Calls.mono (wPath_any H1.out (OI.out.pr.mono (fun g e => .inl e)) OI.out.pl A8 (by simp at LBD ⊢; omega)) ?_
                  rintro e w3 ⟨rfl, h6⟩
                  have H3 : Hid _ := h6
                  clear h6 k9
                  have F : Hid (WB w0 w3 Av p t (l ++ o.bytes)) := by
                    have h9 := H.out.leave CW.out H3.out
                    have e : l ++ o.bytes = l ++ [o.ki % 256] ++ (numB o.pn ++ recsB o.ps o.pn) := by rw [BD.out]; simp
                    rw [e]
                    exact h9
                  go_wp2_with fail
                  go_end0
                  exact ⟨rfl, F.out⟩
                · rw [e9] at k0
                  clear e9 e2 e3 e4 e5 e11 e12
                  have k9 : w1.cell? ⟨X, 74, none⟩ = some (.slice o.pa o.pn o.pc) := by rw [(H1.out.blk B0.out (.inr rfl)).cell]; exact o.at A6 A7 3
                  go_wp2_with fail
                  refine Calls.mono (wPath_any H1.out (OI.out.pr.mono (fun g e => .inl e)) OI.out.pl A8 (by simp at LBD ⊢; omega)) ?_
                  rintro e w3 ⟨rfl, h6⟩
                  have H3 : Hid _ := h6
                  clear h6 k9
                  have F : Hid (WB w0 w3 Av p t (l ++ o.bytes)) := by
                    have h9 := H.out.leave CW.out H3.out
                    have e : l ++ o.bytes = l ++ [o.ki % 256] ++ (numB o.pn ++ recsB o.ps o.pn) := by rw [BD.out]; simp
                    rw [e]
                    exact h9
                  go_wp2_with fail
                  go_end0
                  exact ⟨rfl, F.out⟩
              · by_cases e15 : o.ki = 15
                · have BD : Hid (o.bytes = [o.ki % 256] ++ (numB o.cn ++ recsB (fun i => (o.cs i).bytes) o.cn)) := by show _ = _; rw [Msg.bytes, Msg.body, if_neg e2, if_neg e3, if_neg e4, if_neg e5, if_neg e11, if_neg e12, if_neg e1314, if_pos e15]
                  have LBD : o.body.length = (numB o.cn ++ recsB (fun i => (o.cs i).bytes) o.cn).length := by have h9 := BD.out; rw [Msg.bytes] at h9; exact congrArg List.length (List.append_cancel_left h9)
                  rw [e15] at k0
                  clear e2 e3 e4 e5 e11 e12 e1314 e15
                  have k9 : w1.cell? ⟨X, 75, none⟩ = some (.slice o.ca o.cn o.cc) := by rw [(H1.out.blk B0.out (.inr rfl)).cell]; exact o.at A6 A7 4
                  go_wp2_with fail
                  refine Calls.mono (wChanges_any H1.out (OI.out.cr.mono (fun g e => .inl e)) (fun i hi => (OI.out.ci i hi).mono (fun g e => .inl e)) A9 (by simp at LBD ⊢; omega)) ?_
                  rintro e w3 ⟨rfl, h6⟩
                  have H3 : Hid _ := h6
                  clear h6 k9
                  have F : Hid (WB w0 w3 Av p t (l ++ o.bytes)) := by
                    have h9 := H.out.leave CW.out H3.out
                    have e : l ++ o.bytes = l ++ [o.ki % 256] ++ (numB o.cn ++ recsB (fun i => (o.cs i).bytes) o.cn) := by rw [BD.out]; simp
                    rw [e]
                    exact h9
                  go_wp2_with fail
                  go_end0
                  exact ⟨rfl, F.out⟩
                · by_cases e19 : o.ki = 19
                  · have BD : Hid (o.bytes = [o.ki % 256] ++ (numB (u64 o.co))) := by show _ = _; rw [Msg.bytes, Msg.body, if_neg e2, if_neg e3, if_neg e4, if_neg e5, if_neg e11, if_neg e12, if_neg e1314, if_neg e15, if_pos e19]
                    have LBD : o.body.length = (numB (u64 o.co)).length := by have h9 := BD.out; rw [Msg.bytes] at h9; exact congrArg List.length (List.append_cancel_left h9)
                    rw [e19] at k0
                    clear e2 e3 e4 e5 e11 e12 e1314 e15 e19
                    have k9 : w1.cell? ⟨X, 72, none⟩ = some (.int .i64 o.co) := by rw [(H1.out.blk B0.out (.inr rfl)).cell]; exact o.at A6 A7 1
                    have n9 := numB_ten (u64_lt o.co)
                    go_wp2_with fail
                    refine Calls.mono (H1.out.go (fun cs v s hv => wNumberI_any s o.co (by simp at LBD ⊢; omega))) ?_
                    rintro e w3 ⟨rfl, h6⟩
                    have H3 : Hid _ := h6
                    clear h6 k9
                    have F : Hid (WB w0 w3 Av p t (l ++ o.bytes)) := by
                      have h9 := H.out.leave CW.out H3.out
                      have e : l ++ o.bytes = l ++ [o.ki % 256] ++ numB (u64 o.co) := by rw [BD.out]; simp
                      rw [e]
                      exact h9
                    go_wp2_with fail
                    go_end0
                    exact ⟨rfl, F.out⟩
                  · have BD : Hid (o.bytes = [o.ki % 256]) := by show _ = _; rw [Msg.bytes, Msg.body, if_neg e2, if_neg e3, if_neg e4, if_neg e5, if_neg e11, if_neg e12, if_neg e1314, if_neg e15, if_neg e19]; simp
                    have e13 : ¬ o.ki = 13 := fun e => e1314 (.inl e)
                    have e14 : ¬ o.ki = 14 := fun e => e1314 (.inr e)
                    have q2 : (o.ki == 2) = false := by simpa using e2
                    have q3 : (o.ki == 3) = false := by simpa using e3
                    have q4 : (o.ki == 4) = false := by simpa using e4
                    have q5 : (o.ki == 5) = false := by simpa using e5
                    have q11 : (o.ki == 11) = false := by simpa using e11
                    have q12 : (o.ki == 12) = false := by simpa using e12
                    have q13 : (o.ki == 13) = false := by simpa using e13
                    have q14 : (o.ki == 14) = false := by simpa using e14
                    have q15 : (o.ki == 15) = false := by simpa using e15
                    have q19 : (o.ki == 19) = false := by simpa using e19
                    clear e2 e3 e4 e5 e11 e12 e1314 e15 e19 e13 e14
                    have F : Hid (WB w0 w1 Av p t (l ++ o.bytes)) := by
                      have h9 := H.out.leave CW.out H1.out
                      have e : l ++ o.bytes = l ++ [o.ki % 256] := by rw [BD.out]
                      rw [e]
                      exact h9
                    go_wp2_with fail
                    go_end0
                    exact ⟨rfl, F.out⟩

set_option maxRecDepth 100000 in
set_option maxHeartbeats 1000000 in
theorem bytesMsg_any {w : World} {T : Msg} (hT : MsIn w (fun g => g < w.heap.size) T) (hl : T.bytes.length ≤ 70368744177664) :
    Calls Try.prog 54 #[.iface 170 (.agg T.cells.toArray)] w fun e w' => ∃ u, e = .returned u ∧ Made w w' u T.bytes := by
  have c0 : Chg (fun _ => False) w (w.alloc (.cells #[.slice none 0 0] 191)) := (Chg.refl _ _).alloc _
  have HW : Hid (WB (w.alloc (.cells #[.slice none 0 0] 191)) (w.alloc (.cells #[.slice none 0 0] 191)) (fun g => g < w.heap.size) w.heap.size 191 []) :=
    ⟨⟨_, _, WS.new w 191, fun g hg => by simp [Value.ownBlock] at hg⟩, fun e => by omega, Chg.refl _ _, fun g e => by simp; omega⟩
  have HT : Hid (MsIn (w.alloc (.cells #[.slice none 0 0] 191)) (fun g => g < w.heap.size) T) := hT.kept c0 (fun _ _ e => e)
  have C0 : Hid _ := c0
  clear hT c0
  go_enter Try.func54, Try.ntmps54
  go_wp2_with fail
  refine Calls.mono (wMsg_any HW.out HT.out (by simp; omega)) ?_
  rintro e w1 ⟨rfl, p1⟩
  have P1 : Hid _ := p1
  obtain ⟨cs, v1, s1, _⟩ := p1.ex
  rw [List.nil_append] at s1
  have S1 : Hid _ := s1
  clear s1 p1
  go_wp2_with fail
  refine Calls.mono (wBytes_any S1.out (by omega)) ?_
  rintro e w2 ⟨u, rfl, m⟩
  have b1 : Below w.heap.size w w1 := by
    have h1 : Chg (fun g => ¬ g < w.heap.size) w w1 := (C0.out.mono (fun _ _ e => e.elim)).trans P1.out.ch (fun _ e => .inl e)
    exact h1.below (Nat.le_refl _) (fun k e => by omega)
  have M : Hid (Made w w2 u T.bytes) := ⟨m.1, b1.trans (m.2.1.mono b1.size), fun k hk => Nat.le_trans b1.size (m.2.2 k hk)⟩
  clear m b1
  go_wp2_with fail
  go_ret
  exact ⟨u, rfl, M.out⟩

theorem Try.size95M : (Try.prog.info? 95).map (·.size) = some 76 := by kernel_rfl
theorem Try.msSzM (T : Msg) (h1 : T.hl.length = 32) (h2 : T.lb.length = 32) : (Try.prog.info? 95).map (·.size) = some T.cells.length := by rw [T.len h1 h2]; exact Try.size95M
set_option maxRecDepth 100000 in
set_option maxHeartbeats 1000000 in
theorem cMsg_any {w : World} {T : Msg} (hT : MsIn w (fun g => g < w.heap.size) T) (hl : T.bytes.length ≤ 70368744177664) :
    Calls Try.prog 31 #[.agg T.cells.toArray] w fun e w' => ∃ u, e = .returned u ∧ Made w w' u T.bytes := by
  have B0 : Hid _ := Blk.made w T.cells 95
  have HT : Hid (MsIn (w.alloc (.cells T.cells.toArray 95)) (fun g => g < (w.alloc (.cells T.cells.toArray 95)).heap.size) T) := (hT.kept (((Chg.refl (fun _ => False) w).alloc _)) (fun _ _ e => e)).mono (fun g e => by simp; omega)
  have H1 := hT.hl
  have H2 := hT.lb
  clear hT
  go_enter Try.func31, Try.ntmps31
  go_wp2_with (refine wpList_load_part rfl 95 (.tmp 1) rfl w.heap.size 0 T.cells rfl B0.out (by simp) Try.underlying95 rfl (Try.msSzM T H1 H2) ?_)
  refine Calls.mono (bytesMsg_any HT.out hl) ?_
  rintro e w2 ⟨u, rfl, m⟩
  have M : Hid _ := m
  clear m
  go_wp2_with fail
  go_ret
  refine ⟨u, rfl, M.out.1, ((Below.refl _ _).alloc (Nat.le_refl _) _).trans (M.out.2.1.mono (by simp)), fun k hk => ?_⟩
  have := M.out.2.2 k hk
  simp at this
  omega

end Go.Proofs.Ytjmeaebehndheaa
