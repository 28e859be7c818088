/-
  The writing of towers.
-/
import Derived.Test.YtjmeaebehndheaaTwA
import Derived.Deep.Cut
import Derived.Deep.CutRange
namespace Go.Proofs.Ytjmeaebehndheaa
open Go.RowKit

theorem Try.sz155 : (Try.prog.info? 156).map (·.size) = some 68 := by kernel_rfl
theorem Try.kidSz (k : Kd) (h1 : k.ad.length = 33) (h2 : k.lb.length = 32) : (Try.prog.info? 156).map (·.size) = some k.cells.length := by
  rw [Try.sz155]
  simp [Kd.cells, bs, h1, h2]
/-- A tower. -/
structure Tw where
  hd : Bool
  ka : Option Addr
  kn : Nat
  kc : Nat
  kl : List Int
  vl : List Int
  sa : Option Addr
  sn : Nat
  sc : Nat
  ks : Nat → Kd
def Tw.cells (T : Tw) : List Value := .bool T.hd :: .slice T.ka T.kn T.kc :: (bs T.vl ++ [.slice T.sa T.sn T.sc])
def kidsB (ks : Nat → Kd) : Nat → List Int
  | 0 => []
  | n + 1 => kidsB ks n ++ (ks n).bytes
def Tw.own (T : Tw) : List Int := if T.hd then [] else (numB T.kl.length ++ T.kl) ++ T.vl
def Tw.bytes (T : Tw) : List Int := [if T.hd then 1 else 0] ++ T.own ++ numB T.sn ++ kidsB T.ks T.sn
structure TwIn (w : World) (Av : Nat → Prop) (T : Tw) : Prop where
  src : Src w (.slice T.ka T.kn T.kc) T.kl
  av : ∀ g, (Value.slice T.ka T.kn T.kc).ownBlock = some g → Av g ∨ T.kl = []
  vl : T.vl.length = 33
  sn : T.sn ≤ 1000000
  kl : T.kl.length ≤ 281474976710656
  row : ∀ i, i < T.sn → ∃ g o, T.sa = some ⟨g, o, none⟩ ∧ Av g ∧ w.rangeAt g (o + i * 68) (T.ks i).cells
  kid : ∀ i, i < T.sn → KdIn w Av (T.ks i)
theorem Tw.vl_at (T : Tw) : (T.cells.drop 2).take (bs T.vl).length = bs T.vl := by simp [Tw.cells]
theorem Tw.ks_at (T : Tw) (h : T.vl.length = 33) : T.cells[35]? = some (.slice T.sa T.sn T.sc) := by
  show (bs T.vl ++ [Value.slice T.sa T.sn T.sc])[33]? = _
  rw [List.getElem?_append_right (by rw [bs_len]; omega), bs_len, h]
  rfl
theorem rangeAt_kept {w w' : World} {S : Nat → Prop} {g o : Nat} {vs : List Value} (h : w.rangeAt g o vs) (c : Chg S w w') (hn : ¬ S g) : w'.rangeAt g o vs := fun j v hj => c.cell_some (h j v hj) hn
theorem kidsB_le (ks : Nat → Kd) (n : Nat) : ∀ i, i ≤ n → (kidsB ks i).length ≤ (kidsB ks n).length := by
  induction n with
  | zero => intro i hi; rw [Nat.le_zero.1 hi]; exact Nat.le_refl _
  | succ n ih =>
    intro i hi
    rcases Nat.lt_or_ge n i with e | e
    · have : i = n + 1 := by omega
      rw [this]; exact Nat.le_refl _
    · have := ih i e
      simp only [kidsB, List.length_append]
      omega

set_option maxRecDepth 100000 in
set_option maxHeartbeats 8000000 in
theorem wTower_any {w0 w : World} {Av : Nat → Prop} {p : Nat} {t : TypeId} {l : List Int} (h : WB w0 w Av p t l) {T : Tw} (hT : TwIn w0 Av T) (hl : l.length + T.bytes.length + 10 ≤ 140737488355328) :
    Calls Try.prog 148 #[.agg T.cells.toArray, .pointer (some ⟨p, 0, none⟩)] w fun e w' => e = .returned (.tuple #[]) ∧ WB w0 w' Av p t (l ++ T.bytes) := by
  obtain ⟨X, hX⟩ : ∃ X, X = w.heap.size := ⟨_, rfl⟩
  obtain ⟨W, hW⟩ : ∃ W, W = w.alloc (.cells T.cells.toArray 157) := ⟨_, rfl⟩
  have cW : Chg (fun _ => False) w W := by rw [hW]; exact (Chg.refl _ _).alloc _
  have b0 : Blk W X T.cells 157 := by rw [hW, hX]; exact Blk.made _ _ _
  have h0 : WB W W (AvX Av X) p t l := by rw [hX]; exact h.box cW (by rw [hW]; simp)
  have H : Hid _ := h
  have CW : Hid _ := cW
  have B0 : Hid _ := b0
  have H0 : Hid _ := h0
  have HT : Hid _ := hT
  have HV := hT.vl
  have HSN := hT.sn
  have S0 : Hid (Src W (.slice T.ka T.kn T.kc) T.kl) := (h.src hT.src hT.av).kept cW (fun _ _ e => e)
  have k0 : W.cell? ⟨X, 0, none⟩ = some (.bool T.hd) := b0.cell 0
  have LB : T.bytes.length = 1 + T.own.length + (numB T.sn).length + (kidsB T.ks T.sn).length := by simp [Tw.bytes]; omega
  have PX : p ≠ X := by have := h.pw; omega
  clear h cW b0 h0
  go_enter Try.func148, Try.ntmps148
  go_upto_region 1 with fail
  rw [← hX, ← hW]
  clear hX hW
  go_upto_if 12 with (go_at_call 149; refine Calls.mono (H0.out.go (fun cs v s _ => wFlag_any s T.hd (by omega))) ?_; rintro e w1 ⟨rfl, h1⟩; have H1 : Hid _ := h1; have k1 : w1.cell? ⟨X, 0, none⟩ = some (.bool T.hd) := (h1.blk B0.out (.inr rfl)).cell 0; clear h1 k0)
  go_cut [] from 6 (fun wx => Hid (WB W wx (AvX Av X) p t (l ++ [if T.hd then 1 else 0] ++ T.own)))
  case first =>
    cases hh : T.hd with
    | true =>
      have F : Hid (WB W w1 (AvX Av X) p t (l ++ [if T.hd then 1 else 0] ++ T.own)) := by
        have h9 := H1.out
        simp only [Tw.own, hh, if_true, List.append_nil] at h9 ⊢
        exact h9
      go_wp2_with fail
      go_meet
      case rel => exact F.out
    | false =>
      have OL : T.own.length = (numB T.kl.length).length + T.kl.length + 33 := by simp [Tw.own, hh, HV]; omega
      go_upto_region 3 with fail
      refine wp_region_held_drew (S := fun w' => Blk w' X T.cells 157) (by kernel_rfl) (Blk.drew (H1.out.blk B0.out (.inr rfl))) (fun hH => ?_)
      refine wpAnyH_take (i := 0) (v := .pointer (some ⟨p, 0, none⟩)) rfl (by kernel_rfl) (by kernel_rfl) (by kernel_rfl) (fun _ _ _ h => h) (Or.inl ⟨by rfl, fun w' _ => by go_simp⟩) hH ?_
      refine wpAnyH_take (i := 1) (v := .pointer (some ⟨p, 0, none⟩)) rfl (by kernel_rfl) (by kernel_rfl) (by kernel_rfl) (fun _ _ _ h => h) (Or.inl ⟨by rfl, fun w' _ => by go_simp⟩) hH ?_
      refine wpAnyH_take (i := 2) (v := .pointer (some ⟨p, 0, none⟩)) rfl (by kernel_rfl) (by kernel_rfl) (by kernel_rfl) (fun _ _ _ h => h) (Or.inl ⟨by rfl, fun w' _ => by go_simp⟩) hH ?_
      refine wpAnyH_take (i := 3) (v := .pointer (some ⟨X, 1, none⟩)) rfl (by kernel_rfl) (by kernel_rfl) (by kernel_rfl) (fun _ _ _ h => h) (Or.inl ⟨by rfl, fun w' _ => by go_simp⟩) hH ?_
      refine wpAnyH_take (i := 4) (v := .slice T.ka T.kn T.kc) rfl (by kernel_rfl) (by kernel_rfl) (by kernel_rfl) (fun _ _ _ h => h) (Or.inl ⟨by rfl, fun w' hw' => by have h2 : w'.cell? ⟨X, 1, none⟩ = some (.slice T.ka T.kn T.kc) := Blk.cell hw' 1; go_simp⟩) hH ?_
      refine wpAnyH_ready (rs := [5]) (by kernel_rfl) (by simp) ?_
      refine AllReadyH.cons rfl (fun K hK => ?_) AllReadyH.nil
      go_simp
      refine Calls.mono ((H1.out.drew).go (fun cs v s hv => wTextE_any s (H1.out.drew.src S0.out (fun g hg => (HT.out.av g hg).imp .inl id)) (fun g hg => (HT.out.av g hg).imp (fun ha => ⟨fun e => H0.out.np (by rw [← e]; exact .inl ha), fun e => hv g e.symm (.inl ha)⟩) id) (by simp; omega))) ?_
      rintro e w9 ⟨rfl, h9⟩
      refine hK.out _ _ (h9.blk B0.out (.inr rfl)) (fun _ => ?_)
      clear hK K hH
      refine wpAnyH_done (by kernel_rfl) ?_ _
      have H3 : Hid _ := h9
      clear h9
      go_upto_region 4 with fail
      refine wp_region_held_drew (S := fun w' => Blk w' X T.cells 157) (by kernel_rfl) (Blk.drew (H3.out.blk B0.out (.inr rfl))) (fun hH => ?_)
      refine wpAnyH_take (i := 0) (v := .pointer (some ⟨p, 0, none⟩)) rfl (by kernel_rfl) (by kernel_rfl) (by kernel_rfl) (fun _ _ _ h => h) (Or.inl ⟨by rfl, fun w' _ => by go_simp⟩) hH ?_
      refine wpAnyH_take (i := 1) (v := .pointer (some ⟨p, 0, none⟩)) rfl (by kernel_rfl) (by kernel_rfl) (by kernel_rfl) (fun _ _ _ h => h) (Or.inl ⟨by rfl, fun w' _ => by go_simp⟩) hH ?_
      refine wpAnyH_take (i := 2) (v := .pointer (some ⟨p, 0, none⟩)) rfl (by kernel_rfl) (by kernel_rfl) (by kernel_rfl) (fun _ _ _ h => h) (Or.inl ⟨by rfl, fun w' _ => by go_simp⟩) hH ?_
      refine wpAnyH_take (i := 3) (v := .pointer (some ⟨X, 2, none⟩)) rfl (by kernel_rfl) (by kernel_rfl) (by kernel_rfl) (fun _ _ _ h => h) (Or.inl ⟨by rfl, fun w' _ => by go_simp⟩) hH ?_
      refine wpAnyH_take (i := 4) (v := .agg (bs T.vl).toArray) rfl (by kernel_rfl) (by kernel_rfl) (by kernel_rfl) (fun _ _ _ h => h) (yieldsIf_load_mid (by rfl) _ _ rfl X 2 rfl _ _ (fun w' h => Blk.range h (T.vl_at)) Try.underlying33 rfl (Try.addrSz T.vl HV)) hH ?_
      refine wpAnyH_ready (rs := [5]) (by kernel_rfl) (by simp) ?_
      refine AllReadyH.cons rfl (fun K hK => ?_) AllReadyH.nil
      go_simp
      refine Calls.mono ((H3.out.drew).go (fun cs v s hv => wAddr2 s T.vl HV (by simp; omega))) ?_
      rintro e w9 ⟨rfl, h9⟩
      refine hK.out _ _ (h9.blk B0.out (.inr rfl)) (fun _ => ?_)
      clear hK K hH
      refine wpAnyH_done (by kernel_rfl) ?_ _
      have H4 : Hid _ := h9
      clear h9
      have F : Hid (WB W w9 (AvX Av X) p t (l ++ [if T.hd then 1 else 0] ++ T.own)) := by
        have h9 := H4.out
        simp only [Tw.own, hh, Bool.false_eq_true, if_false, List.append_assoc] at h9 ⊢
        exact h9
      go_wp2_with fail
      go_meet
      case rel => exact F.out
  case rest =>
    have H5 : Hid _ := hcut
    clear hcut
    rcases Nat.eq_zero_or_pos T.sn with hz | hpos
    · have HZ : Hid _ := hz
      clear hz
      have k5 : wc.cell? ⟨X, 35, none⟩ = some (.slice T.sa T.sn T.sc) := by rw [(H5.out.blk B0.out (.inr rfl)).cell]; exact T.ks_at HV
      have OWL : T.own.length ≤ T.bytes.length := by omega
      go_upto_region 6 with (go_at_call 146; refine Calls.mono (H5.out.go (fun cs v s _ => wNumber_any s T.sn (by omega) (by simp; omega))) ?_; rintro e w6 ⟨rfl, h6⟩; have H6 : Hid _ := h6; have k6 : w6.cell? ⟨X, 35, none⟩ = some (.slice T.sa T.sn T.sc) := (by rw [(h6.blk B0.out (.inr rfl)).cell]; exact T.ks_at HV); clear h6 k5)
      obtain ⟨L0, hL0⟩ : ∃ L0, L0 = l ++ [if T.hd then 1 else 0] ++ T.own ++ numB T.sn := ⟨_, rfl⟩
      rw [← hL0] at H6
      have F : Hid (WB w0 w6 Av p t (l ++ T.bytes)) := by
        have h9 := H.out.leave CW.out H6.out
        have hz := HZ.out
        rw [hL0] at h9
        simp only [Tw.bytes, hz, kidsB, List.append_nil, List.append_assoc] at h9 ⊢
        exact h9
      clear hL0
      go_wp2_with fail
      clear k6
      go_loopw [33] (fun i wr => i = .int .i64 0 ∧ Hid (WB w0 wr Av p t (l ++ T.bytes))) (fun _ _ => 0)
      case atStart => exact ⟨rfl, F.out⟩
      case round =>
        obtain ⟨rfl, hid⟩ := hrel
        have F2 : Hid _ := hid.out
        have hz := HZ.out
        clear hid
        go_wp2_with fail
        go_end0
        exact ⟨rfl, F2.out⟩
    · obtain ⟨g, o, hsa, _, _⟩ := HT.out.row 0 hpos
      have HSA : Hid _ := hsa
      clear hsa
      have k5 : wc.cell? ⟨X, 35, none⟩ = some (.slice (some ⟨g, o, none⟩) T.sn T.sc) := by rw [(H5.out.blk B0.out (.inr rfl)).cell]; rw [← HSA.out]; exact T.ks_at HV
      have OWL : T.own.length ≤ T.bytes.length := by omega
      go_upto_region 6 with (go_at_call 146; refine Calls.mono (H5.out.go (fun cs v s _ => wNumber_any s T.sn (by omega) (by simp; omega))) ?_; rintro e w6 ⟨rfl, h6⟩; have H6 : Hid _ := h6; have k6 : w6.cell? ⟨X, 35, none⟩ = some (.slice (some ⟨g, o, none⟩) T.sn T.sc) := (by rw [(h6.blk B0.out (.inr rfl)).cell]; rw [← HSA.out]; exact T.ks_at HV); clear h6 k5)
      obtain ⟨L0, hL0⟩ : ∃ L0, L0 = l ++ [if T.hd then 1 else 0] ++ T.own ++ numB T.sn := ⟨_, rfl⟩
      rw [← hL0] at H6
      have LL : L0.length + (kidsB T.ks T.sn).length ≤ l.length + T.bytes.length := by rw [hL0]; simp; omega
      have HL0 : Hid _ := hL0
      clear hL0
      go_wp2_with fail
      clear k6
      go_loopw [33] (fun i wr => ∃ j : Nat, j ≤ T.sn ∧ i = .int .i64 j ∧ Hid (WB W wr (AvX Av X) p t (L0 ++ kidsB T.ks j))) (fun i _ => T.sn - (intOf i).toNat)
      case atStart => exact ⟨0, Nat.zero_le _, rfl, by show WB W w6 (AvX Av X) p t (L0 ++ []); rw [List.append_nil]; exact H6.out⟩
      case round =>
        obtain ⟨j, hj, rfl, hid⟩ := hrel
        by_cases hlt : j < T.sn
        · obtain ⟨k, hk⟩ : ∃ k, k = T.ks j := ⟨_, rfl⟩
          have HB : Hid _ := hid.out
          obtain ⟨g1, o1, hsb, hav, hrg⟩ := HT.out.row j hlt
          rw [HSA.out] at hsb
          injection hsb with hsb
          injection hsb with hs1 hs2 _
          subst hs1 hs2
          have kin := HT.out.kid j hlt
          rw [← hk] at hrg kin
          have RG : Hid (wr.rangeAt g (o + j * 68) k.cells) := rangeAt_kept (rangeAt_kept (rangeAt_kept hrg H.out.ch (fun e => e hav)) CW.out (fun e => e)) HB.out.ch (fun e => e (.inl hav))
          have KS : Hid (Src wr (.slice k.ka k.kn k.kc) k.kl) := HB.out.src ((H.out.src kin.src kin.av).kept CW.out (fun _ _ e => e)) (fun q hq => (kin.av q hq).imp .inl id)
          have KI : Hid _ := kin
          have A1 := kin.ad
          have A2 := kin.lb
          have A3 := kin.ct
          have A4 := kin.lv
          have KB : (kidsB T.ks j).length + k.bytes.length ≤ (kidsB T.ks T.sn).length := by
            have := kidsB_le T.ks T.sn (j + 1) (by omega)
            simp only [kidsB, List.length_append, ← hk] at this
            omega
          have KL : k.bytes.length = 1 + ((numB k.kl.length).length + k.kl.length) + (numB k.ct).length + 33 + 32 := by simp [Kd.bytes, A1, A2]; omega
          have HKK : Hid _ := hk
          clear hid hrg kin hk
          go_upto_region 9 with (first
            | refine wpList_load_mid rfl 156 (.tmp 35) rfl g (o + j * 68) rfl k.cells _ RG.out Try.underlying156 rfl (Try.kidSz k A1 A2) ?_
            | (refine wpList_store_part rfl 156 (.tmp 5) (.tmp 36) rfl wr.heap.size 0 k.cells rfl rfl (t := 156) ⟨heap_alloc_new _ _⟩ (by simp [Kd.cells, bs, A1, A2]) (Try.kidSz k A1 A2) k.one ?_; intro wB hw8 hc8; rw [splice_all _ _ (by simp [Kd.cells, bs, A1, A2])] at hw8; have c8 : Chg (fun _ => False) wr wB := ((Chg.refl (fun _ => False) wr).alloc _).trans hc8 (fun i e => .inr (by omega)); have RAA : Hid _ := hw8; have CB : Hid _ := c8; clear hw8 hc8 c8))
          have BK : Hid (Blk wB wr.heap.size k.cells 156) := RAA.out
          have G0 : Hid (WB wB wB (AvX (AvX Av X) wr.heap.size) p t (L0 ++ kidsB T.ks j)) := HB.out.box CB.out RAA.out.lt
          have KS2 : Hid (Src wB (.slice k.ka k.kn k.kc) k.kl) := KS.out.kept CB.out (fun _ _ e => e)
          have n1 := numB_ten (n := k.kl.length) (by omega)
          have n2 := numB_ten (n := k.ct) A3
          go_upto_region 9 with fail
          refine wp_region_held_drew (S := fun w' => Blk w' wr.heap.size k.cells 156) (by kernel_rfl) (Blk.drew (G0.out.blk BK.out (.inr rfl))) (fun hH => ?_)
          refine wpAnyH_take (i := 0) (v := .pointer (some ⟨p, 0, none⟩)) rfl (by kernel_rfl) (by kernel_rfl) (by kernel_rfl) (fun _ _ _ h => h) (Or.inl ⟨by rfl, fun w' _ => by go_simp⟩) hH ?_
          refine wpAnyH_take (i := 1) (v := .pointer (some ⟨p, 0, none⟩)) rfl (by kernel_rfl) (by kernel_rfl) (by kernel_rfl) (fun _ _ _ h => h) (Or.inl ⟨by rfl, fun w' _ => by go_simp⟩) hH ?_
          refine wpAnyH_take (i := 2) (v := .pointer (some ⟨p, 0, none⟩)) rfl (by kernel_rfl) (by kernel_rfl) (by kernel_rfl) (fun _ _ _ h => h) (Or.inl ⟨by rfl, fun w' _ => by go_simp⟩) hH ?_
          refine wpAnyH_take (i := 3) (v := .pointer (some ⟨wr.heap.size, 0, none⟩)) rfl (by kernel_rfl) (by kernel_rfl) (by kernel_rfl) (fun _ _ _ h => h) (Or.inl ⟨by rfl, fun w' _ => by go_simp⟩) hH ?_
          refine wpAnyH_take (i := 4) (v := .int .i64 k.lv) rfl (by kernel_rfl) (by kernel_rfl) (by kernel_rfl) (fun _ _ _ h => h) (Or.inl ⟨by rfl, fun w' hw' => by have h2 : w'.cell? ⟨wr.heap.size, 0, none⟩ = some (.int .i64 k.lv) := Blk.cell hw' 0; go_simp⟩) hH ?_
          refine wpAnyH_take (i := 5) (v := .int .u8 (k.lv % 256)) rfl (by kernel_rfl) (by kernel_rfl) (by kernel_rfl) (fun _ _ _ h => h) (Or.inl ⟨by rfl, fun w' _ => by go_simp; first | rfl | simp [IntKind.wrap_u8] | simp [IntKind.wrap]⟩) hH ?_
          refine wpAnyH_ready (rs := [6]) (by kernel_rfl) (by simp) ?_
          refine AllReadyH.cons rfl (fun K hK => ?_) AllReadyH.nil
          go_simp
          refine Calls.mono ((G0.out.drew).go (fun cs v s hv => wByte_any s (k.lv % 256) (by simp; omega))) ?_
          rintro e w9 ⟨rfl, h9⟩
          refine hK.out _ _ (h9.blk BK.out (.inr rfl)) (fun _ => ?_)
          clear hK K hH
          refine wpAnyH_done (by kernel_rfl) ?_ _
          have G1 : Hid _ := h9
          clear h9
          go_upto_region 10 with fail
          refine wp_region_held_drew (S := fun w' => Blk w' wr.heap.size k.cells 156) (by kernel_rfl) (Blk.drew (G1.out.blk BK.out (.inr rfl))) (fun hH => ?_)
          refine wpAnyH_take (i := 0) (v := .pointer (some ⟨p, 0, none⟩)) rfl (by kernel_rfl) (by kernel_rfl) (by kernel_rfl) (fun _ _ _ h => h) (Or.inl ⟨by rfl, fun w' _ => by go_simp⟩) hH ?_
          refine wpAnyH_take (i := 1) (v := .pointer (some ⟨p, 0, none⟩)) rfl (by kernel_rfl) (by kernel_rfl) (by kernel_rfl) (fun _ _ _ h => h) (Or.inl ⟨by rfl, fun w' _ => by go_simp⟩) hH ?_
          refine wpAnyH_take (i := 2) (v := .pointer (some ⟨p, 0, none⟩)) rfl (by kernel_rfl) (by kernel_rfl) (by kernel_rfl) (fun _ _ _ h => h) (Or.inl ⟨by rfl, fun w' _ => by go_simp⟩) hH ?_
          refine wpAnyH_take (i := 3) (v := .pointer (some ⟨wr.heap.size, 1, none⟩)) rfl (by kernel_rfl) (by kernel_rfl) (by kernel_rfl) (fun _ _ _ h => h) (Or.inl ⟨by rfl, fun w' _ => by go_simp⟩) hH ?_
          refine wpAnyH_take (i := 4) (v := .slice k.ka k.kn k.kc) rfl (by kernel_rfl) (by kernel_rfl) (by kernel_rfl) (fun _ _ _ h => h) (Or.inl ⟨by rfl, fun w' hw' => by have h2 : w'.cell? ⟨wr.heap.size, 1, none⟩ = some (.slice k.ka k.kn k.kc) := Blk.cell hw' 1; go_simp⟩) hH ?_
          refine wpAnyH_ready (rs := [5]) (by kernel_rfl) (by simp) ?_
          refine AllReadyH.cons rfl (fun K hK => ?_) AllReadyH.nil
          go_simp
          refine Calls.mono ((G1.out.drew).go (fun cs v s hv => wTextE_any s (G1.out.drew.src KS2.out (fun q hq => (KI.out.av q hq).imp (fun a => .inl (.inl a)) id)) (fun q hq => (KI.out.av q hq).imp (fun ha => ⟨fun e => G0.out.np (by rw [← e]; exact .inl (.inl ha)), fun e => hv q e.symm (.inl (.inl ha))⟩) id) (by simp; omega))) ?_
          rintro e w9 ⟨rfl, h9⟩
          refine hK.out _ _ (h9.blk BK.out (.inr rfl)) (fun _ => ?_)
          clear hK K hH
          refine wpAnyH_done (by kernel_rfl) ?_ _
          have G2 : Hid _ := h9
          clear h9
          go_upto_region 11 with fail
          refine wp_region_held_drew (S := fun w' => Blk w' wr.heap.size k.cells 156) (by kernel_rfl) (Blk.drew (G2.out.blk BK.out (.inr rfl))) (fun hH => ?_)
          refine wpAnyH_take (i := 0) (v := .pointer (some ⟨p, 0, none⟩)) rfl (by kernel_rfl) (by kernel_rfl) (by kernel_rfl) (fun _ _ _ h => h) (Or.inl ⟨by rfl, fun w' _ => by go_simp⟩) hH ?_
          refine wpAnyH_take (i := 1) (v := .pointer (some ⟨p, 0, none⟩)) rfl (by kernel_rfl) (by kernel_rfl) (by kernel_rfl) (fun _ _ _ h => h) (Or.inl ⟨by rfl, fun w' _ => by go_simp⟩) hH ?_
          refine wpAnyH_take (i := 2) (v := .pointer (some ⟨p, 0, none⟩)) rfl (by kernel_rfl) (by kernel_rfl) (by kernel_rfl) (fun _ _ _ h => h) (Or.inl ⟨by rfl, fun w' _ => by go_simp⟩) hH ?_
          refine wpAnyH_take (i := 3) (v := .pointer (some ⟨wr.heap.size, 2, none⟩)) rfl (by kernel_rfl) (by kernel_rfl) (by kernel_rfl) (fun _ _ _ h => h) (Or.inl ⟨by rfl, fun w' _ => by go_simp⟩) hH ?_
          refine wpAnyH_take (i := 4) (v := .int .u64 k.ct) rfl (by kernel_rfl) (by kernel_rfl) (by kernel_rfl) (fun _ _ _ h => h) (Or.inl ⟨by rfl, fun w' hw' => by have h2 : w'.cell? ⟨wr.heap.size, 2, none⟩ = some (.int .u64 k.ct) := Blk.cell hw' 2; go_simp⟩) hH ?_
          refine wpAnyH_ready (rs := [5]) (by kernel_rfl) (by simp) ?_
          refine AllReadyH.cons rfl (fun K hK => ?_) AllReadyH.nil
          go_simp
          refine Calls.mono ((G2.out.drew).go (fun cs v s hv => wUint_any s k.ct A3 (by simp; omega))) ?_
          rintro e w9 ⟨rfl, h9⟩
          refine hK.out _ _ (h9.blk BK.out (.inr rfl)) (fun _ => ?_)
          clear hK K hH
          refine wpAnyH_done (by kernel_rfl) ?_ _
          have G3 : Hid _ := h9
          clear h9
          go_upto_region 12 with fail
          refine wp_region_held_drew (S := fun w' => Blk w' wr.heap.size k.cells 156) (by kernel_rfl) (Blk.drew (G3.out.blk BK.out (.inr rfl))) (fun hH => ?_)
          refine wpAnyH_take (i := 0) (v := .pointer (some ⟨p, 0, none⟩)) rfl (by kernel_rfl) (by kernel_rfl) (by kernel_rfl) (fun _ _ _ h => h) (Or.inl ⟨by rfl, fun w' _ => by go_simp⟩) hH ?_
          refine wpAnyH_take (i := 1) (v := .pointer (some ⟨p, 0, none⟩)) rfl (by kernel_rfl) (by kernel_rfl) (by kernel_rfl) (fun _ _ _ h => h) (Or.inl ⟨by rfl, fun w' _ => by go_simp⟩) hH ?_
          refine wpAnyH_take (i := 2) (v := .pointer (some ⟨p, 0, none⟩)) rfl (by kernel_rfl) (by kernel_rfl) (by kernel_rfl) (fun _ _ _ h => h) (Or.inl ⟨by rfl, fun w' _ => by go_simp⟩) hH ?_
          refine wpAnyH_take (i := 3) (v := .pointer (some ⟨wr.heap.size, 3, none⟩)) rfl (by kernel_rfl) (by kernel_rfl) (by kernel_rfl) (fun _ _ _ h => h) (Or.inl ⟨by rfl, fun w' _ => by go_simp⟩) hH ?_
          refine wpAnyH_take (i := 4) (v := .agg (bs k.ad).toArray) rfl (by kernel_rfl) (by kernel_rfl) (by kernel_rfl) (fun _ _ _ h => h) (yieldsIf_load_mid (by rfl) _ _ rfl wr.heap.size 3 rfl _ _ (fun w' h => Blk.range h (k.ad_at)) Try.underlying33 rfl (Try.addrSz k.ad A1)) hH ?_
          refine wpAnyH_ready (rs := [5]) (by kernel_rfl) (by simp) ?_
          refine AllReadyH.cons rfl (fun K hK => ?_) AllReadyH.nil
          go_simp
          refine Calls.mono ((G3.out.drew).go (fun cs v s hv => wAddr2 s k.ad A1 (by simp; omega))) ?_
          rintro e w9 ⟨rfl, h9⟩
          refine hK.out _ _ (h9.blk BK.out (.inr rfl)) (fun _ => ?_)
          clear hK K hH
          refine wpAnyH_done (by kernel_rfl) ?_ _
          have G4 : Hid _ := h9
          clear h9
          go_upto_region 13 with fail
          refine wp_region_held_drew (S := fun w' => Blk w' wr.heap.size k.cells 156) (by kernel_rfl) (Blk.drew (G4.out.blk BK.out (.inr rfl))) (fun hH => ?_)
          refine wpAnyH_take (i := 0) (v := .pointer (some ⟨p, 0, none⟩)) rfl (by kernel_rfl) (by kernel_rfl) (by kernel_rfl) (fun _ _ _ h => h) (Or.inl ⟨by rfl, fun w' _ => by go_simp⟩) hH ?_
          refine wpAnyH_take (i := 1) (v := .pointer (some ⟨p, 0, none⟩)) rfl (by kernel_rfl) (by kernel_rfl) (by kernel_rfl) (fun _ _ _ h => h) (Or.inl ⟨by rfl, fun w' _ => by go_simp⟩) hH ?_
          refine wpAnyH_take (i := 2) (v := .pointer (some ⟨p, 0, none⟩)) rfl (by kernel_rfl) (by kernel_rfl) (by kernel_rfl) (fun _ _ _ h => h) (Or.inl ⟨by rfl, fun w' _ => by go_simp⟩) hH ?_
          refine wpAnyH_take (i := 3) (v := .pointer (some ⟨wr.heap.size, 36, none⟩)) rfl (by kernel_rfl) (by kernel_rfl) (by kernel_rfl) (fun _ _ _ h => h) (Or.inl ⟨by rfl, fun w' _ => by go_simp⟩) hH ?_
          refine wpAnyH_take (i := 4) (v := .agg (bs k.lb).toArray) rfl (by kernel_rfl) (by kernel_rfl) (by kernel_rfl) (fun _ _ _ h => h) (yieldsIf_load_mid (by rfl) _ _ rfl wr.heap.size 36 rfl _ _ (fun w' h => Blk.range h (k.lb_at A1)) Try.underlying31 rfl (Try.sumSz' k.lb A2)) hH ?_
          refine wpAnyH_ready (rs := [5]) (by kernel_rfl) (by simp) ?_
          refine AllReadyH.cons rfl (fun K hK => ?_) AllReadyH.nil
          go_simp
          refine Calls.mono ((G4.out.drew).go (fun cs v s hv => wSum_any s k.lb A2 (by simp; omega))) ?_
          rintro e w9 ⟨rfl, h9⟩
          refine hK.out _ _ (h9.blk BK.out (.inr rfl)) (fun _ => ?_)
          clear hK K hH
          refine wpAnyH_done (by kernel_rfl) ?_ _
          have G5 : Hid _ := h9
          clear h9
          have F : Hid (WB W w9 (AvX Av X) p t (L0 ++ kidsB T.ks (j + 1))) := by
            have h9 := HB.out.leave CB.out G5.out
            simp only [kidsB, ← HKK.out, Kd.bytes, List.append_assoc] at h9 ⊢
            exact h9
          go_wp2_with fail
          go_roundw
          case rel => exact ⟨j + 1, by omega, by go_num, F.out⟩
          case measure => simp [intOf]; omega
        · have hjn : j = T.sn := by omega
          subst hjn
          have F : Hid (WB w0 wr Av p t (l ++ T.bytes)) := by
            have h9 := H.out.leave CW.out hid.out
            rw [HL0.out] at h9
            simp only [Tw.bytes, List.append_assoc] at h9 ⊢
            exact h9
          clear hid
          go_wp2_with fail
          go_end0
          exact ⟨rfl, F.out⟩
end Go.Proofs.Ytjmeaebehndheaa
