/-
  The reading of many marks, versions, peaks.
-/
import Derived.Test.YtfkjgfelgiogeaaPgR
namespace Go.Proofs.Ytfkjgfelgiogeaa
open Go.RowKit

theorem markE_len (T : List Int) (a : Nat) (e : Int) : (markE T a e).1.length = 2 := rfl
theorem markE_one (T : List Int) (a : Nat) (e : Int) : ∀ u ∈ (markE T a e).1, u.oneCell' = true := mkC_one _ _
theorem versE_len (T : List Int) (a : Nat) (e : Int) : (versE T a e).1.length = 67 := by
  unfold versE
  have p33 : ∀ a e, (pad 33 (pL T a e 33)).length = 33 := fun a e => pad_len (pL_len T a e 33)
  have p32 : ∀ a e, (pad 32 (pL T a e 32)).length = 32 := fun a e => pad_len (pL_len T a e 32)
  simp only [vsC_len]
  rw [p33, p32]
theorem versE_one (T : List Int) (a : Nat) (e : Int) : ∀ u ∈ (versE T a e).1, u.oneCell' = true := vsC_one _ _ _ _
theorem peakE_len (T : List Int) (a : Nat) (e : Int) : (peakE T a e).1.length = 66 := by
  unfold peakE
  simp only [leafC_len]
  rw [limbS_len]
theorem peakE_one (T : List Int) (a : Nat) (e : Int) : ∀ u ∈ (peakE T a e).1, u.oneCell' = true := leafC_one _ _

theorem info124 : (Try.prog.info? 112).map (fun i => (i.zero, i.size, i.bytes)) = some (some (.agg (mkC 0 0).toArray), 2, 16) := by kernel_rfl

set_option maxRecDepth 100000 in
set_option maxHeartbeats 4000000 in
theorem manyMark_any {w : World} {p : Nat} {tv : Value} {T : List Int} {a : Nat} {err : Int} (h : RS w p 192 tv T a err) (n : Nat) (hn : n ≤ 40000) :
    Calls Try.prog 101 #[.pointer (some ⟨p, 0, none⟩), .int .u64 n, .func (.func 102) #[] #[]] w fun e w' => ∃ v, e = .returned v ∧ GL w' v 112 2 (manyE markE T n a err).1 ∧ RP w w' p 192 tv T (manyE markE T n a err).2.1 (manyE markE T n a err).2.2 ∧ (∀ g, v.ownBlock = some g → w.heap.size ≤ g) := by
  have hle := h.le
  have hbig := h.big
  have A0 : Hid _ := At.start h
  have HL : Hid _ := rLeft_any h
  clear h
  have mk0 : ∀ (m1 c : Nat), c ≤ 40000 → At w ((w.drewN m1).alloc (.cells (madeCells (Value.agg (mkC 0 0).toArray).cells (c * 2)) 112)) p 192 tv T a err ∧ GL ((w.drewN m1).alloc (.cells (madeCells (Value.agg (mkC 0 0).toArray).cells (c * 2)) 112)) (.slice (some ⟨w.heap.size, 0, none⟩) 0 c) 112 2 [] := fun m1 c hc =>
    ⟨(A0.out.drewN m1).alloc _, GL.made (w.drewN m1) _ c (by rw [size_madeCells]) (by omega)⟩
  have MK0 : Hid _ := mk0
  clear mk0
  go_enter Try.func101, Try.ntmps101
  go_upto_region 1 with fail
  go_cut [7] from 9 (fun v wx => Hid (At w wx p 192 tv T a err ∧ GL wx v 112 2 [] ∧ ∀ g, v.ownBlock = some g → w.heap.size ≤ g))
  case first =>
    by_cases hm : (n : Int) ≤ (T.length : Int) - a
    · have hmk := run_mkG (sl := 45) Try.underlying45 info124 n (by omega) (by omega)
      go_wp2_with (go_at_call 76; refine Calls.mono HL.out ?_; rintro e w1 ⟨rfl, m1, rfl⟩)
      go_meet
      case rel => exact ⟨(MK0.out m1 n (by omega)).1, (MK0.out m1 n (by omega)).2, fun g hg => by simp [Value.ownBlock] at hg; omega⟩
    · have hq : ((T.length : Int) - a) = ((T.length - a : Nat) : Int) := by omega
      have hmk : ∀ w : World, (Instr.makeSlice 45 (.int .i64 0) (.int .u64 ((T.length : Int) - a))).run Try.prog w = .ok (.slice (some ⟨w.heap.size, 0, none⟩) 0 (T.length - a)) (w.alloc (.cells (madeCells (Value.agg (mkC 0 0).toArray).cells ((T.length - a) * 2)) 112)) := by
        rw [hq]
        exact run_mkG (sl := 45) Try.underlying45 info124 (T.length - a) (by omega) (by omega)
      clear hq
      go_wp2_with (go_at_call 76; refine Calls.mono HL.out ?_; rintro e w1 ⟨rfl, m1, rfl⟩)
      go_meet
      case rel => exact ⟨(MK0.out m1 (T.length - a) (by omega)).1, (MK0.out m1 (T.length - a) (by omega)).2, fun g hg => by simp [Value.ownBlock] at hg; omega⟩
  case rest =>
    have H0 : Hid _ := hcut.out
    clear hcut MK0 HL A0
    go_wp2_with fail
    go_loopw [7, 8] (fun v i wr => ∃ (j : Nat) (ai : Nat) (ei : Int) (L : List (List Value)), j ≤ n ∧ i = .int .u64 j ∧ Hid (At w wr p 192 tv T ai ei ∧ GL wr v 112 2 L ∧ L.length = j ∧ manyE markE T n a err = (L ++ (manyE markE T (n - j) ai ei).1, (manyE markE T (n - j) ai ei).2) ∧ (∀ g, v.ownBlock = some g → w.heap.size ≤ g))) (fun _ i _ => n - (intOf i).toNat)
    case atStart => exact ⟨0, a, err, [], Nat.zero_le _, rfl, H0.out.1, H0.out.2.1, rfl, by simp, H0.out.2.2⟩
    case round =>
      obtain ⟨j, ai, ei, L, hj, rfl, hid⟩ := hrel
      obtain ⟨at_, ml, hks, hms, hnv⟩ := hid.out
      have HE : Hid _ := rErr_any at_.rp.1
      have AT : Hid _ := at_
      have MLH : Hid _ := ml
      have HKS : Hid _ := hks
      have HMS : Hid _ := hms
      have HNV : Hid _ := hnv
      clear hid at_ ml hks hms hnv
      by_cases hlt : j < n
      · by_cases he : ei = 0
        · subst he
          go_upto_region 5 with (go_at_call 78; refine Calls.mono HE.out ?_; rintro e w1 ⟨rfl, hw1⟩; subst hw1)
          clear HE
          go_wp2_with fail
          refine Calls.mono (mark_any AT.out.rp.1) ?_
          rintro e w2 ⟨rfl, r2⟩
          obtain ⟨kk, hkk⟩ : ∃ kk, kk = markE T ai 0 := ⟨_, rfl⟩
          rw [← hkk] at r2 ⊢
          have hz : kk.1.length = 2 := by rw [hkk]; exact markE_len T ai 0
          have hon : ∀ u ∈ kk.1, u.oneCell' = true := by rw [hkk]; exact markE_one T ai 0
          have ml2 : GL w2 u7 112 2 L := MLH.out.kept r2.2 (fun g cur _ hg e => by
            have h9 := AT.out.rp.1.blk
            rw [e] at hg
            rw [h9] at hg
            injection hg with hg
            injection hg with _ hg
            exact absurd hg (by decide))
          obtain ⟨v', w3, hr3, ml3, k3, b3⟩ := ml2.add (sl := 45) Try.underlying45 info124 (by kernel_rfl) (by decide) hz hon (by have := HKS.out; omega) (by have := HKS.out; omega) 45
          have at3 : At w w3 p 192 tv T kk.2.1 kk.2.2 := by
            have a2 := AT.out.call r2
            refine ⟨⟨a2.rp.1.keep2 k3 (fun e => ?_) (fun g hg => ?_), a2.rp.2.trans k3 (fun g e => .inr (HNV.out g e.symm))⟩, a2.plt, a2.tlt⟩
            · have := HNV.out p e.symm
              have := a2.plt
              omega
            · rcases a2.tlt g hg with e | e
              · exact .inl (fun e2 => by have := HNV.out g e2.symm; omega)
              · exact .inr e
          have FIN : Hid (At w w3 p 192 tv T kk.2.1 kk.2.2 ∧ GL w3 v' 112 2 (L ++ [kk.1]) ∧ (L ++ [kk.1]).length = j + 1 ∧ manyE markE T n a err = ((L ++ [kk.1]) ++ (manyE markE T (n - (j + 1)) kk.2.1 kk.2.2).1, (manyE markE T (n - (j + 1)) kk.2.1 kk.2.2).2) ∧ (∀ g, v'.ownBlock = some g → w.heap.size ≤ g)) := by
            refine ⟨at3, ml3, by rw [List.length_append, HKS.out]; rfl, ?_, fun g hg => ?_⟩
            · rw [HMS.out, show n - j = (n - (j + 1)) + 1 by omega, manyE_step, ← hkk]
              simp
            · rcases b3 with e | ⟨q, e, hq⟩
              · exact HNV.out g (by rw [← e]; exact hg)
              · rw [hg] at e
                injection e with e
                have := r2.2.size
                have := AT.out.rp.2.size
                omega
          obtain ⟨ya, yc, hyf⟩ := ml3.form
          have HYF : Hid _ := hyf
          have HR4 : Hid _ := hr3
          clear hr3 ml2 ml3 k3 b3 at3 r2 hyf hkk AT MLH HKS HMS HNV hon
          rw [show v' = .slice ya (L ++ [kk.1]).length yc from HYF.out] at HR4 FIN
          obtain ⟨ln, hln⟩ : ∃ ln, ln = (L ++ [kk.1]).length := ⟨_, rfl⟩
          rw [← hln] at HR4 FIN
          have HLN : Hid _ := hln
          clear hln
          obtain ⟨kc, hkc⟩ : ∃ kc, kc = kk.1 := ⟨_, rfl⟩
          rw [← hkc] at hz HR4 FIN HLN HYF ⊢
          clear hkc
          go_wp2_with (first | refine wpList_buildG (sl := 45) Try.underlying45 info124 (by decide) (by decide) rfl (.tmp 32) rfl (C := kc) rfl hz ?_ | refine wpList_appG (sl := 45) rfl (.tmp 29) (.tmp 33) rfl (v := u7) (u := .slice (some ⟨w2.heap.size, 0, none⟩) 1 1) (v' := .slice ya ln yc) (w' := w3) rfl rfl HR4.out ?_)
          go_roundw
          case rel => exact ⟨j + 1, _, _, L ++ [kc], by omega, by go_num, FIN.out.1, FIN.out.2.1, HLN.out.symm.trans FIN.out.2.2.1, FIN.out.2.2.2⟩
          case measure => simp [intOf]; omega
        · have F : Hid (L = (manyE markE T n a err).1 ∧ RP w wr p 192 tv T (manyE markE T n a err).2.1 (manyE markE T n a err).2.2) := by
            rw [HMS.out, manyE_err he, List.append_nil]
            exact ⟨rfl, AT.out.rp⟩
          go_wp2_with (go_at_call 78; refine Calls.mono HE.out ?_; rintro e w1 ⟨rfl, hw1⟩; subst hw1)
          go_ret
          exact ⟨u7, rfl, by rw [← F.out.1]; exact MLH.out, F.out.2, HNV.out⟩
      · have hjn : j = n := by omega
        subst hjn
        have F : Hid (L = (manyE markE T j a err).1 ∧ RP w wr p 192 tv T (manyE markE T j a err).2.1 (manyE markE T j a err).2.2) := by
          rw [HMS.out, Nat.sub_self]
          exact ⟨by simp [manyE], AT.out.rp⟩
        clear HE
        go_wp2_with fail
        go_ret
        exact ⟨u7, rfl, by rw [← F.out.1]; exact MLH.out, F.out.2, HNV.out⟩

theorem info128 : (Try.prog.info? 116).map (fun i => (i.zero, i.size, i.bytes)) = some (some (.agg (vsC 0 (List.replicate 33 0) 0 (List.replicate 32 0)).toArray), 67, 88) := by kernel_rfl

set_option maxRecDepth 100000 in
set_option maxHeartbeats 4000000 in
theorem manyVers_any {w : World} {p : Nat} {tv : Value} {T : List Int} {a : Nat} {err : Int} (h : RS w p 192 tv T a err) (n : Nat) (hn : n ≤ 40000) :
    Calls Try.prog 103 #[.pointer (some ⟨p, 0, none⟩), .int .u64 n, .func (.func 104) #[] #[]] w fun e w' => ∃ v, e = .returned v ∧ GL w' v 116 67 (manyE versE T n a err).1 ∧ RP w w' p 192 tv T (manyE versE T n a err).2.1 (manyE versE T n a err).2.2 ∧ (∀ g, v.ownBlock = some g → w.heap.size ≤ g) := by
  have hle := h.le
  have hbig := h.big
  have A0 : Hid _ := At.start h
  have HL : Hid _ := rLeft_any h
  clear h
  have mk0 : ∀ (m1 c : Nat), c ≤ 40000 → At w ((w.drewN m1).alloc (.cells (madeCells (Value.agg (vsC 0 (List.replicate 33 0) 0 (List.replicate 32 0)).toArray).cells (c * 67)) 116)) p 192 tv T a err ∧ GL ((w.drewN m1).alloc (.cells (madeCells (Value.agg (vsC 0 (List.replicate 33 0) 0 (List.replicate 32 0)).toArray).cells (c * 67)) 116)) (.slice (some ⟨w.heap.size, 0, none⟩) 0 c) 116 67 [] := fun m1 c hc =>
    ⟨(A0.out.drewN m1).alloc _, GL.made (w.drewN m1) _ c (by rw [size_madeCells]) (by omega)⟩
  have MK0 : Hid _ := mk0
  clear mk0
  go_enter Try.func103, Try.ntmps103
  go_upto_region 1 with fail
  go_cut [7] from 9 (fun v wx => Hid (At w wx p 192 tv T a err ∧ GL wx v 116 67 [] ∧ ∀ g, v.ownBlock = some g → w.heap.size ≤ g))
  case first =>
    by_cases hm : (n : Int) ≤ (T.length : Int) - a
    · have hmk := run_mkG (sl := 46) Try.underlying46 info128 n (by omega) (by omega)
      go_wp2_with (go_at_call 76; refine Calls.mono HL.out ?_; rintro e w1 ⟨rfl, m1, rfl⟩)
      go_meet
      case rel => exact ⟨(MK0.out m1 n (by omega)).1, (MK0.out m1 n (by omega)).2, fun g hg => by simp [Value.ownBlock] at hg; omega⟩
    · have hq : ((T.length : Int) - a) = ((T.length - a : Nat) : Int) := by omega
      have hmk : ∀ w : World, (Instr.makeSlice 46 (.int .i64 0) (.int .u64 ((T.length : Int) - a))).run Try.prog w = .ok (.slice (some ⟨w.heap.size, 0, none⟩) 0 (T.length - a)) (w.alloc (.cells (madeCells (Value.agg (vsC 0 (List.replicate 33 0) 0 (List.replicate 32 0)).toArray).cells ((T.length - a) * 67)) 116)) := by
        rw [hq]
        exact run_mkG (sl := 46) Try.underlying46 info128 (T.length - a) (by omega) (by omega)
      clear hq
      go_wp2_with (go_at_call 76; refine Calls.mono HL.out ?_; rintro e w1 ⟨rfl, m1, rfl⟩)
      go_meet
      case rel => exact ⟨(MK0.out m1 (T.length - a) (by omega)).1, (MK0.out m1 (T.length - a) (by omega)).2, fun g hg => by simp [Value.ownBlock] at hg; omega⟩
  case rest =>
    have H0 : Hid _ := hcut.out
    clear hcut MK0 HL A0
    go_wp2_with fail
    go_loopw [7, 8] (fun v i wr => ∃ (j : Nat) (ai : Nat) (ei : Int) (L : List (List Value)), j ≤ n ∧ i = .int .u64 j ∧ Hid (At w wr p 192 tv T ai ei ∧ GL wr v 116 67 L ∧ L.length = j ∧ manyE versE T n a err = (L ++ (manyE versE T (n - j) ai ei).1, (manyE versE T (n - j) ai ei).2) ∧ (∀ g, v.ownBlock = some g → w.heap.size ≤ g))) (fun _ i _ => n - (intOf i).toNat)
    case atStart => exact ⟨0, a, err, [], Nat.zero_le _, rfl, H0.out.1, H0.out.2.1, rfl, by simp, H0.out.2.2⟩
    case round =>
      obtain ⟨j, ai, ei, L, hj, rfl, hid⟩ := hrel
      obtain ⟨at_, ml, hks, hms, hnv⟩ := hid.out
      have HE : Hid _ := rErr_any at_.rp.1
      have AT : Hid _ := at_
      have MLH : Hid _ := ml
      have HKS : Hid _ := hks
      have HMS : Hid _ := hms
      have HNV : Hid _ := hnv
      clear hid at_ ml hks hms hnv
      by_cases hlt : j < n
      · by_cases he : ei = 0
        · subst he
          go_upto_region 5 with (go_at_call 78; refine Calls.mono HE.out ?_; rintro e w1 ⟨rfl, hw1⟩; subst hw1)
          clear HE
          go_wp2_with fail
          refine Calls.mono (version_any AT.out.rp.1) ?_
          rintro e w2 ⟨rfl, r2⟩
          obtain ⟨kk, hkk⟩ : ∃ kk, kk = versE T ai 0 := ⟨_, rfl⟩
          rw [← hkk] at r2 ⊢
          have hz : kk.1.length = 67 := by rw [hkk]; exact versE_len T ai 0
          have hon : ∀ u ∈ kk.1, u.oneCell' = true := by rw [hkk]; exact versE_one T ai 0
          have ml2 : GL w2 u7 116 67 L := MLH.out.kept r2.2 (fun g cur _ hg e => by
            have h9 := AT.out.rp.1.blk
            rw [e] at hg
            rw [h9] at hg
            injection hg with hg
            injection hg with _ hg
            exact absurd hg (by decide))
          obtain ⟨v', w3, hr3, ml3, k3, b3⟩ := ml2.add (sl := 46) Try.underlying46 info128 (by kernel_rfl) (by decide) hz hon (by have := HKS.out; omega) (by have := HKS.out; omega) 46
          have at3 : At w w3 p 192 tv T kk.2.1 kk.2.2 := by
            have a2 := AT.out.call r2
            refine ⟨⟨a2.rp.1.keep2 k3 (fun e => ?_) (fun g hg => ?_), a2.rp.2.trans k3 (fun g e => .inr (HNV.out g e.symm))⟩, a2.plt, a2.tlt⟩
            · have := HNV.out p e.symm
              have := a2.plt
              omega
            · rcases a2.tlt g hg with e | e
              · exact .inl (fun e2 => by have := HNV.out g e2.symm; omega)
              · exact .inr e
          have FIN : Hid (At w w3 p 192 tv T kk.2.1 kk.2.2 ∧ GL w3 v' 116 67 (L ++ [kk.1]) ∧ (L ++ [kk.1]).length = j + 1 ∧ manyE versE T n a err = ((L ++ [kk.1]) ++ (manyE versE T (n - (j + 1)) kk.2.1 kk.2.2).1, (manyE versE T (n - (j + 1)) kk.2.1 kk.2.2).2) ∧ (∀ g, v'.ownBlock = some g → w.heap.size ≤ g)) := by
            refine ⟨at3, ml3, by rw [List.length_append, HKS.out]; rfl, ?_, fun g hg => ?_⟩
            · rw [HMS.out, show n - j = (n - (j + 1)) + 1 by omega, manyE_step, ← hkk]
              simp
            · rcases b3 with e | ⟨q, e, hq⟩
              · exact HNV.out g (by rw [← e]; exact hg)
              · rw [hg] at e
                injection e with e
                have := r2.2.size
                have := AT.out.rp.2.size
                omega
          obtain ⟨ya, yc, hyf⟩ := ml3.form
          have HYF : Hid _ := hyf
          have HR4 : Hid _ := hr3
          clear hr3 ml2 ml3 k3 b3 at3 r2 hyf hkk AT MLH HKS HMS HNV hon
          rw [show v' = .slice ya (L ++ [kk.1]).length yc from HYF.out] at HR4 FIN
          obtain ⟨ln, hln⟩ : ∃ ln, ln = (L ++ [kk.1]).length := ⟨_, rfl⟩
          rw [← hln] at HR4 FIN
          have HLN : Hid _ := hln
          clear hln
          obtain ⟨kc, hkc⟩ : ∃ kc, kc = kk.1 := ⟨_, rfl⟩
          rw [← hkc] at hz HR4 FIN HLN HYF ⊢
          clear hkc
          go_wp2_with (first | refine wpList_buildG (sl := 46) Try.underlying46 info128 (by decide) (by decide) rfl (.tmp 32) rfl (C := kc) rfl hz ?_ | refine wpList_appG (sl := 46) rfl (.tmp 29) (.tmp 33) rfl (v := u7) (u := .slice (some ⟨w2.heap.size, 0, none⟩) 1 1) (v' := .slice ya ln yc) (w' := w3) rfl rfl HR4.out ?_)
          go_roundw
          case rel => exact ⟨j + 1, _, _, L ++ [kc], by omega, by go_num, FIN.out.1, FIN.out.2.1, HLN.out.symm.trans FIN.out.2.2.1, FIN.out.2.2.2⟩
          case measure => simp [intOf]; omega
        · have F : Hid (L = (manyE versE T n a err).1 ∧ RP w wr p 192 tv T (manyE versE T n a err).2.1 (manyE versE T n a err).2.2) := by
            rw [HMS.out, manyE_err he, List.append_nil]
            exact ⟨rfl, AT.out.rp⟩
          go_wp2_with (go_at_call 78; refine Calls.mono HE.out ?_; rintro e w1 ⟨rfl, hw1⟩; subst hw1)
          go_ret
          exact ⟨u7, rfl, by rw [← F.out.1]; exact MLH.out, F.out.2, HNV.out⟩
      · have hjn : j = n := by omega
        subst hjn
        have F : Hid (L = (manyE versE T j a err).1 ∧ RP w wr p 192 tv T (manyE versE T j a err).2.1 (manyE versE T j a err).2.2) := by
          rw [HMS.out, Nat.sub_self]
          exact ⟨by simp [manyE], AT.out.rp⟩
        clear HE
        go_wp2_with fail
        go_ret
        exact ⟨u7, rfl, by rw [← F.out.1]; exact MLH.out, F.out.2, HNV.out⟩

theorem info130 : (Try.prog.info? 129).map (fun i => (i.zero, i.size, i.bytes)) = some (some (.agg (leafC 0 (List.replicate 65 0)).toArray), 66, 80) := by kernel_rfl

set_option maxRecDepth 100000 in
set_option maxHeartbeats 4000000 in
theorem manyPeak_any {w : World} {p : Nat} {tv : Value} {T : List Int} {a : Nat} {err : Int} (h : RS w p 192 tv T a err) (n : Nat) (hn : n ≤ 40000) :
    Calls Try.prog 105 #[.pointer (some ⟨p, 0, none⟩), .int .u64 n, .func (.func 106) #[] #[]] w fun e w' => ∃ v, e = .returned v ∧ GL w' v 129 66 (manyE peakE T n a err).1 ∧ RP w w' p 192 tv T (manyE peakE T n a err).2.1 (manyE peakE T n a err).2.2 ∧ (∀ g, v.ownBlock = some g → w.heap.size ≤ g) := by
  have hle := h.le
  have hbig := h.big
  have A0 : Hid _ := At.start h
  have HL : Hid _ := rLeft_any h
  clear h
  have mk0 : ∀ (m1 c : Nat), c ≤ 40000 → At w ((w.drewN m1).alloc (.cells (madeCells (Value.agg (leafC 0 (List.replicate 65 0)).toArray).cells (c * 66)) 129)) p 192 tv T a err ∧ GL ((w.drewN m1).alloc (.cells (madeCells (Value.agg (leafC 0 (List.replicate 65 0)).toArray).cells (c * 66)) 129)) (.slice (some ⟨w.heap.size, 0, none⟩) 0 c) 129 66 [] := fun m1 c hc =>
    ⟨(A0.out.drewN m1).alloc _, GL.made (w.drewN m1) _ c (by rw [size_madeCells]) (by omega)⟩
  have MK0 : Hid _ := mk0
  clear mk0
  go_enter Try.func105, Try.ntmps105
  go_upto_region 1 with fail
  go_cut [7] from 9 (fun v wx => Hid (At w wx p 192 tv T a err ∧ GL wx v 129 66 [] ∧ ∀ g, v.ownBlock = some g → w.heap.size ≤ g))
  case first =>
    by_cases hm : (n : Int) ≤ (T.length : Int) - a
    · have hmk := run_mkG (sl := 47) Try.underlying47 info130 n (by omega) (by omega)
      go_wp2_with (go_at_call 76; refine Calls.mono HL.out ?_; rintro e w1 ⟨rfl, m1, rfl⟩)
      go_meet
      case rel => exact ⟨(MK0.out m1 n (by omega)).1, (MK0.out m1 n (by omega)).2, fun g hg => by simp [Value.ownBlock] at hg; omega⟩
    · have hq : ((T.length : Int) - a) = ((T.length - a : Nat) : Int) := by omega
      have hmk : ∀ w : World, (Instr.makeSlice 47 (.int .i64 0) (.int .u64 ((T.length : Int) - a))).run Try.prog w = .ok (.slice (some ⟨w.heap.size, 0, none⟩) 0 (T.length - a)) (w.alloc (.cells (madeCells (Value.agg (leafC 0 (List.replicate 65 0)).toArray).cells ((T.length - a) * 66)) 129)) := by
        rw [hq]
        exact run_mkG (sl := 47) Try.underlying47 info130 (T.length - a) (by omega) (by omega)
      clear hq
      go_wp2_with (go_at_call 76; refine Calls.mono HL.out ?_; rintro e w1 ⟨rfl, m1, rfl⟩)
      go_meet
      case rel => exact ⟨(MK0.out m1 (T.length - a) (by omega)).1, (MK0.out m1 (T.length - a) (by omega)).2, fun g hg => by simp [Value.ownBlock] at hg; omega⟩
  case rest =>
    have H0 : Hid _ := hcut.out
    clear hcut MK0 HL A0
    go_wp2_with fail
    go_loopw [7, 8] (fun v i wr => ∃ (j : Nat) (ai : Nat) (ei : Int) (L : List (List Value)), j ≤ n ∧ i = .int .u64 j ∧ Hid (At w wr p 192 tv T ai ei ∧ GL wr v 129 66 L ∧ L.length = j ∧ manyE peakE T n a err = (L ++ (manyE peakE T (n - j) ai ei).1, (manyE peakE T (n - j) ai ei).2) ∧ (∀ g, v.ownBlock = some g → w.heap.size ≤ g))) (fun _ i _ => n - (intOf i).toNat)
    case atStart => exact ⟨0, a, err, [], Nat.zero_le _, rfl, H0.out.1, H0.out.2.1, rfl, by simp, H0.out.2.2⟩
    case round =>
      obtain ⟨j, ai, ei, L, hj, rfl, hid⟩ := hrel
      obtain ⟨at_, ml, hks, hms, hnv⟩ := hid.out
      have HE : Hid _ := rErr_any at_.rp.1
      have AT : Hid _ := at_
      have MLH : Hid _ := ml
      have HKS : Hid _ := hks
      have HMS : Hid _ := hms
      have HNV : Hid _ := hnv
      clear hid at_ ml hks hms hnv
      by_cases hlt : j < n
      · by_cases he : ei = 0
        · subst he
          go_upto_region 5 with (go_at_call 78; refine Calls.mono HE.out ?_; rintro e w1 ⟨rfl, hw1⟩; subst hw1)
          clear HE
          go_wp2_with fail
          refine Calls.mono (peak_any AT.out.rp.1) ?_
          rintro e w2 ⟨rfl, r2⟩
          obtain ⟨kk, hkk⟩ : ∃ kk, kk = peakE T ai 0 := ⟨_, rfl⟩
          rw [← hkk] at r2 ⊢
          have hz : kk.1.length = 66 := by rw [hkk]; exact peakE_len T ai 0
          have hon : ∀ u ∈ kk.1, u.oneCell' = true := by rw [hkk]; exact peakE_one T ai 0
          have ml2 : GL w2 u7 129 66 L := MLH.out.kept r2.2 (fun g cur _ hg e => by
            have h9 := AT.out.rp.1.blk
            rw [e] at hg
            rw [h9] at hg
            injection hg with hg
            injection hg with _ hg
            exact absurd hg (by decide))
          obtain ⟨v', w3, hr3, ml3, k3, b3⟩ := ml2.add (sl := 47) Try.underlying47 info130 (by kernel_rfl) (by decide) hz hon (by have := HKS.out; omega) (by have := HKS.out; omega) 47
          have at3 : At w w3 p 192 tv T kk.2.1 kk.2.2 := by
            have a2 := AT.out.call r2
            refine ⟨⟨a2.rp.1.keep2 k3 (fun e => ?_) (fun g hg => ?_), a2.rp.2.trans k3 (fun g e => .inr (HNV.out g e.symm))⟩, a2.plt, a2.tlt⟩
            · have := HNV.out p e.symm
              have := a2.plt
              omega
            · rcases a2.tlt g hg with e | e
              · exact .inl (fun e2 => by have := HNV.out g e2.symm; omega)
              · exact .inr e
          have FIN : Hid (At w w3 p 192 tv T kk.2.1 kk.2.2 ∧ GL w3 v' 129 66 (L ++ [kk.1]) ∧ (L ++ [kk.1]).length = j + 1 ∧ manyE peakE T n a err = ((L ++ [kk.1]) ++ (manyE peakE T (n - (j + 1)) kk.2.1 kk.2.2).1, (manyE peakE T (n - (j + 1)) kk.2.1 kk.2.2).2) ∧ (∀ g, v'.ownBlock = some g → w.heap.size ≤ g)) := by
            refine ⟨at3, ml3, by rw [List.length_append, HKS.out]; rfl, ?_, fun g hg => ?_⟩
            · rw [HMS.out, show n - j = (n - (j + 1)) + 1 by omega, manyE_step, ← hkk]
              simp
            · rcases b3 with e | ⟨q, e, hq⟩
              · exact HNV.out g (by rw [← e]; exact hg)
              · rw [hg] at e
                injection e with e
                have := r2.2.size
                have := AT.out.rp.2.size
                omega
          obtain ⟨ya, yc, hyf⟩ := ml3.form
          have HYF : Hid _ := hyf
          have HR4 : Hid _ := hr3
          clear hr3 ml2 ml3 k3 b3 at3 r2 hyf hkk AT MLH HKS HMS HNV hon
          rw [show v' = .slice ya (L ++ [kk.1]).length yc from HYF.out] at HR4 FIN
          obtain ⟨ln, hln⟩ : ∃ ln, ln = (L ++ [kk.1]).length := ⟨_, rfl⟩
          rw [← hln] at HR4 FIN
          have HLN : Hid _ := hln
          clear hln
          obtain ⟨kc, hkc⟩ : ∃ kc, kc = kk.1 := ⟨_, rfl⟩
          rw [← hkc] at hz HR4 FIN HLN HYF ⊢
          clear hkc
          go_wp2_with (first | refine wpList_buildG (sl := 47) Try.underlying47 info130 (by decide) (by decide) rfl (.tmp 32) rfl (C := kc) rfl hz ?_ | refine wpList_appG (sl := 47) rfl (.tmp 29) (.tmp 33) rfl (v := u7) (u := .slice (some ⟨w2.heap.size, 0, none⟩) 1 1) (v' := .slice ya ln yc) (w' := w3) rfl rfl HR4.out ?_)
          go_roundw
          case rel => exact ⟨j + 1, _, _, L ++ [kc], by omega, by go_num, FIN.out.1, FIN.out.2.1, HLN.out.symm.trans FIN.out.2.2.1, FIN.out.2.2.2⟩
          case measure => simp [intOf]; omega
        · have F : Hid (L = (manyE peakE T n a err).1 ∧ RP w wr p 192 tv T (manyE peakE T n a err).2.1 (manyE peakE T n a err).2.2) := by
            rw [HMS.out, manyE_err he, List.append_nil]
            exact ⟨rfl, AT.out.rp⟩
          go_wp2_with (go_at_call 78; refine Calls.mono HE.out ?_; rintro e w1 ⟨rfl, hw1⟩; subst hw1)
          go_ret
          exact ⟨u7, rfl, by rw [← F.out.1]; exact MLH.out, F.out.2, HNV.out⟩
      · have hjn : j = n := by omega
        subst hjn
        have F : Hid (L = (manyE peakE T j a err).1 ∧ RP w wr p 192 tv T (manyE peakE T j a err).2.1 (manyE peakE T j a err).2.2) := by
          rw [HMS.out, Nat.sub_self]
          exact ⟨by simp [manyE], AT.out.rp⟩
        clear HE
        go_wp2_with fail
        go_ret
        exact ⟨u7, rfl, by rw [← F.out.1]; exact MLH.out, F.out.2, HNV.out⟩

end Go.Proofs.Ytfkjgfelgiogeaa
