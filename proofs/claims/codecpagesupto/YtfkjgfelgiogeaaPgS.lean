/-
  Lists of marks, versions, peaks compared.
-/
import Derived.Test.YtfkjgfelgiogeaaPgE
namespace Go.Proofs.Ytfkjgfelgiogeaa
open Go.RowKit

set_option maxRecDepth 100000 in
set_option maxHeartbeats 8000000 in
theorem sameMarks_any {w : World} {Av Bv : Nat → Prop} {A B : Option Addr} {n c d : Nat} {f : Nat → Mk} (ha : RowsIn w Av A n 2 (fun i => (f i).cells)) (hb : RowsIn w Bv B n 2 (fun i => (f i).cells)) (hn : n ≤ 9223372036854775807) :
    Calls Try.prog 56 #[.slice A n c, .slice B n d] w fun e w' => e = .returned (.bool true) ∧ Below w.heap.size w w' := by
  have HA : Hid _ := ha
  have HBB : Hid _ := hb
  clear ha hb
  go_enter Try.func56, Try.ntmps56
  go_wp2_with fail
  go_loopw [13] (fun i wr => ∃ j : Nat, j ≤ n ∧ i = .int .i64 j ∧ Hid (Below w.heap.size w wr)) (fun i _ => n - (intOf i).toNat)
  case atStart => exact ⟨0, Nat.zero_le _, rfl, ⟨rfl, rfl, rfl, Nat.le_refl _, fun _ _ => rfl⟩⟩
  case round =>
    obtain ⟨j, hj, rfl, hid⟩ := hrel
    have BL : Hid _ := hid.out
    clear hid
    by_cases hlt : j < n
    · obtain ⟨g, o, ea, _, ra⟩ := HA.out j hlt
      obtain ⟨g', o', eb, _, rb⟩ := HBB.out j hlt
      have hix := ix_at Try.underlying45 Try.elem45 Try.so124 (c := c) ea hlt
      have hiy := ix_at Try.underlying45 Try.elem45 Try.so124 (c := d) eb hlt
      obtain ⟨m, hm⟩ : ∃ m, m = f j := ⟨_, rfl⟩
      have cR : Chg (fun _ => False) w wr := Chg.of_below BL.out (fun _ => False)
      have RA : Hid (wr.rangeAt g (o + j * 2) m.cells) := by rw [hm]; exact rangeAt_kept ra cR (fun e => e)
      have RB : Hid (wr.rangeAt g' (o' + j * 2) m.cells) := by rw [hm]; exact rangeAt_kept rb cR (fun e => e)
      have BL9 : Hid (Below w.heap.size w wr.drew) := ⟨BL.out.os, BL.out.tape, BL.out.output, BL.out.size, BL.out.block⟩

      have NE := ne124 m
      clear ea eb ra rb hm cR
      go_upto_region 6 with fail
      refine wp_region_held_drew (S := fun w' => w'.rangeAt g (o + j * 2) m.cells ∧ w'.rangeAt g' (o' + j * 2) m.cells) (by kernel_rfl) ⟨RA.out, RB.out⟩ (fun hH => ?_)
      refine wpAnyH_take (i := 0) (v := .slice A n c) rfl (by kernel_rfl) (by kernel_rfl) (by kernel_rfl) (fun _ _ _ h => h) (Or.inl ⟨by rfl, fun w' _ => by go_simp⟩) hH ?_
      refine wpAnyH_take (i := 1) (v := .int .i64 j) rfl (by kernel_rfl) (by kernel_rfl) (by kernel_rfl) (fun _ _ _ h => h) (Or.inl ⟨by rfl, fun w' _ => by go_simp⟩) hH ?_
      refine wpAnyH_take (i := 2) (v := .pointer (some ⟨g, o + j * 2, none⟩)) rfl (by kernel_rfl) (by kernel_rfl) (by kernel_rfl) (fun _ _ _ h => h) (Or.inl ⟨by rfl, fun w' _ => by have q := hix w'; go_simp⟩) hH ?_
      refine wpAnyH_take (i := 3) (v := .agg m.cells.toArray) rfl (by kernel_rfl) (by kernel_rfl) (by kernel_rfl) (fun _ _ _ h => h) (yieldsIf_load_mid (by rfl) 112 _ rfl g (o + j * 2) (by kernel_rfl) m.cells _ (fun w' h => h.1) Try.underlying112 rfl (Try.mkSz m)) hH ?_
      refine wpAnyH_take (i := 4) (v := .slice B n d) rfl (by kernel_rfl) (by kernel_rfl) (by kernel_rfl) (fun _ _ _ h => h) (Or.inl ⟨by rfl, fun w' _ => by go_simp⟩) hH ?_
      refine wpAnyH_take (i := 5) (v := .int .i64 j) rfl (by kernel_rfl) (by kernel_rfl) (by kernel_rfl) (fun _ _ _ h => h) (Or.inl ⟨by rfl, fun w' _ => by go_simp⟩) hH ?_
      refine wpAnyH_take (i := 6) (v := .pointer (some ⟨g', o' + j * 2, none⟩)) rfl (by kernel_rfl) (by kernel_rfl) (by kernel_rfl) (fun _ _ _ h => h) (Or.inl ⟨by rfl, fun w' _ => by have q := hiy w'; go_simp⟩) hH ?_
      refine wpAnyH_take (i := 7) (v := .agg m.cells.toArray) rfl (by kernel_rfl) (by kernel_rfl) (by kernel_rfl) (fun _ _ _ h => h) (yieldsIf_load_mid (by rfl) 112 _ rfl g' (o' + j * 2) (by kernel_rfl) m.cells _ (fun w' h => h.2) Try.underlying112 rfl (Try.mkSz m)) hH ?_
      refine wpAnyH_ready (rs := [8]) (by kernel_rfl) (by simp) ?_
      refine AllReadyH.cons rfl (fun K hK => ?_) AllReadyH.nil
      clear hix hiy
      go_simp
      refine hK.out _ _ ⟨RA.out, RB.out⟩ (fun _ => ?_)
      clear hK K hH
      refine wpAnyH_done (by kernel_rfl) ?_ _
      clear NE
      go_wp2_with fail
      go_roundw
      case rel => exact ⟨j + 1, by omega, by go_num, BL9.out⟩
      case measure => simp [intOf]; omega
    · go_wp2_with fail
      go_ret
      exact ⟨rfl, BL.out⟩

set_option maxRecDepth 100000 in
set_option maxHeartbeats 8000000 in
theorem sameVers_any {w : World} {Av Bv : Nat → Prop} {A B : Option Addr} {n c d : Nat} {f : Nat → Vs} (ha : RowsIn w Av A n 67 (fun i => (f i).cells)) (hb : RowsIn w Bv B n 67 (fun i => (f i).cells)) (hn : n ≤ 9223372036854775807) (hl : ∀ i, i < n → (f i).x.length = 33 ∧ (f i).y.length = 32) :
    Calls Try.prog 57 #[.slice A n c, .slice B n d] w fun e w' => e = .returned (.bool true) ∧ Below w.heap.size w w' := by
  have HA : Hid _ := ha
  have HBB : Hid _ := hb
  clear ha hb
  go_enter Try.func57, Try.ntmps57
  go_wp2_with fail
  go_loopw [13] (fun i wr => ∃ j : Nat, j ≤ n ∧ i = .int .i64 j ∧ Hid (Below w.heap.size w wr)) (fun i _ => n - (intOf i).toNat)
  case atStart => exact ⟨0, Nat.zero_le _, rfl, ⟨rfl, rfl, rfl, Nat.le_refl _, fun _ _ => rfl⟩⟩
  case round =>
    obtain ⟨j, hj, rfl, hid⟩ := hrel
    have BL : Hid _ := hid.out
    clear hid
    by_cases hlt : j < n
    · obtain ⟨g, o, ea, _, ra⟩ := HA.out j hlt
      obtain ⟨g', o', eb, _, rb⟩ := HBB.out j hlt
      have hix := ix_at Try.underlying46 Try.elem46 Try.so128 (c := c) ea hlt
      have hiy := ix_at Try.underlying46 Try.elem46 Try.so128 (c := d) eb hlt
      obtain ⟨m, hm⟩ : ∃ m, m = f j := ⟨_, rfl⟩
      have cR : Chg (fun _ => False) w wr := Chg.of_below BL.out (fun _ => False)
      have RA : Hid (wr.rangeAt g (o + j * 67) m.cells) := by rw [hm]; exact rangeAt_kept ra cR (fun e => e)
      have RB : Hid (wr.rangeAt g' (o' + j * 67) m.cells) := by rw [hm]; exact rangeAt_kept rb cR (fun e => e)
      have BL9 : Hid (Below w.heap.size w wr.drew) := ⟨BL.out.os, BL.out.tape, BL.out.output, BL.out.size, BL.out.block⟩
      have X1 : m.x.length = 33 := by rw [hm]; exact (hl j hlt).1
      have X2 : m.y.length = 32 := by rw [hm]; exact (hl j hlt).2
      have NE := ne128 m X1 X2
      clear ea eb ra rb hm cR
      go_upto_region 6 with fail
      refine wp_region_held_drew (S := fun w' => w'.rangeAt g (o + j * 67) m.cells ∧ w'.rangeAt g' (o' + j * 67) m.cells) (by kernel_rfl) ⟨RA.out, RB.out⟩ (fun hH => ?_)
      refine wpAnyH_take (i := 0) (v := .slice A n c) rfl (by kernel_rfl) (by kernel_rfl) (by kernel_rfl) (fun _ _ _ h => h) (Or.inl ⟨by rfl, fun w' _ => by go_simp⟩) hH ?_
      refine wpAnyH_take (i := 1) (v := .int .i64 j) rfl (by kernel_rfl) (by kernel_rfl) (by kernel_rfl) (fun _ _ _ h => h) (Or.inl ⟨by rfl, fun w' _ => by go_simp⟩) hH ?_
      refine wpAnyH_take (i := 2) (v := .pointer (some ⟨g, o + j * 67, none⟩)) rfl (by kernel_rfl) (by kernel_rfl) (by kernel_rfl) (fun _ _ _ h => h) (Or.inl ⟨by rfl, fun w' _ => by have q := hix w'; go_simp⟩) hH ?_
      refine wpAnyH_take (i := 3) (v := .agg m.cells.toArray) rfl (by kernel_rfl) (by kernel_rfl) (by kernel_rfl) (fun _ _ _ h => h) (yieldsIf_load_mid (by rfl) 116 _ rfl g (o + j * 67) (by kernel_rfl) m.cells _ (fun w' h => h.1) Try.underlying116 rfl (Try.vsSz m X1 X2)) hH ?_
      refine wpAnyH_take (i := 4) (v := .slice B n d) rfl (by kernel_rfl) (by kernel_rfl) (by kernel_rfl) (fun _ _ _ h => h) (Or.inl ⟨by rfl, fun w' _ => by go_simp⟩) hH ?_
      refine wpAnyH_take (i := 5) (v := .int .i64 j) rfl (by kernel_rfl) (by kernel_rfl) (by kernel_rfl) (fun _ _ _ h => h) (Or.inl ⟨by rfl, fun w' _ => by go_simp⟩) hH ?_
      refine wpAnyH_take (i := 6) (v := .pointer (some ⟨g', o' + j * 67, none⟩)) rfl (by kernel_rfl) (by kernel_rfl) (by kernel_rfl) (fun _ _ _ h => h) (Or.inl ⟨by rfl, fun w' _ => by have q := hiy w'; go_simp⟩) hH ?_
      refine wpAnyH_take (i := 7) (v := .agg m.cells.toArray) rfl (by kernel_rfl) (by kernel_rfl) (by kernel_rfl) (fun _ _ _ h => h) (yieldsIf_load_mid (by rfl) 116 _ rfl g' (o' + j * 67) (by kernel_rfl) m.cells _ (fun w' h => h.2) Try.underlying116 rfl (Try.vsSz m X1 X2)) hH ?_
      refine wpAnyH_ready (rs := [8]) (by kernel_rfl) (by simp) ?_
      refine AllReadyH.cons rfl (fun K hK => ?_) AllReadyH.nil
      clear hix hiy
      go_simp
      refine hK.out _ _ ⟨RA.out, RB.out⟩ (fun _ => ?_)
      clear hK K hH
      refine wpAnyH_done (by kernel_rfl) ?_ _
      clear NE
      go_wp2_with fail
      go_roundw
      case rel => exact ⟨j + 1, by omega, by go_num, BL9.out⟩
      case measure => simp [intOf]; omega
    · go_wp2_with fail
      go_ret
      exact ⟨rfl, BL.out⟩

set_option maxRecDepth 100000 in
set_option maxHeartbeats 8000000 in
theorem samePeaks_any {w : World} {Av Bv : Nat → Prop} {A B : Option Addr} {n c d : Nat} {f : Nat → Pk} (ha : RowsIn w Av A n 66 (fun i => (f i).cells)) (hb : RowsIn w Bv B n 66 (fun i => (f i).cells)) (hn : n ≤ 9223372036854775807) (hl : ∀ i, i < n → (f i).x.length = 33 ∧ (f i).y.length = 32) :
    Calls Try.prog 107 #[.slice A n c, .slice B n d] w fun e w' => e = .returned (.bool true) ∧ Below w.heap.size w w' := by
  have HA : Hid _ := ha
  have HBB : Hid _ := hb
  clear ha hb
  go_enter Try.func107, Try.ntmps107
  go_wp2_with fail
  go_loopw [13] (fun i wr => ∃ j : Nat, j ≤ n ∧ i = .int .i64 j ∧ Hid (Below w.heap.size w wr)) (fun i _ => n - (intOf i).toNat)
  case atStart => exact ⟨0, Nat.zero_le _, rfl, ⟨rfl, rfl, rfl, Nat.le_refl _, fun _ _ => rfl⟩⟩
  case round =>
    obtain ⟨j, hj, rfl, hid⟩ := hrel
    have BL : Hid _ := hid.out
    clear hid
    by_cases hlt : j < n
    · obtain ⟨g, o, ea, _, ra⟩ := HA.out j hlt
      obtain ⟨g', o', eb, _, rb⟩ := HBB.out j hlt
      have hix := ix_at Try.underlying47 Try.elem47 Try.so130 (c := c) ea hlt
      have hiy := ix_at Try.underlying47 Try.elem47 Try.so130 (c := d) eb hlt
      obtain ⟨m, hm⟩ : ∃ m, m = f j := ⟨_, rfl⟩
      have cR : Chg (fun _ => False) w wr := Chg.of_below BL.out (fun _ => False)
      have RA : Hid (wr.rangeAt g (o + j * 66) m.cells) := by rw [hm]; exact rangeAt_kept ra cR (fun e => e)
      have RB : Hid (wr.rangeAt g' (o' + j * 66) m.cells) := by rw [hm]; exact rangeAt_kept rb cR (fun e => e)
      have BL9 : Hid (Below w.heap.size w wr.drew) := ⟨BL.out.os, BL.out.tape, BL.out.output, BL.out.size, BL.out.block⟩
      have X1 : m.x.length = 33 := by rw [hm]; exact (hl j hlt).1
      have X2 : m.y.length = 32 := by rw [hm]; exact (hl j hlt).2
      have NE := ne130 m X1 X2
      clear ea eb ra rb hm cR
      go_upto_region 6 with fail
      refine wp_region_held_drew (S := fun w' => w'.rangeAt g (o + j * 66) m.cells ∧ w'.rangeAt g' (o' + j * 66) m.cells) (by kernel_rfl) ⟨RA.out, RB.out⟩ (fun hH => ?_)
      refine wpAnyH_take (i := 0) (v := .slice A n c) rfl (by kernel_rfl) (by kernel_rfl) (by kernel_rfl) (fun _ _ _ h => h) (Or.inl ⟨by rfl, fun w' _ => by go_simp⟩) hH ?_
      refine wpAnyH_take (i := 1) (v := .int .i64 j) rfl (by kernel_rfl) (by kernel_rfl) (by kernel_rfl) (fun _ _ _ h => h) (Or.inl ⟨by rfl, fun w' _ => by go_simp⟩) hH ?_
      refine wpAnyH_take (i := 2) (v := .pointer (some ⟨g, o + j * 66, none⟩)) rfl (by kernel_rfl) (by kernel_rfl) (by kernel_rfl) (fun _ _ _ h => h) (Or.inl ⟨by rfl, fun w' _ => by have q := hix w'; go_simp⟩) hH ?_
      refine wpAnyH_take (i := 3) (v := .agg m.cells.toArray) rfl (by kernel_rfl) (by kernel_rfl) (by kernel_rfl) (fun _ _ _ h => h) (yieldsIf_load_mid (by rfl) 129 _ rfl g (o + j * 66) (by kernel_rfl) m.cells _ (fun w' h => h.1) Try.underlying129 rfl (Try.pkSz m X1 X2)) hH ?_
      refine wpAnyH_take (i := 4) (v := .slice B n d) rfl (by kernel_rfl) (by kernel_rfl) (by kernel_rfl) (fun _ _ _ h => h) (Or.inl ⟨by rfl, fun w' _ => by go_simp⟩) hH ?_
      refine wpAnyH_take (i := 5) (v := .int .i64 j) rfl (by kernel_rfl) (by kernel_rfl) (by kernel_rfl) (fun _ _ _ h => h) (Or.inl ⟨by rfl, fun w' _ => by go_simp⟩) hH ?_
      refine wpAnyH_take (i := 6) (v := .pointer (some ⟨g', o' + j * 66, none⟩)) rfl (by kernel_rfl) (by kernel_rfl) (by kernel_rfl) (fun _ _ _ h => h) (Or.inl ⟨by rfl, fun w' _ => by have q := hiy w'; go_simp⟩) hH ?_
      refine wpAnyH_take (i := 7) (v := .agg m.cells.toArray) rfl (by kernel_rfl) (by kernel_rfl) (by kernel_rfl) (fun _ _ _ h => h) (yieldsIf_load_mid (by rfl) 129 _ rfl g' (o' + j * 66) (by kernel_rfl) m.cells _ (fun w' h => h.2) Try.underlying129 rfl (Try.pkSz m X1 X2)) hH ?_
      refine wpAnyH_ready (rs := [8]) (by kernel_rfl) (by simp) ?_
      refine AllReadyH.cons rfl (fun K hK => ?_) AllReadyH.nil
      clear hix hiy
      go_simp
      refine hK.out _ _ ⟨RA.out, RB.out⟩ (fun _ => ?_)
      clear hK K hH
      refine wpAnyH_done (by kernel_rfl) ?_ _
      clear NE
      go_wp2_with fail
      go_roundw
      case rel => exact ⟨j + 1, by omega, by go_num, BL9.out⟩
      case measure => simp [intOf]; omega
    · go_wp2_with fail
      go_ret
      exact ⟨rfl, BL.out⟩

end Go.Proofs.Ytfkjgfelgiogeaa
