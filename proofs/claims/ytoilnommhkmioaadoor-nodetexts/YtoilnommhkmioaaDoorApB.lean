/-
  The walk of apart.
-/
import Derived.Test.YtoilnommhkmioaaDoorApA
namespace Go.Proofs.YtoilnommhkmioaaDoor
open Go.RowKit

/-- Blocks of these lists. -/
def LB (n : Nat) (vs : Nat → Value) (g : Nat) : Prop := ∃ k, k < n ∧ (vs k).ownBlock = some g

theorem cell_new1 (w : World) (x : Value) (t : TypeId) : (w.alloc (.cells #[x] t)).cell? ⟨w.heap.size, 0, none⟩ = some x := by
  rw [cell_of_row _ _ _ _ _ _ (heap_alloc_new _ _)]; rfl
theorem A3.toTwo {w w1 w2 w3 : World} {gL n : Nat} {vs : Nat → Value} {ls : Nat → List Int} {k : Nat} {ms : Nat → Value} {more v : Value} (h : A3 w gL n vs ls k ms more) (c1 : Chg (fun _ => False) w w1) (c2 : Chg (fun g => some g = v.ownBlock) w1 w2) (e : vs k = v) (c3 : Chg (fun _ => False) w2 w3) (hk : k < n := by omega) :
    Chg (fun g => some g = v.ownBlock) w w3 ∧ ∀ g, more.ownBlock = some g → ¬ some g = v.ownBlock := by
  refine ⟨((c1.mono (fun _ _ h => h.elim)).trans c2 (fun _ e => .inl e)).trans c3 (fun _ e => e.elim), fun g hg e2 => ?_⟩
  obtain ⟨_, e3⟩ := row_lt h.mo hg
  obtain ⟨_, e4⟩ := own_block (h.own k hk) (by rw [e]; exact e2.symm)
  exact cells_ne e4 e3 (by decide) rfl

theorem A3.readM {w : World} {gL n : Nat} {vs : Nat → Value} {ls : Nat → List Int} {k : Nat} {ms : Nat → Value} {more : Value} (h : A3 w gL n vs ls k ms more) {q : Nat} (hq : q < k) : ∃ g c, more = .slice (some ⟨g, 0, none⟩) k c ∧ w.cell? ⟨g, q, none⟩ = some (ms q) ∧ k ≤ c := by
  rcases h.mo.2 with ⟨_, h0⟩ | ⟨g, cap, cur, e, _, hgg, h1, _⟩
  · omega
  · refine ⟨g, cap, e, ?_, h1⟩
    have := World.ownsRow.cells h.mo (g := g) (by rw [e]; rfl) q (ms q) (by simp [hq])
    rwa [addr_add, Nat.zero_add] at this

set_option maxRecDepth 100000 in
set_option maxHeartbeats 4000000 in
theorem apart_any {w : World} {gL n cp : Nat} {vs : Nat → Value} {ls : Nat → List Int} (h : AP w gL n vs ls) (hn : n ≤ 9) (hl : ∀ k, k < n → (ls k).length + 70 ≤ 140737488355328) :
    Calls Tryd.prog 17 #[.slice (some ⟨gL, 0, none⟩) n cp] w fun e w' => e = .returned (.bool true) ∧ Chg (LB n vs) w w' := by
  have H0 : Hid _ := h
  have HL : Hid _ := hl
  clear h hl
  go_enter Tryd.func17, Tryd.ntmps17
  go_wp2_with fail
  go_loopw [18] (fun s wr => ∃ k : Nat, k ≤ n ∧ s = .int .i64 k ∧ Hid (Chg (LB n vs) w wr ∧ ∃ ls', (∀ j, (ls' j).length = (ls j).length) ∧ (∀ j, j < k → Mk j (ls' j) (ls' j).length) ∧ AP wr gL n vs ls')) (fun s _ => n - (intOf s).toNat)
  case atStart => exact ⟨0, Nat.zero_le _, rfl, Chg.refl _ _, ls, fun _ => rfl, fun j hj => by omega, H0.out⟩
  case round =>
    obtain ⟨k, hk, rfl, hid⟩ := hrel
    obtain ⟨ch, ls1, hle, hmk, ap⟩ := hid.out
    clear hid
    by_cases hlt : k < n
    · have cL := ap.cell hlt
      obtain ⟨va, vc, hvf⟩ := (ap.own k hlt).form
      obtain ⟨nk, hnk⟩ : ∃ nk, nk = (ls1 k).length := ⟨_, rfl⟩
      have hnb : nk ≤ 140737488355328 := by have := HL.out k hlt; have := hle k; omega
      rw [← hnk] at hvf
      rw [hvf] at cL
      have HVF : Hid _ := hvf
      have I0 : Hid (Chg (LB n vs) w wr ∧ ∃ l', l'.length = nk ∧ Mk k l' 0 ∧ AP wr gL n vs (updL ls1 k l')) := ⟨ch, ls1 k, hnk.symm, fun j hj => by omega, by rw [updL_id]; exact ap⟩
      have HLE : Hid _ := hle
      have HMK : Hid _ := hmk
      have HNK : Hid _ := hnk
      clear ch hle hmk ap hvf hnk
      go_wp2_with fail
      clear cL
      go_loopw [25] (fun s wq => ∃ i : Nat, i ≤ nk ∧ s = .int .i64 i ∧ Hid (Chg (LB n vs) w wq ∧ ∃ l', l'.length = nk ∧ Mk k l' i ∧ AP wq gL n vs (updL ls1 k l'))) (fun s _ => nk - (intOf s).toNat)
      case atStart => exact ⟨0, Nat.zero_le _, rfl, I0.out⟩
      case round =>
        obtain ⟨i, hi, rfl, hid⟩ := hrel
        obtain ⟨ch, l', hll, hm, ap⟩ := hid.out
        clear hid
        by_cases hlt2 : i < nk
        · obtain ⟨g, c, e, ⟨bv, hcel⟩, hfz, hset⟩ := ap.set hlt (i := i) (by rw [updL_same]; omega)
          rw [HVF.out, updL_same, hll] at e
          injection e with e1 _ e3
          subst e1 e3
          have R : Hid (∀ x, x = mark k i → (Chg (LB n vs) w (wr.setCell ⟨g, i, none⟩ (.int .u8 x)) ∧ ∃ l', l'.length = nk ∧ Mk k l' (i + 1) ∧ AP (wr.setCell ⟨g, i, none⟩ (.int .u8 x)) gL n vs (updL ls1 k l'))) := fun x hx => by
            obtain ⟨h1, h2⟩ := hset x
            rw [updL_same, updL_upd] at h1
            refine ⟨ch.trans h2 (fun j e => .inl ⟨k, hlt, e.symm⟩), l'.set i x, by rw [List.length_set]; exact hll, ?_, h1⟩
            rw [hx]
            exact hm.step (by omega)
          clear ch hll hm ap hset
          go_wp2_with fail
          go_roundw
          case rel => exact ⟨i + 1, by omega, by go_num, R.out _ (wrap8 _)⟩
          case measure => simp [intOf]; omega
        · have hin : i = nk := by omega
          subst hin
          have R : Hid (Chg (LB n vs) w wr ∧ ∃ ls', (∀ j, (ls' j).length = (ls j).length) ∧ (∀ j, j < k + 1 → Mk j (ls' j) (ls' j).length) ∧ AP wr gL n vs ls') := by
            refine ⟨ch, _, fun j => ?_, fun j hj => ?_, ap⟩
            · by_cases e : j = k
              · subst e; rw [updL_same, hll, HNK.out]; exact HLE.out j
              · rw [updL_ne _ _ e]; exact HLE.out j
            · by_cases e : j = k
              · subst e; rw [updL_same, hll]; exact hm
              · rw [updL_ne _ _ e]; exact HMK.out j (by omega)
          clear ch hll hm ap
          go_wp2_with fail
          go_roundw
          case rel => exact ⟨k + 1, by omega, by go_num, R.out⟩
          case measure => simp [intOf]; omega
    · have hkn : k = n := by omega
      subst hkn
      obtain ⟨CH, hle', hmk', ap'⟩ : Hid (Chg (LB k vs) w wr) ∧ Hid (∀ j, (ls1 j).length = (ls j).length) ∧ Hid (∀ j, j < k → Mk j (ls1 j) (ls1 j).length) ∧ Hid (A3 wr gL k vs ls1 0 vs (.slice none 0 0)) := ⟨ch, hle, hmk, A3.start ap⟩
      clear ch hle hmk ap hlt hk
      go_wp2_with fail
      go_loopw [6, 42] (fun more s wq => ∃ (i : Nat) (ms : Nat → Value), i ≤ k ∧ s = .int .i64 i ∧ Hid (Chg (LB k vs) w wq ∧ (∀ g, more.ownBlock = some g → w.heap.size ≤ g) ∧ A3 wq gL k vs ls1 i ms more)) (fun _ s _ => k - (intOf s).toNat)
      case atStart => exact ⟨0, vs, Nat.zero_le _, rfl, CH.out, fun g hg => by simp [Value.ownBlock] at hg, ap'.out⟩
      case round =>
        obtain ⟨i, ms, hi, rfl, hid⟩ := hrel
        obtain ⟨ch, hmb, a3⟩ := hid.out
        clear hid
        by_cases hlt : i < k
        · have cL : wr.cell? ⟨gL, i, none⟩ = some (vs i) := by rw [a3.blk.cell]; simp [hlt]
          obtain ⟨va, vc, hvf⟩ := (a3.own i hlt).form
          obtain ⟨ni, hni⟩ : ∃ z, z = (ls1 i).length := ⟨_, rfl⟩
          rw [← hni] at hvf
          rw [hvf] at cL
          obtain ⟨wS, hwS⟩ : ∃ v, v = wr := ⟨_, rfl⟩
          subst hwS
          have hmk : ∀ w, (Instr.makeSlice 22 (.int .i64 70) (.int .i64 70)).run Tryd.prog w = .ok (.slice (some ⟨w.heap.size, 0, none⟩) 70 70) (w.alloc (.cells (zer 70).toArray 5)) := run_mk 70 (by omega)
          have HVF : Hid _ := hvf
          have HNI : Hid _ := hni
          have A0 : Hid _ := a3
          have C0 : Hid _ := ch
          have HMB : Hid _ := hmb
          have M0 : Hid (Made wS (wS.alloc (.cells (zer 70).toArray 5)) (.slice (some ⟨wS.heap.size, 0, none⟩) 70 70) (List.replicate 70 0)) := by
            have e : zer 70 = bs (List.replicate 70 0) := by simp [zer, bs]
            have o := own_full (w := wS.alloc (.cells (zer 70).toArray 5)) (g := wS.heap.size) (m := List.replicate 70 0) (by simp) (by rw [e]; exact heap_alloc_new _ _)
            rw [List.length_replicate] at o
            exact ⟨o, (Below.refl _ _).alloc (Nat.le_refl _) _, fun g hg => by simp [Value.ownBlock] at hg; omega⟩
          clear hvf hni a3 ch hmb
          go_wp2_with fail
          clear cL hmk
          obtain ⟨tg, htg⟩ : ∃ z, z = wS.heap.size := ⟨_, rfl⟩
          have HTG : Hid _ := htg
          rw [← htg]
          clear htg
          go_loopw [50] (fun s wq => ∃ q : Nat, q ≤ 70 ∧ s = .int .i64 q ∧ Hid (∃ l', l'.length = 70 ∧ (∀ j, j < q → l'[j]? = some ((200 + (i : Int)) % 256)) ∧ Made wS wq (.slice (some ⟨tg, 0, none⟩) 70 70) l')) (fun s _ => 70 - (intOf s).toNat)
          case atStart => exact ⟨0, Nat.zero_le _, rfl, List.replicate 70 0, by simp, fun j hj => by omega, by rw [HTG.out]; exact M0.out⟩
          case round =>
            obtain ⟨q, hq, rfl, hid⟩ := hrel
            obtain ⟨l', hl', hfl, md⟩ := hid.out
            clear hid
            by_cases hlt2 : q < 70
            · obtain ⟨bv, hbv⟩ : ∃ bv, bv = l'[q]'(by omega) := ⟨_, rfl⟩
              have hcel := md.1.byte q (by omega)
              rw [← hbv] at hcel
              have hfz := md.1.frz q
              have R : Hid (∀ x, x = (200 + (i : Int)) % 256 → ∃ l', l'.length = 70 ∧ (∀ j, j < q + 1 → l'[j]? = some ((200 + (i : Int)) % 256)) ∧ Made wS (wr.setCell ⟨tg, q, none⟩ (.int .u8 x)) (.slice (some ⟨tg, 0, none⟩) 70 70) l') := fun x hx => by
                refine ⟨l'.set q x, by rw [List.length_set]; exact hl', fun j hj => ?_, md.set q x⟩
                by_cases e : j = q
                · subst e; rw [List.getElem?_set_self (by omega), hx]
                · rw [List.getElem?_set_ne (fun e2 => e e2.symm)]; exact hfl j (by omega)
              clear hl' hfl md hbv
              go_wp2_with fail
              go_roundw
              case rel => exact ⟨q + 1, by omega, by go_num, R.out _ (by omega)⟩
              case measure => simp [intOf]; omega
            · have hq70 : q = 70 := by omega
              subst hq70
              have el : l' = tlL i := by
                apply List.ext_getElem?
                intro j
                by_cases hj : j < 70
                · rw [hfl j hj, tlL, List.getElem?_replicate, if_pos hj]
                · rw [List.getElem?_eq_none (by omega), List.getElem?_eq_none (by rw [tlL, List.length_replicate]; omega)]
              subst el
              have MD : Hid _ := md
              have c1 : Chg (fun _ => False) wS wr := Chg.of_below md.2.1 _
              have OV : Hid (Own wr (.slice va ni vc) (ls1 i)) := by rw [← HVF.out]; exact (A0.out.own i hlt).kept c1 (fun _ _ h => h)
              have hnb : (ls1 i).length + (tlL i).length ≤ 140737488355328 := by have := HL.out i hlt; have := hle'.out i; rw [tlL, List.length_replicate]; omega
              have HNB : Hid _ := hnb
              have C1 : Hid _ := c1
              clear hnb
              clear hfl md hl' c1
              go_upto_region 21 with (refine wpList_app_keep rfl (.tmp 60) (.tmp 61) rfl (l := ls1 i) (m := tlL i) rfl rfl OV.out (Own.src MD.out.1) (by simp [tlL]) HNB.out ?_; intro v2 w2 o2 p2 c2 a2; have O2 : Hid _ := o2; have P2 : Hid _ := p2; have C2 : Hid _ := c2; have A2 : Hid _ := a2; obtain ⟨v2a, v2c, hv2⟩ := o2.form; obtain ⟨n2, hn2⟩ : ∃ z, z = (ls1 i ++ tlL i).length := ⟨_, rfl⟩; rw [← hn2] at hv2; have HV2 : Hid _ := hv2; subst hv2; clear o2 p2 c2 a2 hn2)
              have hmo : Hid (∀ o, (w2.alloc o).ownsRow 0 22 1 u6 i ((List.range i).map ms)) := fun o => row_keep (A0.out.mo) (A3.toTwo A0.out C1.out C2.out HVF.out ((Chg.refl (fun _ => False) w2).alloc o)).1 (A3.toTwo A0.out C1.out C2.out HVF.out ((Chg.refl (fun _ => False) w2).alloc o)).2
              go_wp2_with (refine wpList_appS rfl (.tmp 63) (.tmp 65) rfl (v := u6) (k := i) (g := w2.heap.size) (u := .slice v2a n2 v2c) rfl rfl (hmo.out _) (cell_new1 _ _ _) rfl (by omega) ?_; intro m4 w4 r4 c4 a4; have R4 : Hid _ := r4; have C4 : Hid _ := c4; have A4 : Hid _ := a4; clear r4 c4 a4)
              go_roundw
              case rel =>
                obtain ⟨s1, s2⟩ := A0.out.step hlt C1.out O2.out (by rw [HVF.out]; exact P2.out) (by rw [HVF.out]; exact C2.out) (by rw [HVF.out]; exact A2.out) ((Chg.refl (fun _ => False) w2).alloc _) R4.out C4.out A4.out
                refine ⟨i + 1, _, by omega, by go_num, C0.out.trans s2 (fun g e => ?_), fun g hg => ?_, s1⟩
                · rcases e with e | e
                  · exact .inl ⟨i, hlt, e.symm⟩
                  · exact .inr (HMB.out g e.symm)
                · rcases A4.out with e | e
                  · exact HMB.out g (by rw [← e]; exact hg)
                  · rw [hg] at e
                    injection e with e
                    have := C0.out.size
                    have := C1.out.size
                    have := C2.out.size
                    simp at e
                    omega
              case measure => simp [intOf]; omega
        · have hik : i = k := by omega
          subst hik
          obtain ⟨wT, hwT⟩ : ∃ v, v = wr := ⟨_, rfl⟩
          subst hwT
          have A0 : Hid _ := a3
          have C0 : Hid _ := ch
          clear a3 ch hmb hlt hi
          go_wp2_with fail
          go_loopw [70] (fun s wq => ∃ q m : Nat, q ≤ i ∧ s = .int .i64 q ∧ wq = wT.drewN m) (fun s _ => i - (intOf s).toNat)
          case atStart => exact ⟨0, 0, Nat.zero_le _, rfl, rfl⟩
          case round =>
            obtain ⟨q, m, hq, rfl, rfl⟩ := hrel
            by_cases hlt : q < i
            · obtain ⟨gM, cM, hM, cm, lm⟩ := A0.out.readM hlt
              subst hM
              obtain ⟨va, vc, hvf⟩ := (A0.out.own q hlt).form
              obtain ⟨hb, hc, hhf, hh1, hh2⟩ := Own.form2 (A0.out.mow q hlt) (by simp [tlL])
              obtain ⟨nq, hnq⟩ : ∃ z, z = (ls1 q).length := ⟨_, rfl⟩
              have hlen : (ls1 q ++ tlL q).length = nq + 70 := by rw [List.length_append, hnq, tlL, List.length_replicate]
              rw [hlen] at hhf hh1
              rw [← hnq] at hvf
              have hnb : nq ≤ 140737488355258 := by have := HL.out q hlt; have := hle'.out q; omega
              have cL : ∀ m, (wT.drewN m).cell? ⟨gL, q, none⟩ = some (.slice va nq vc) := fun m => by
                have : wT.cell? ⟨gL, q, none⟩ = some (vs q) := by rw [A0.out.blk.cell]; simp [hlt]
                rw [hvf] at this; exact this
              have cM' : ∀ m, (wT.drewN m).cell? ⟨gM, q, none⟩ = some (.slice (some ⟨hb, 0, none⟩) (nq + 70) hc) := fun m => by rw [← hhf]; exact cm
              have RA : Hid (∀ j m, j < nq → ∃ g, va = some ⟨g, 0, none⟩ ∧ (wT.drewN m).cell? ⟨g, j, none⟩ = some (.int .u8 (mark q j))) := fun j m hj => by
                have ho := A0.out.own q hlt
                rw [hvf] at ho
                rcases owns_form ho with ⟨e, h0⟩ | ⟨g, c, e⟩
                · omega
                · injection e with e1 e2 e3
                  subst e1 e3
                  refine ⟨g, rfl, ?_⟩
                  have h2 := ho.byte j (by omega)
                  have h3 := hmk'.out q hlt j (by omega)
                  rw [List.getElem?_eq_getElem (by omega)] at h3
                  injection h3 with h3
                  rw [h3] at h2
                  exact h2
              have RM : Hid (∀ j m, j < nq + 70 → (wT.drewN m).cell? ⟨hb, j, none⟩ = some (.int .u8 (if j < nq then mark q j else 200 + q))) := fun j m hj => by
                have ho := A0.out.mow q hlt
                rw [hhf] at ho
                have h2 := ho.byte j (by omega)
                have h3 : (ls1 q ++ tlL q)[j]'(by omega) = (if j < nq then mark q j else 200 + q) := by
                  have h4 : (ls1 q ++ tlL q)[j]? = some (if j < nq then mark q j else 200 + q) := by
                    by_cases e : j < nq
                    · rw [if_pos e, List.getElem?_append_left (by omega)]
                      exact hmk'.out q hlt j (by omega)
                    · rw [if_neg e, List.getElem?_append_right (by omega), tlL, List.getElem?_replicate, if_pos (by omega)]
                      congr 1
                      omega
                  rw [List.getElem?_eq_getElem (by omega)] at h4
                  injection h4
                rw [h3] at h2
                exact h2
              clear hvf hhf hnq hlen cm
              go_wp2_with fail
              go_loopw [77] (fun s wq => ∃ j m : Nat, j ≤ nq ∧ s = .int .i64 j ∧ wq = wT.drewN m) (fun s _ => nq - (intOf s).toNat)
              case atStart => exact ⟨0, m, Nat.zero_le _, rfl, rfl⟩
              case round =>
                obtain ⟨j, m2, hj, rfl, rfl⟩ := hrel
                by_cases hlt2 : j < nq
                · obtain ⟨g, rfl, _⟩ := RA.out j m2 hlt2
                  obtain ⟨mk, hmkk⟩ : ∃ z, z = mark q j := ⟨_, rfl⟩
                  have ca : ∀ m, (wT.drewN m).cell? ⟨g, j, none⟩ = some (.int .u8 mk) := fun m => by
                    obtain ⟨g', e, h⟩ := RA.out j m hlt2
                    injection e with e
                    injection e with e
                    subst e
                    rw [hmkk]; exact h
                  have cb : ∀ m, (wT.drewN m).cell? ⟨hb, j, none⟩ = some (.int .u8 mk) := fun m => by
                    have h := RM.out j m (by omega)
                    rw [if_pos hlt2] at h
                    rw [hmkk]; exact h
                  have hw : IntKind.u8.wrap (41 * (q : Int) + 7 * j + 1) = mk := by rw [hmkk]; exact wrap8 _
                  clear hmkk
                  go_wp2_with fail
                  go_quiet (fail)
                  go_wp2_with fail
                  go_roundw
                  case rel => exact ⟨j + 1, _, by omega, by go_num, rfl⟩
                  case measure => simp [intOf]; omega
                · have hjn : j = nq := by omega
                  subst hjn
                  clear hlt2 hj RA
                  go_wp2_with fail
                  go_loopw [15] (fun s wq => ∃ i2 m : Nat, i2 ≤ 70 ∧ s = .int .i64 ((j + i2 : Nat) : Int) ∧ wq = wT.drewN m) (fun s _ => j + 70 - (intOf s).toNat)
                  case atStart => exact ⟨0, _, Nat.zero_le _, by go_num, rfl⟩
                  case round =>
                    obtain ⟨i2, m3, hi2, rfl, rfl⟩ := hrel
                    by_cases hlt3 : i2 < 70
                    · have cb : ∀ m, (wT.drewN m).cell? ⟨hb, j + i2, none⟩ = some (.int .u8 (200 + q)) := fun m => by
                        have h := RM.out (j + i2) m (by omega)
                        rw [if_neg (by omega)] at h
                        exact h
                      go_wp2_with fail
                      go_roundw
                      case rel => exact ⟨i2 + 1, _, by omega, by go_num, rfl⟩
                      case measure => simp [intOf]; omega
                    · have e70 : i2 = 70 := by omega
                      subst e70
                      go_wp2_with fail
                      go_roundw
                      case rel => exact ⟨q + 1, _, by omega, by go_num, rfl⟩
                      case measure => simp [intOf]; omega
            · have hqi : q = i := by omega
              subst hqi
              go_wp2_with fail
              go_ret
              exact ⟨rfl, C0.out.trans (drewN_chg wT m (LB q vs)) (fun _ e => .inl e)⟩
end Go.Proofs.YtoilnommhkmioaaDoor
