/-
  The reference's Write that is refused; Flush.
-/
import Derived.Test.YtddnecfnjnipjaaRfC
namespace Go.Proofs.Ytddnecfnjnipjaa
open Go.RowKit

section
variable {w w' : World} {q S z b : Nat} {y : RN} {dl cl : List Dd} {dv cv : Value} {C : Nat → List Int}

set_option maxRecDepth 100000 in
set_option maxHeartbeats 4000000 in
theorem RD.writeNo (h : RD w q S z b y dl cl dv cv C) {ab : Option Addr} {n cb : Nat} (i : Int) (hn : ¬ ((0 ≤ i ∧ i < S) ∧ n = z)) :
    Calls Try.prog 23 #[.pointer (some ⟨q, 0, none⟩), .int .i64 i, .slice ab n cb] w fun e w' => e = .returned (.int .i64 31) ∧ w' = w := by
  have hhas := rhas_any h.row i
  have c1 : w.cell? ⟨q, 1, none⟩ = some (.int .i64 z) := h.row.cell 1
  by_cases hi : 0 ≤ i ∧ i < S
  · rw [decide_eq_true hi] at hhas
    have HH : Hid _ := hhas
    have hnz : ¬ (n : Int) = z := by omega
    clear h hhas
    go_enter Try.func23, Try.ntmps23
    go_wp2_with (go_at_call 58; refine Calls.mono HH.out ?_; rintro e w9 ⟨rfl, h9⟩; subst h9)
    go_ret
    exact ⟨rfl, rfl⟩
  · rw [decide_eq_false hi] at hhas
    have HH : Hid _ := hhas
    clear h hhas
    go_enter Try.func23, Try.ntmps23
    go_wp2_with (go_at_call 58; refine Calls.mono HH.out ?_; rintro e w9 ⟨rfl, h9⟩; subst h9)
    go_ret
    exact ⟨rfl, rfl⟩

set_option maxRecDepth 100000 in
set_option maxHeartbeats 4000000 in
theorem RD.writeOff (h : RD w q S z b y dl cl dv cv C) {ab : Option Addr} {cb : Nat} (i : Int) (hi : 0 ≤ i ∧ i < S) (hf : y.fused = true → 0 ≤ y.fuse ∧ y.fuse ≤ 9223372036854775807) (hE : rbE y = false) :
    Calls Try.prog 23 #[.pointer (some ⟨q, 0, none⟩), .int .i64 i, .slice ab z cb] w fun e w' => e = .returned (.int .i64 32) ∧ Chg (fun g => g = q) w w' ∧ RD w' q S z b (rbN y) dl cl dv cv C := by
  have hhas := rhas_any h.row i
  rw [decide_eq_true hi] at hhas
  have HH : Hid _ := hhas
  have c1 : w.cell? ⟨q, 1, none⟩ = some (.int .i64 z) := h.row.cell 1
  have bu := rburn_any h.row hf
  rw [hE] at bu
  have BU : Hid _ := bu
  have H : Hid _ := h
  clear h hhas bu hf hE
  go_enter Try.func23, Try.ntmps23
  go_wp2_with (go_at_call 58; refine Calls.mono HH.out ?_; rintro e w9 ⟨rfl, h9⟩; subst h9)
  refine Calls.mono BU.out ?_
  rintro e w1 ⟨rfl, r1, ch1⟩
  have R1 : Hid _ := r1
  have C1 : Hid _ := ch1
  clear r1 ch1 c1 HH BU
  go_wp2_with fail
  go_ret
  exact ⟨rfl, C1.out, H.out.turn C1.out R1.out⟩

theorem RD.dq (h : RD w q S z b y dl cl dv cv C) : dv.ownBlock ≠ some q := fun e => by
  obtain ⟨cur, e1⟩ := h.dn.block e
  exact cells_ne e1 h.row.eq (by decide) rfl
theorem RD.cq (h : RD w q S z b y dl cl dv cv C) : cv.ownBlock ≠ some q := fun e => by
  obtain ⟨cur, e1⟩ := h.cn.block e
  exact cells_ne e1 h.row.eq (by decide) rfl
/-- A block of bytes is none of these. -/
theorem RD.own5 (h : RD w q S z b y dl cl dv cv C) {v : Value} {l : List Int} (ho : Own w v l) {k : Nat} (hk : v.ownBlock = some k) : k ≠ q ∧ dv.ownBlock ≠ some k ∧ cv.ownBlock ≠ some k := by
  obtain ⟨cur, e⟩ := own_block ho hk
  refine ⟨cells_ne e h.row.eq (by decide), fun e2 => ?_, fun e2 => ?_⟩
  · obtain ⟨cur2, e2⟩ := h.dn.block e2
    exact cells_ne e e2 (by decide) rfl
  · obtain ⟨cur2, e2⟩ := h.cn.block e2
    exact cells_ne e e2 (by decide) rfl

/-- The cache is emptied, what is done has grown by some of it. -/
theorem RD.moved (h : RD w q S z b y dl cl dv cv C) (k : Chg (fun k => k = q ∨ some k = dv.ownBlock) w w') {dl' : List Dd} {dv' : Value} {y' : RN} (hd : Dl w' z dv' dl') (r : Rw w' q (rrow S z dv' (.slice none 0 0) y') 52) (hm : ∀ d ∈ dl', d ∈ dl ∨ ∃ d0 ∈ cl, ∃ n, n ≤ z ∧ d = { d0 with n := n }) (hl : dl'.length ≤ b) :
    RD w' q S z b y' dl' [] dv' (.slice none 0 0) C := by
  have keep : ∀ {v : Value} {l : List Int}, Own w v l → Own w' v l := fun {v l} ho => ho.kept k (fun g hg e => by
    obtain ⟨h1, h2, _⟩ := h.own5 ho hg
    rcases e with e | e
    · exact h1 e
    · exact h2 e.symm)
  refine ⟨r, hd, Dl.nil _ _, fun g _ e => by simp [Value.ownBlock] at e, fun d hd ht => ?_, fun d hd ht => ?_, fun d hd => (by cases hd), fun d hd => ?_, fun d hd => (by cases hd), List.nodup_nil, fun d hd => (by cases hd), by simpa using hl⟩
  · rcases hm d hd with h1 | ⟨d0, h1, n, hn, rfl⟩
    · exact ⟨keep (h.db d h1 ht).1, (h.db d h1 ht).2⟩
    · exact ⟨keep (h.cb d0 h1).2.2.1, (h.cb d0 h1).2.2.2, hn⟩
  · rcases hm d hd with h1 | ⟨d0, h1, n, hn, rfl⟩
    · exact h.dt d h1 ht
    · have := (h.cb d0 h1).1
      rw [show d0.turn = true from ht] at this
      cases this
  · rcases hm d hd with h1 | ⟨d0, h1, n, hn, rfl⟩
    · exact h.ds d h1
    · exact h.cs d0 h1

/-- Deeds laid behind deeds, whatever the slice. -/
theorem run_appRR (w : World) (ty : TypeId) {z : Nat} {v u : Value} {l m : List Dd} (hv : Dl w z v l) (hu : Dl w z u m) (hb : l.length + m.length ≤ 2199023255552) :
    ∃ v' w', (Builtin.append_ #[49, 49] ty #[v, u]).run Try.prog w = .ok v' w' ∧ Dl w' z v' (l ++ m) ∧ Chg (fun k => some k = v.ownBlock) w w' ∧ (v'.ownBlock = v.ownBlock ∨ ∃ k, v'.ownBlock = some k ∧ w.heap.size ≤ k) := by
  rcases owns_form hu with ⟨rfl, h0⟩ | ⟨g, c, rfl⟩
  · rw [List.eq_nil_of_length_eq_zero h0, List.append_nil]
    exact ⟨v, w, run_appR0 w ty hv, hv, Chg.refl _ _, .inl rfl⟩
  · obtain ⟨v', w', h1, h2, h3, h4⟩ := run_appR w ty hv (m := m) ⟨g, 0, none⟩ c (fun j u hu' => World.ownsRow.cells hu (g := g) rfl j u hu') hb
    exact ⟨v', w', h1, h2, h3, h4.imp id (fun e => ⟨_, e, Nat.le_refl _⟩)⟩

set_option maxRecDepth 100000 in
set_option maxHeartbeats 4000000 in
theorem RD.flushNo (h : RD w q S z b y dl cl dv cv C) (hf : y.fused = true → 0 ≤ y.fuse ∧ y.fuse ≤ 9223372036854775807) (hE : rbE y = false) :
    Calls Try.prog 26 #[.pointer (some ⟨q, 0, none⟩)] w fun e w' => e = .returned (.int .i64 32) ∧ Chg (fun g => g = q) w w' ∧ RD w' q S z b (rbN y) dl cl dv cv C := by
  have bu := rburn_any h.row hf
  rw [hE] at bu
  have BU : Hid _ := bu
  have H : Hid _ := h
  clear h bu hf hE
  go_enter Try.func26, Try.ntmps26
  go_wp2_with fail
  refine Calls.mono BU.out ?_
  rintro e w1 ⟨rfl, r1, ch1⟩
  have R1 : Hid _ := r1
  have C1 : Hid _ := ch1
  clear r1 ch1 BU
  go_wp2_with fail
  go_ret
  exact ⟨rfl, C1.out, H.out.turn C1.out R1.out⟩

set_option maxRecDepth 100000 in
set_option maxHeartbeats 4000000 in
theorem RD.flush (h : RD w q S z b y dl cl dv cv C) (hb : b < 2199023255552) (hf : y.fused = true → 0 ≤ y.fuse ∧ y.fuse ≤ 9223372036854775807) (hE : rbE y = true) :
    Calls Try.prog 26 #[.pointer (some ⟨q, 0, none⟩)] w fun e w' => e = .returned (.int .i64 0) ∧ Chg (fun g => g = q ∨ some g = dv.ownBlock) w w' ∧ ∃ dv', RD w' q S z b { rbN y with fl := inc (rbN y).fl } (dl ++ cl) [] dv' (.slice none 0 0) C ∧ (dv'.ownBlock = dv.ownBlock ∨ ∃ k, dv'.ownBlock = some k ∧ w.heap.size ≤ k) := by
  have bu := rburn_any h.row hf
  rw [hE] at bu
  have BU : Hid _ := bu
  have H : Hid _ := h
  obtain ⟨y1, hy1⟩ : ∃ y1, y1 = rbN y := ⟨_, rfl⟩
  rw [← hy1] at BU ⊢
  clear h bu hf hE hy1
  go_enter Try.func26, Try.ntmps26
  go_wp2_with fail
  refine Calls.mono BU.out ?_
  rintro e w1 ⟨rfl, r1, ch1⟩
  have c10 : w1.cell? ⟨q, 10, none⟩ = some (.int .u64 y1.fl) := r1.cell 10
  have f10 := r1.fr 10
  obtain ⟨w2, hw2⟩ : ∃ w2, w1.setCell ⟨q, 10, none⟩ (.int .u64 (inc y1.fl)) = w2 := ⟨_, rfl⟩
  have R2 : Hid (Rw w2 q (rrow S z dv cv { y1 with fl := inc y1.fl }) 52) := by rw [← hw2]; exact Rw.set r1 10 (.int .u64 (inc y1.fl))
  have C2 : Hid (Chg (fun i => i = q) w w2) := by rw [← hw2]; exact ch1.setCell (.inl rfl) _
  have hw2' : w1.setCell ⟨q, 10, none⟩ (.int .u64 (IntKind.u64.wrap (y1.fl + 1))) = w2 := hw2
  have H2 := H.out.turn C2.out R2.out
  obtain ⟨v', w7, ha, hd7, k7, hv7⟩ := run_appRR w2.drew 49 (v := dv) (u := cv) (l := dl) (m := cl) H2.dn H2.cn (by have := H2.len; omega)
  obtain ⟨n7, a7, c7, rfl⟩ : ∃ n a c, v' = .slice a n c := by
    rcases owns_form hd7 with ⟨e, _⟩ | ⟨g, c, e⟩
    · exact ⟨_, _, _, e⟩
    · exact ⟨_, _, _, e⟩
  have k7' : Chg (fun k => some k = dv.ownBlock) w2 w7 := ⟨k7.os, k7.tape, k7.output, k7.size, k7.block⟩
  have R7 : Hid (Rw w7 q (rrow S z dv cv { y1 with fl := inc y1.fl }) 52) := ⟨k7'.heap_some R2.out.eq (fun e => H2.dq e.symm)⟩
  have HA : Hid _ := ha
  have D7 : Hid _ := hd7
  have K7 : Hid _ := k7'
  have HV : Hid ((Value.slice a7 n7 c7).ownBlock = dv.ownBlock ∨ ∃ k, (Value.slice a7 n7 c7).ownBlock = some k ∧ w.heap.size ≤ k) := hv7.imp id (fun ⟨k, e1, e2⟩ => ⟨k, e1, Nat.le_trans C2.out.size e2⟩)
  clear r1 ch1 BU hw2 ha hd7 k7 k7' hv7 H2
  have hH : w2.drew.cell? ⟨q, 4, none⟩ = some cv := R2.out.cell 4
  have c3 : w2.drew.cell? ⟨q, 3, none⟩ = some dv := R2.out.cell 3
  go_upto_region 5 with fail
  refine wp_region_noPanic ?_
  refine wp_region_held_drew (S := fun w' => w'.cell? ⟨q, 4, none⟩ = some cv) (by kernel_rfl) hH (fun hH => ?_)
  refine wpAnyH_take (i := 0) (v := .pointer (some ⟨q, 0, none⟩)) rfl (by kernel_rfl) (by kernel_rfl) (by kernel_rfl) (fun _ _ _ h => h) (Or.inl ⟨by rfl, fun w' hw' => by go_simp⟩) hH ?_
  refine wpAnyH_take (i := 1) (v := .pointer (some ⟨q, 0, none⟩)) rfl (by kernel_rfl) (by kernel_rfl) (by kernel_rfl) (fun _ _ _ h => h) (Or.inl ⟨by rfl, fun w' hw' => by go_simp⟩) hH ?_
  refine wpAnyH_take (i := 2) (v := .pointer (some ⟨q, 0, none⟩)) rfl (by kernel_rfl) (by kernel_rfl) (by kernel_rfl) (fun _ _ _ h => h) (Or.inl ⟨by rfl, fun w' hw' => by go_simp⟩) hH ?_
  refine wpAnyH_take (i := 3) (v := .pointer (some ⟨q, 3, none⟩)) rfl (by kernel_rfl) (by kernel_rfl) (by kernel_rfl) (fun _ _ _ h => h) (Or.inl ⟨by rfl, fun w' hw' => by go_simp⟩) hH ?_
  refine wpAnyH_take (i := 5) (v := .pointer (some ⟨q, 0, none⟩)) rfl (by kernel_rfl) (by kernel_rfl) (by kernel_rfl) (fun _ _ _ h => h) (Or.inl ⟨by rfl, fun w' hw' => by go_simp⟩) hH ?_
  refine wpAnyH_take (i := 6) (v := .pointer (some ⟨q, 0, none⟩)) rfl (by kernel_rfl) (by kernel_rfl) (by kernel_rfl) (fun _ _ _ h => h) (Or.inl ⟨by rfl, fun w' hw' => by go_simp⟩) hH ?_
  refine wpAnyH_take (i := 7) (v := .pointer (some ⟨q, 4, none⟩)) rfl (by kernel_rfl) (by kernel_rfl) (by kernel_rfl) (fun _ _ _ h => h) (Or.inl ⟨by rfl, fun w' hw' => by go_simp⟩) hH ?_
  refine wpAnyH_take (i := 8) (v := cv) rfl (by kernel_rfl) (by kernel_rfl) (by kernel_rfl) (fun _ _ _ h => h) (Or.inl ⟨by rfl, fun w' hw' => by have q1 := hw'; go_simp⟩) hH ?_
  refine wpAnyH_ready (rs := [4]) (by kernel_rfl) (by simp) ?_
  refine AllReadyH.cons rfl (fun KK hKK => ?_) AllReadyH.nil
  go_simp
  refine hKK.out _ _ hH (fun h1 => ?_)
  clear hKK KK
  refine wpAnyH_ready (rs := [9]) (by kernel_rfl) (by simp) ?_
  refine AllReadyH.cons rfl (fun KK hKK => ?_) AllReadyH.nil
  refine step_appR rfl (.tmp 19) (.tmp 23) rfl (v := dv) (u := cv) (by kernel_rfl) (by kernel_rfl) HA.out ?_
  have q7 : w7.cell? ⟨q, 4, none⟩ = some cv := R7.out.cell 4
  refine hKK.out _ _ q7 (fun h3 => ?_)
  clear hKK KK
  refine wpAnyH_take (i := 10) (v := .pointer (some ⟨q, 0, none⟩)) rfl (by kernel_rfl) (by kernel_rfl) (by kernel_rfl) (fun _ _ _ h => h) (Or.inl ⟨by rfl, fun w' hw' => by go_simp⟩) q7 ?_
  refine wpAnyH_take (i := 11) (v := .pointer (some ⟨q, 3, none⟩)) rfl (by kernel_rfl) (by kernel_rfl) (by kernel_rfl) (fun _ _ _ h => h) (Or.inl ⟨by rfl, fun w' hw' => by go_simp⟩) q7 ?_
  have k73 : w7.cell? ⟨q, 3, none⟩ = some dv := R7.out.cell 3
  have f73 := R7.out.fr 3
  refine wpAnyH_ready (rs := [12]) (by kernel_rfl) (by simp) ?_
  refine AllReadyH.cons rfl (fun KK hKK => ?_) AllReadyH.nil
  go_simp
  have R8 : Hid _ := Rw.set R7.out 3 (.slice a7 n7 c7)
  have q8 : (w7.setCell ⟨q, 3, none⟩ (.slice a7 n7 c7)).cell? ⟨q, 4, none⟩ = some cv := R8.out.cell 4
  refine hKK.out _ _ q8 (fun _ => ?_)
  clear hKK KK
  refine wpAnyH_done (by kernel_rfl) (NoPanic.normal ?_) _
  have f84 := R8.out.fr 4
  clear q7 k73 f73 h3 h1 c3 hH hw2' c10 f10
  go_wp2_with fail
  have R9 : Rw _ q (rrow S z (.slice a7 n7 c7) (.slice none 0 0) { y1 with fl := inc y1.fl }) 52 := Rw.set R8.out 4 (.slice none 0 0)
  have c9 : Chg (fun i => i = q) w7 ((w7.setCell ⟨q, 3, none⟩ (.slice a7 n7 c7)).setCell ⟨q, 4, none⟩ (.slice none 0 0)) := ((Chg.refl (fun i => i = q) _).setCell (.inl rfl) _).setCell (.inl rfl) _
  have CH : Chg (fun g => g = q ∨ some g = dv.ownBlock) w ((w7.setCell ⟨q, 3, none⟩ (.slice a7 n7 c7)).setCell ⟨q, 4, none⟩ (.slice none 0 0)) := (((C2.out.mono (fun _ _ e => .inl e)).trans K7.out (fun _ e => .inl (.inr e)))).trans c9 (fun _ e => .inl (.inl e))
  have hdq : (Value.slice a7 n7 c7).ownBlock ≠ some q := fun e => by
    rcases HV.out with e1 | ⟨k, e1, e2⟩
    · exact H.out.dq (by rw [← e1]; exact e)
    · have := H.out.row.lt
      rw [e] at e1
      injection e1 with e1
      omega
  go_ret
  refine ⟨rfl, CH, _, H.out.moved CH (Dl.chg D7.out c9 (fun k hk e => hdq (by rw [← e]; exact hk))) R9 (fun d hd => ?_) (by have := H.out.len; rw [List.length_append]; exact this), HV.out⟩
  rcases List.mem_append.1 hd with hd | hd
  · exact .inl hd
  · exact .inr ⟨d, hd, z, Nat.le_refl _, by
      have := (H.out.cb d hd).2.1
      rw [← this]⟩
end
end Go.Proofs.Ytddnecfnjnipjaa
