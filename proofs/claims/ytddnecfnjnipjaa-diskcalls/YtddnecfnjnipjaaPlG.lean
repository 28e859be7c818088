/-
  powered: Crash.
-/
import Derived.Test.YtddnecfnjnipjaaPlF
namespace Go.Proofs.Ytddnecfnjnipjaa
open Go.RowKit

theorem info4b : (Try.prog.info? 4).map (fun i => (i.zero, i.size, i.bytes)) = some (some (.bool false), 1, 1) := by kernel_rfl
/-- append of bools to nothing: a copy. -/
theorem run_appK (w : World) (ty : TypeId) {ka : Option Addr} {kn kc : Nat} {kl : List Bool} (hk : KB w ka kn kl) (hn : kn ≤ 140737488355328) :
    ∃ va vc w', (Builtin.append_ #[42, 42] ty #[.slice none 0 0, .slice ka kn kc]).run Try.prog w = .ok (.slice va kn vc) w' ∧ KB w' va kn kl ∧ Chg (fun _ => False) w w' ∧ ∀ g o, 0 < kn → va = some ⟨g, o, none⟩ → w.heap.size ≤ g := by
  obtain ⟨i0, hi, hz0, hz1, hz2⟩ := info_parts info4b
  cases ka with
  | none =>
    have h0 : kn = 0 := by
      rcases Nat.eq_zero_or_pos kn with e | e
      · exact e
      · obtain ⟨g, o, e2, _⟩ := hk.row 0 e
        cases e2
    subst h0
    refine ⟨none, 0, w, ?_, hk, Chg.refl _ _, fun g o h => by omega⟩
    simp [Builtin.append_, run_underlying Try.underlying42, sizeOf, typeInfo, hi, Builtin.lenOf, Builtin.firstCells]
  | some ad =>
    have hcells : ∀ j u, (kl.map Value.bool)[j]? = some u → w.cell? (ad.add j) = some u := fun j u hu => by
      have hj : j < kl.length := by have := (List.getElem?_eq_some_iff.1 hu).1; simpa using this
      obtain ⟨g, o, e, hc⟩ := hk.row j (by rw [hk.len]; exact hj)
      obtain rfl := Option.some.inj e
      rw [addr_add, hc]
      rw [List.getElem?_map, List.getElem?_eq_getElem hj] at hu
      rw [List.getD_eq_getElem?_getD, List.getElem?_eq_getElem hj]
      simpa using hu
    obtain ⟨v', w1, r1, r2, r3, r4, r5⟩ := run_append_own_at (P := Try.prog) w 0 42 ty 4 i0 _ 1 1 Try.underlying42 hi hz0 hz1 hz2 rfl (by decide) (.slice none 0 0) 0 [] (World.ownsRow_nil w 0 4 1) ad kn kc (kl.map Value.bool) (by rw [List.length_map, Nat.mul_one]; exact hk.len.symm) hcells (fun u hu => by
      obtain ⟨b, _, rfl⟩ := List.mem_map.1 hu
      rfl) (by unfold maxLen; omega) (by omega) (Nat.zero_le _)
    rw [Nat.zero_add, List.nil_append] at r2
    have ch : Chg (fun _ => False) w w1 := ⟨r3.os, r3.tape, r3.output, r3.size, fun k hk _ => r3.block k hk (by simp [Value.ownBlock])⟩
    rcases owns_form r2 with ⟨e, h0⟩ | ⟨g, c, e⟩
    · subst h0
      exact ⟨none, 0, w1, by rw [r1, e], ⟨hk.len, fun i h => by omega, by omega⟩, ch, fun g o h => by omega⟩
    · refine ⟨_, c, w1, by rw [r1, e], ⟨hk.len, fun i hi => ⟨g, 0, rfl, ?_⟩, by omega⟩, ch, fun g' o h e2 => ?_⟩
      · have hj : i < kl.length := by rw [← hk.len]; exact hi
        have := World.ownsRow.cells r2 (g := g) (by rw [e]; rfl) i (.bool (kl.getD i false)) (by rw [List.getElem?_map, List.getD_eq_getElem?_getD, List.getElem?_eq_getElem hj]; rfl)
        rwa [addr_add] at this
      · have e2 := Option.some.inj e2
        have e2 : g = g' := congrArg Addr.block e2
        subst e2
        rcases r5 with e3 | e3
        · rw [e] at e3; simp [Value.ownBlock] at e3
        · rw [e] at e3; simp [Value.ownBlock] at e3; omega
theorem wpList_appK {ops : Array Oper} {rest : List Oper} {o : Oper} {a : Act} {w : World} {Q : Exit → Act → World → Prop} (hgd : o.guard = none) (s x : Operand)
    (ho : o.op = .call { callee := .builtin .append, args := #[s, x], argTypes := #[42, 42] }) {ka : Option Addr} {kn kc : Nat} {kl : List Bool} (hs : a.eval s = .slice none 0 0) (hx : a.eval x = .slice ka kn kc) (hk : KB w ka kn kl) (hn : kn ≤ 140737488355328)
    (h : ∀ va vc w', KB w' va kn kl → Chg (fun _ => False) w w' → (∀ g o, 0 < kn → va = some ⟨g, o, none⟩ → w.heap.size ≤ g) → wpList Try.prog ops Q rest (a.put o.dst (.slice va kn vc)) w') :
    wpList Try.prog ops Q (o :: rest) a w := by
  refine wpList_plain hgd fun K hK => ?_
  obtain ⟨va, vc, w', hr, h2, h3, h5⟩ := run_appK w o.type (kc := kc) hk hn
  unfold Oper.wp execOp
  simp only [ho, resolve, invoke, builtin, Sem.run_bind, Sem.run_pure, Result.andThen_ok, List.map_toArray, List.map_cons, List.map_nil, hs, hx, hr]
  exact hK _ _ (h va vc w' h2 h3 h5)

set_option maxRecDepth 100000 in
set_option maxHeartbeats 4000000 in
theorem TS.powCrash {w : World} {BD BR BL : Nat → Prop} {p q lg S z b : Nat} {s : St} {r : Rs} (h : TS w BD BR BL p q lg S z b b b s r) (re : Re z s r) (hb : Bd S z b) (a : Ac) (ha : a.kd = 6) {kl : List Bool} (hkb : KB w a.ka a.kn kl) (hkn : a.kn ≤ 140737488355328) (hka : ∀ g o, 0 < a.kn → a.ka = some ⟨g, o, none⟩ → ¬ B3 BD BR BL g ∧ g < w.heap.size) :
    Calls Try.prog 10 #[.pointer (some ⟨p, 0, none⟩), .pointer (some ⟨q, 0, none⟩), .agg a.cells.toArray, .pointer (some ⟨lg, 0, none⟩)] w fun e w' => e = .returned (.bool true) ∧ PT w w' BD BR BL p q lg S z b := by
  obtain ⟨W, hW⟩ : ∃ W, W = w.alloc (.cells a.cells.toArray 44) := ⟨_, rfl⟩
  have c0 : Chg (fun _ => False) w W := by rw [hW]; exact (Chg.refl _ _).alloc _
  have r0 : Rw W w.heap.size a.cells.toArray 44 := by rw [hW]; exact ⟨heap_alloc_new _ _⟩
  have h0 := h.fresh c0
  have hlow := h.low
  have nB : ¬ B3 BD BR BL w.heap.size := fun e => by have := hlow _ e; omega
  have k1 : W.cell? ⟨w.heap.size, 1, none⟩ = some (.int .i64 6) := by rw [← ha]; exact r0.cell 1
  have k7 : W.cell? ⟨w.heap.size, 7, none⟩ = some (.slice a.ka a.kn a.kc) := r0.cell 7
  have H0 : Hid _ := h0
  have HB : Hid _ := hb
  have RE : Hid _ := re
  have C0 : Hid _ := c0
  have R0 : Hid _ := r0
  have NB : Hid _ := nB
  have HLOW : Hid _ := hlow
  clear h re hb c0 r0 h0 hlow nB
  go_enter Try.func10, Try.ntmps10
  go_upto_region 1 with fail
  rw [← hW]
  clear hW
  have HKA : Hid _ := hka
  have kb0 : KB W a.ka a.kn kl := hkb.chg C0.out (fun _ _ _ _ h => h)
  have KB0 : Hid _ := kb0
  obtain ⟨ka, kn, kc, hac⟩ : ∃ ka kn kc, ka = a.ka ∧ kn = a.kn ∧ kc = a.kc := ⟨_, _, _, rfl, rfl, rfl⟩
  have HAC : Hid _ := hac
  obtain ⟨e1, e2, e3⟩ := hac
  rw [← e1, ← e2, ← e3] at k7
  rw [← e2] at hkn
  clear hka hkb kb0 e1 e2 e3
  go_upto_region 20 with (refine wpList_appK rfl (.const (.slice none 0 0)) (.tmp 96) rfl (ka := ka) (kn := kn) (kc := kc) (kl := kl) rfl rfl (by rw [HAC.out.1, HAC.out.2.1]; exact KB0.out) hkn ?_; intro va vc wa kbA chA newA; have KBA : Hid _ := kbA; have CHA : Hid _ := chA; have NEWA : Hid _ := newA; clear kbA chA newA)
  clear k1 k7
  have HA : Hid _ := H0.out.fresh CHA.out
  have ra : Rw wa w.heap.size a.cells.toArray 44 := ⟨CHA.out.heap_some R0.out.eq (fun h => h)⟩
  have k8 : wa.cell? ⟨w.heap.size, 8, none⟩ = some (.int .i64 a.torn) := ra.cell 8
  have k5 : wa.cell? ⟨w.heap.size, 5, none⟩ = some (.int .i64 a.at_) := ra.cell 5
  have RA : Hid _ := ra
  clear ra
  go_wp2_with fail
  refine Calls.mono (AB.eCrash HA.out.d HB.out.hS HB.out.hz (by have := HB.out.hb; omega) (kl := kl) KBA.out (fun g o h0 e hg => by have := NEWA.out g o h0 e; have := H0.out.d.low g hg; omega) a.torn a.at_) ?_
  rintro e w1 ⟨v, rfl, po⟩
  obtain ⟨BD1, hB1, h1⟩ := HA.out.disk po (fs_crash HA.out kl a.torn a.at_)
  have C1 : Hid (Chg BD wa w1) := po.ch
  have HB1 : Hid (∀ g, BD1 g → grB BD wa w1 g) := hB1
  have H1 : Hid _ := h1
  have r1 : Rw w1 w.heap.size a.cells.toArray 44 := ⟨po.ch.heap_some RA.out.eq (fun e => NB.out (.inl e))⟩
  have k7 : w1.cell? ⟨w.heap.size, 7, none⟩ = some (.slice ka kn kc) := by rw [HAC.out.1, HAC.out.2.1, HAC.out.2.2]; exact r1.cell 7
  have k8' : w1.cell? ⟨w.heap.size, 8, none⟩ = some (.int .i64 a.torn) := r1.cell 8
  have k5' : w1.cell? ⟨w.heap.size, 5, none⟩ = some (.int .i64 a.at_) := r1.cell 5
  have kb1 : KB w1 ka kn kl := by
    rw [HAC.out.1, HAC.out.2.1]
    exact (KB0.out.chg CHA.out (fun _ _ _ _ h => h)).chg po.ch (fun g o h0 e hg => (HKA.out g o h0 e).1 (.inl hg))
  have kv1 : KB w1 va kn kl := KBA.out.chg po.ch (fun g o h0 e hg => by have := NEWA.out g o h0 e; have := H0.out.d.low g hg; omega)
  have KB1 : Hid _ := kb1
  have KV1 : Hid _ := kv1
  have R1 : Hid _ := r1
  clear po h1 hB1 k8 k5 kb1 kv1 r1
  go_wp2_with fail
  refine Calls.mono (H1.out.r.crash RE.out HB.out.hb HB.out.hz HB.out.z0 KB1.out (fun g o h0 e hg => (HKA.out g o (by rw [← HAC.out.2.1]; exact h0) (by rw [← HAC.out.1]; exact e)).1 (.inr (.inl hg))) a.torn a.at_) ?_
  rintro e w2 ⟨rfl, r', po, re'⟩
  obtain ⟨BR1, hB2, h2⟩ := H1.out.ref po
  have r2 : Rw w2 w.heap.size a.cells.toArray 44 := ⟨po.ch.heap_some R1.out.eq (fun e => NB.out (.inr (.inl e)))⟩
  have K7 : Hid (∀ j, (w2.drewN j).cell? ⟨w.heap.size, 7, none⟩ = some (.slice ka kn kc)) := fun j => by rw [HAC.out.1, HAC.out.2.1, HAC.out.2.2]; exact r2.cell 7
  have KB2 : Hid (KB w2 ka kn kl) := KB1.out.chg po.ch (fun g o h0 e hg => (HKA.out g o (by rw [← HAC.out.2.1]; exact h0) (by rw [← HAC.out.1]; exact e)).1 (.inr (.inl hg)))
  have KV2 : Hid (KB w2 va kn kl) := KV1.out.chg po.ch (fun g o h0 e hg => by have := NEWA.out g o h0 e; have := H0.out.r.low g hg; omega)
  have FIN : Hid (∀ j, PT w (w2.drewN j) BD BR BL p q lg S z b) := fun j => by
    have s0 := C0.out.size
    have s1 := C1.out.size
    have s2 := po.ch.size
    have sa := CHA.out.size
    refine ⟨(((((C0.out.trans CHA.out (fun _ h => h.elim)).mono (fun _ _ h => h.elim)).trans C1.out (fun g e => .inl (.inl e))).trans po.ch (fun g e => .inl (.inr (.inl e)))).trans (drewN_chg2 w2 j) (fun _ h => h.elim)), BD1, BR1, BL, _, _, fun g hg => grB.wide (fun _ h => .inl h) (by omega) (by show w1.heap.size ≤ w2.heap.size; omega) (HB1.out g hg), fun g hg => grB.wide (fun _ h => .inr (.inl h)) (by omega) (Nat.le_refl _) (hB2 g hg), fun g hg => .inl (.inr (.inr hg)), (h2.fresh (drewN_chg2 w2 j)).mono (Nat.le_refl _) (Nat.le_refl _) (Nat.le_succ _), re'⟩
  clear po h2 hB2 re' r2 k7 k8' k5'
  go_wp2_with fail
  go_loopw [14] (fun x wr => ∃ (i j : Nat), x = .int .i64 i ∧ wr = w2.drewN j ∧ i ≤ kn) (fun x _ => kn - (intOf x).toNat)
  case atStart => exact ⟨0, 0, rfl, rfl, Nat.zero_le _⟩
  case round =>
    obtain ⟨i, j, rfl, rfl, hi⟩ := hrel
    by_cases hlt : i < kn
    · obtain ⟨g1, o1, rfl, c1⟩ := KV2.out.row i hlt
      obtain ⟨g2, o2, rfl, c2⟩ := KB2.out.row i hlt
      obtain ⟨bv, hbv⟩ : ∃ z, z = kl.getD i false := ⟨_, rfl⟩
      rw [← hbv] at c1 c2
      have c1' : ∀ j, (w2.drewN j).cell? ⟨g1, o1 + i, none⟩ = some (.bool bv) := fun _ => c1
      have c2' : ∀ j, (w2.drewN j).cell? ⟨g2, o2 + i, none⟩ = some (.bool bv) := fun _ => c2
      have c7 := K7.out
      clear c1 c2 hbv
      go_wp2_with fail
      go_quiet (fail)
      go_wp2_with fail
      go_roundw
      case rel => exact ⟨i + 1, _, by go_num, rfl, by omega⟩
      case measure => simp [intOf]; omega
    · go_wp2_with fail
      go_ret
      exact ⟨rfl, FIN.out _⟩
end Go.Proofs.Ytddnecfnjnipjaa
