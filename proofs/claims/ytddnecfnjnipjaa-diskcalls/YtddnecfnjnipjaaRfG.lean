/-
  The reference's Rot.
-/
import Derived.Test.YtddnecfnjnipjaaRfF
import Derived.Test.YtddnecfnjnipjaaRot
namespace Go.Proofs.Ytddnecfnjnipjaa
open Go.RowKit

theorem Own.set {w : World} {g z cp : Nat} {l : List Int} (h : Own w (.slice (some ⟨g, 0, none⟩) z cp) l) (i : Nat) (hi : i < z) (x : Int) : Own (w.setCell ⟨g, i, none⟩ (.int .u8 x)) (.slice (some ⟨g, 0, none⟩) z cp) (l.set i x) := by
  refine ⟨by rw [List.length_set, bs_len, List.length_set, Nat.mul_one], ?_⟩
  rcases h.2 with ⟨e, _⟩ | ⟨b, cap, cur, e, hb, hgg, h1, h2, h3, h4⟩
  · cases e
  · injection e with e1 e2 e3
    injection e1 with e1
    injection e1 with e1
    subst e1 e2 e3
    refine .inr ⟨g, cp, cur.setIfInBounds i (.int .u8 x), by rw [List.length_set], hb, heap_setCell_same w g i cur 5 _ hgg, by rw [List.length_set]; exact h1, h2, by simpa using h3, ?_⟩
    rw [List.length_set, Array.toList_setIfInBounds, List.take_set, h4]
    unfold bs
    rw [List.map_set]
theorem Own.byte {w : World} {g z cp : Nat} {l : List Int} (h : Own w (.slice (some ⟨g, 0, none⟩) z cp) l) (i : Nat) (hi : i < l.length) : w.cell? ⟨g, i, none⟩ = some (.int .u8 l[i]) := by
  have := World.ownsRow.cells h (g := g) rfl i (.int .u8 l[i]) (by rw [bs_get _ _ hi])
  rwa [addr_add, Nat.zero_add] at this
theorem Own.frz {w : World} {g z cp : Nat} {l : List Int} (h : Own w (.slice (some ⟨g, 0, none⟩) z cp) l) (i : Nat) : w.frozen? ⟨g, i, none⟩ = false := by
  obtain ⟨cur, e⟩ := own_block h (g := g) rfl
  exact frozen_of_row w g i _ 5 e

theorem wpList_appRun {ops : Array Oper} {rest : List Oper} {o : Oper} {a : Act} {w w' : World} {Q : Exit → Act → World → Prop} (hgd : o.guard = none) (s x : Operand)
    (ho : o.op = .call { callee := .builtin .append, args := #[s, x], argTypes := #[49, 49] }) {v u v' : Value} (hs : a.eval s = v) (hx : a.eval x = u) (hr : (Builtin.append_ #[49, 49] o.type #[v, u]).run Try.prog w = .ok v' w')
    (h : wpList Try.prog ops Q rest (a.put o.dst v') w') : wpList Try.prog ops Q (o :: rest) a w := by
  refine wpList_plain hgd fun K hK => ?_
  unfold Oper.wp execOp
  simp only [ho, resolve, invoke, builtin, Sem.run_bind, Sem.run_pure, Result.andThen_ok, List.map_toArray, List.map_cons, List.map_nil, hs, hx, hr]
  exact hK _ _ h

section
variable {w w' : World} {q S z b : Nat} {y : RN} {dl cl : List Dd} {dv cv : Value} {C : Nat → List Int}

set_option maxRecDepth 100000 in
set_option maxHeartbeats 4000000 in
theorem RD.rotNo (h : RD w q S z b y dl cl dv cv C) (i at_ mask : Int) (hn : ¬ ((0 ≤ i ∧ i < S) ∧ (0 ≤ at_ ∧ at_ < z))) :
    Calls Try.prog 52 #[.pointer (some ⟨q, 0, none⟩), .int .i64 i, .int .i64 at_, .int .u8 mask] w fun e w' => e = .returned (.int .i64 31) ∧ w' = w := by
  have hhas := rhas_any h.row i
  have c1 : w.cell? ⟨q, 1, none⟩ = some (.int .i64 z) := h.row.cell 1
  by_cases hi : 0 ≤ i ∧ i < S
  · rw [decide_eq_true hi] at hhas
    have HH : Hid _ := hhas
    clear h hhas
    by_cases ha : at_ < 0
    · go_enter Try.func52, Try.ntmps52
      go_wp2_with (go_at_call 58; refine Calls.mono HH.out ?_; rintro e w9 ⟨rfl, h9⟩; subst h9)
      go_ret
      exact ⟨rfl, rfl⟩
    · have hz : at_ ≥ (z : Int) := by omega
      go_enter Try.func52, Try.ntmps52
      go_wp2_with (go_at_call 58; refine Calls.mono HH.out ?_; rintro e w9 ⟨rfl, h9⟩; subst h9)
      go_ret
      exact ⟨rfl, rfl⟩
  · rw [decide_eq_false hi] at hhas
    have HH : Hid _ := hhas
    clear h hhas
    go_enter Try.func52, Try.ntmps52
    go_wp2_with (go_at_call 58; refine Calls.mono HH.out ?_; rintro e w9 ⟨rfl, h9⟩; subst h9)
    go_ret
    exact ⟨rfl, rfl⟩

/-- A turned byte more among what is done. -/
theorem RD.turned (h : RD w q S z b y dl cl dv cv C) (hb : b < 2199023255551) {s at_ : Nat} (hs : s < S) (ha : at_ < z) (mask : Int) :
    ∃ n7 a7 c7 w7, (Builtin.append_ #[49, 49] 49 #[dv, .slice (some ⟨w.heap.size, 0, none⟩) 1 1]).run Try.prog (w.alloc (.cells #[.int .i64 s, .slice none 0 0, .int .i64 0, .bool true, .int .i64 at_, .int .u8 mask] 110)) = .ok (.slice a7 n7 c7) w7 ∧ Rw w7 q (rrow S z dv cv y) 52 ∧
      RD (w7.setCell ⟨q, 3, none⟩ (.slice a7 n7 c7)) q S z (b + 1) y (dl ++ [⟨s, 0, 0, 0, true, at_, mask⟩]) cl (.slice a7 n7 c7) cv C ∧ Chg (fun k => k = q ∨ some k = dv.ownBlock) w (w7.setCell ⟨q, 3, none⟩ (.slice a7 n7 c7)) ∧ ((Value.slice a7 n7 c7).ownBlock = dv.ownBlock ∨ ∃ k, (Value.slice a7 n7 c7).ownBlock = some k ∧ w.heap.size ≤ k) := by
  obtain ⟨w6, hw6⟩ : ∃ w6, w6 = w.alloc (.cells (Dd.cells z ⟨s, 0, 0, 0, true, at_, mask⟩).toArray 110) := ⟨_, rfl⟩
  have e6 : w.alloc (.cells #[.int .i64 s, .slice none 0 0, .int .i64 0, .bool true, .int .i64 at_, .int .u8 mask] 110) = w6 := by rw [hw6]; rfl
  rw [e6]
  have c6 : Chg (fun _ => False) w w6 := by rw [hw6]; exact (Chg.refl _ _).alloc _
  have q6 : w6.heap[w.heap.size]? = some (.cells (Dd.cells z ⟨s, 0, 0, 0, true, at_, mask⟩).toArray 110 (0, 0)) := by rw [hw6]; exact heap_alloc_new _ _
  obtain ⟨v', w7, h1, h2, h4, h5⟩ := run_appR w6 49 (h.dn.chg c6 (fun _ _ h => h)) (m := [⟨s, 0, 0, 0, true, at_, mask⟩]) ⟨w.heap.size, 0, none⟩ 1 (fun j u hu => by
    rw [addr_add, Nat.zero_add, cell_of_row _ _ _ _ _ _ q6]
    simpa [dcs] using hu) (by have := h.len; simp; omega)
  obtain ⟨a7, c7, rfl⟩ := RD.vform h2
  have r7 : Rw w7 q (rrow S z dv cv y) 52 := ⟨h4.heap_some (c6.heap_some h.row.eq (fun h => h)) (fun e => h.dq e.symm)⟩
  obtain ⟨w8, hw8⟩ : ∃ w8, w8 = w7.setCell ⟨q, 3, none⟩ (.slice a7 (dl ++ [(⟨s, 0, 0, 0, true, at_, mask⟩ : Dd)]).length c7) := ⟨_, rfl⟩
  have c8 : Chg (fun i => i = q) w7 w8 := by rw [hw8]; exact (Chg.refl (fun i => i = q) _).setCell (.inl rfl) _
  have k7 : Chg (fun k => some k = dv.ownBlock) w w7 := (c6.mono (fun _ _ h => h.elim)).trans h4 (fun _ e => .inl e)
  have k8 : Chg (fun k => k = q ∨ some k = dv.ownBlock) w w8 := (k7.mono (fun _ _ e => .inr e)).trans c8 (fun _ e => .inl (.inl e))
  have hv : (Value.slice a7 (dl ++ [(⟨s, 0, 0, 0, true, at_, mask⟩ : Dd)]).length c7).ownBlock = dv.ownBlock ∨ ∃ k, (Value.slice a7 (dl ++ [(⟨s, 0, 0, 0, true, at_, mask⟩ : Dd)]).length c7).ownBlock = some k ∧ w.heap.size ≤ k := h5.imp id (fun e => ⟨_, e, c6.size⟩)
  have hvq : ∀ k, (Value.slice a7 (dl ++ [(⟨s, 0, 0, 0, true, at_, mask⟩ : Dd)]).length c7).ownBlock = some k → k ≠ q ∧ cv.ownBlock ≠ some k := fun k hk => by
    rcases hv with e | ⟨k', e, e2⟩
    · rw [hk] at e
      exact ⟨fun e3 => h.dq (by rw [← e, e3]), h.dc k e.symm⟩
    · rw [hk] at e
      injection e with e
      refine ⟨fun e3 => ?_, fun e3 => ?_⟩
      · have := h.row.lt
        omega
      · have := h.cn.lt e3
        omega
  have keep : ∀ {v : Value} {l : List Int}, Own w v l → Own w8 v l := fun {v l} ho => ho.kept k8 (fun g hg e => by
    obtain ⟨h1, h2, _⟩ := h.own5 ho hg
    rcases e with e | e
    · exact h1 e
    · exact h2 e.symm)
  refine ⟨_, a7, c7, w7, h1, r7, ?_, by rw [← hw8]; exact k8, hv⟩
  rw [← hw8]
  refine ⟨by rw [hw8]; exact Rw.set r7 3 _, h2.chg c8 (fun k hk e => (hvq k hk).1 e), h.cn.chg k8 (fun k hk e => ?_), fun g hg => (hvq g hg).2, fun d hd ht => ?_, fun d hd ht => ?_, fun d hd => ⟨(h.cb d hd).1, (h.cb d hd).2.1, keep (h.cb d hd).2.2.1, (h.cb d hd).2.2.2⟩, fun d hd => ?_, h.cs, h.nd, fun d hd d' hd' ht => ?_, by have := h.len; simp; omega⟩
  · rcases e with e | e
    · exact h.cq (by rw [hk, e])
    · exact h.dc k e.symm hk
  · rcases List.mem_append.1 hd with hd | hd
    · exact ⟨keep (h.db d hd ht).1, (h.db d hd ht).2⟩
    · rw [List.mem_singleton.1 hd] at ht
      cases ht
  · rcases List.mem_append.1 hd with hd | hd
    · exact h.dt d hd ht
    · rw [List.mem_singleton.1 hd]
      exact ha
  · rcases List.mem_append.1 hd with hd | hd
    · exact h.ds d hd
    · rw [List.mem_singleton.1 hd]
      exact hs
  · rcases List.mem_append.1 hd' with hd' | hd'
    · exact h.cd d hd d' hd' ht
    · rw [List.mem_singleton.1 hd'] at ht
      cases ht

theorem nodup_i {l : List Dd} (h : (l.map Dd.g).Nodup) {i j : Nat} {d : Dd} (hi : l[i]? = some d) (hj : l[j]? = some d) : i = j := by
  have hpw := List.pairwise_iff_getElem.1 h
  obtain ⟨hi2, hi3⟩ := List.getElem?_eq_some_iff.1 hi
  obtain ⟨hj2, hj3⟩ := List.getElem?_eq_some_iff.1 hj
  have li : i < (l.map Dd.g).length := by rw [List.length_map]; exact hi2
  have lj : j < (l.map Dd.g).length := by rw [List.length_map]; exact hj2
  have ei : (l.map Dd.g)[i]'li = d.g := by rw [List.getElem_map, hi3]
  have ej : (l.map Dd.g)[j]'lj = d.g := by rw [List.getElem_map, hj3]
  rcases Nat.lt_trichotomy i j with h7 | h7 | h7
  · exact absurd (ei.trans ej.symm) (hpw i j li lj h7)
  · exact h7
  · exact absurd (ej.trans ei.symm) (hpw j i lj li h7)
theorem nodup_g : ∀ {l : List Dd}, (l.map Dd.g).Nodup → ∀ {a b : Dd}, a ∈ l → b ∈ l → a.g = b.g → a = b
  | [], _, _, _, h, _, _ => by cases h
  | x :: l, h, a, b, ha, hb, e => by
    rw [List.map_cons, List.nodup_cons] at h
    rcases List.mem_cons.1 ha with ea | ha'
    · rcases List.mem_cons.1 hb with eb | hb'
      · rw [ea, eb]
      · exact absurd (List.mem_map.2 ⟨b, hb', by rw [← e, ea]⟩) h.1
    · rcases List.mem_cons.1 hb with eb | hb'
      · exact absurd (List.mem_map.2 ⟨a, ha', by rw [e, eb]⟩) h.1
      · exact nodup_g h.2 ha' hb' e

/-- Bytes of the cache have turned. -/
theorem RD.bytes (h : RD w q S z b y dl cl dv cv C) {C' : Nat → List Int} (k : Chg (fun g => ∃ d ∈ cl, d.g = g) w w') (ho : ∀ d ∈ cl, Own w' (d.bv z) (C' d.g) ∧ (C' d.g).length = z) (hC : ∀ g, (∀ d ∈ cl, d.g ≠ g) → C' g = C g) : RD w' q S z b y dl cl dv cv C' := by
  have n5 : ∀ d ∈ cl, d.g ≠ q ∧ dv.ownBlock ≠ some d.g ∧ cv.ownBlock ≠ some d.g := fun d hd => h.own5 (h.cb d hd).2.2.1 (Dd.own (h.cb d hd).1)
  refine ⟨⟨k.heap_some h.row.eq (fun ⟨d, hd, e⟩ => (n5 d hd).1 e)⟩, h.dn.chg k (fun g hg ⟨d, hd, e⟩ => (n5 d hd).2.1 (by rw [hg, e])), h.cn.chg k (fun g hg ⟨d, hd, e⟩ => (n5 d hd).2.2 (by rw [hg, e])), h.dc, fun d hd ht => ?_, h.dt, fun d hd => ⟨(h.cb d hd).1, (h.cb d hd).2.1, (ho d hd).1, (ho d hd).2⟩, h.ds, h.cs, h.nd, h.cd, h.len⟩
  rw [hC d.g (fun d' hd' e => h.cd d' hd' d hd ht e.symm)]
  exact ⟨(h.db d hd ht).1.kept k (fun g hg ⟨d', hd', e⟩ => by
    rw [Dd.own ht] at hg
    injection hg with hg
    exact h.cd d' hd' d hd ht (hg.trans e.symm)), (h.db d hd ht).2⟩

set_option maxRecDepth 100000 in
set_option maxHeartbeats 8000000 in
theorem RD.rot (h : RD w q S z b y dl cl dv cv C) (hb : b < 2199023255551) {s at_ : Nat} (hs : s < S) (_hS : S ≤ 65536) (ha : at_ < z) (_hz : z ≤ 4096) (mask : Int) :
    Calls Try.prog 52 #[.pointer (some ⟨q, 0, none⟩), .int .i64 s, .int .i64 at_, .int .u8 mask] w fun e w' => e = .returned (.int .i64 0) ∧ Chg (fun g => RD.blk q dl cl dv cv g) w w' ∧
      ∃ dv' C', RD w' q S z (b + 1) y (dl ++ [⟨s, 0, 0, 0, true, at_, mask⟩]) cl dv' cv C' ∧ (dv'.ownBlock = dv.ownBlock ∨ ∃ k, dv'.ownBlock = some k ∧ w.heap.size ≤ k) ∧
        (∀ g, (∀ d ∈ cl, d.g ≠ g) → C' g = C g) ∧ ∀ d ∈ cl, C' d.g = if d.s = s then rotL at_ mask (C d.g) else C d.g := by
  have hhas := rhas_any h.row (s : Int)
  rw [decide_eq_true ⟨by omega, by omega⟩] at hhas
  have HH : Hid _ := hhas
  have c1 : w.cell? ⟨q, 1, none⟩ = some (.int .i64 z) := h.row.cell 1
  have c3 : w.cell? ⟨q, 3, none⟩ = some dv := h.row.cell 3
  have c4 : w.cell? ⟨q, 4, none⟩ = some cv := h.row.cell 4
  obtain ⟨n7, a7, c7, w7, hap, r7, hrd, ch8, hv8⟩ := h.turned hb hs ha mask
  have H : Hid _ := h
  have hlb := h.len
  obtain ⟨n, hn⟩ : ∃ n, n = cl.length := ⟨_, rfl⟩
  obtain ⟨ca, cc, hcv⟩ := RD.vform h.cn
  rw [← hn] at hcv
  have HN : Hid _ := hn
  have HV : Hid _ := hcv
  have hnb : n < 2199023255552 := by omega
  have HAP : Hid _ := hap
  have H8 : Hid _ := hrd
  have C8 : Hid _ := ch8
  have HV8 : Hid _ := hv8
  have k73 : w7.cell? ⟨q, 3, none⟩ = some dv := r7.cell 3
  have f73 := r7.fr 3
  have c3' : ∀ o, (w.alloc o).cell? ⟨q, 3, none⟩ = some dv := fun o => (h.row.alloc o).cell 3
  clear h hhas hap hrd ch8 hv8 r7 hn hcv
  go_enter Try.func52, Try.ntmps52
  go_wp2_with (first | (go_at_call 58; refine Calls.mono HH.out ?_; rintro e w9 ⟨rfl, h9⟩; subst h9) | refine wpList_appRun rfl (.tmp 30) (.tmp 35) rfl (v := dv) (u := .slice (some ⟨w.heap.size, 0, none⟩) 1 1) rfl rfl HAP.out ?_)
  obtain ⟨w8, hw8⟩ : ∃ w8, w8 = w7.setCell ⟨q, 3, none⟩ (.slice a7 n7 c7) := ⟨_, rfl⟩
  rw [← hw8] at H8 C8 ⊢
  clear hw8 k73 f73 c3' c3 c1 c4 HAP HH
  go_loopw [9] (fun i wr => ∃ k : Nat, k ≤ n ∧ i = .int .i64 k ∧ Hid (Chg (fun g => ∃ d ∈ cl, d.g = g) w8 wr ∧ ∃ C' : Nat → List Int, (∀ d ∈ cl, Own wr (d.bv z) (C' d.g) ∧ (C' d.g).length = z) ∧ (∀ g, (∀ d ∈ cl, d.g ≠ g) → C' g = C g) ∧ ∀ j d, cl[j]? = some d → C' d.g = if j < k ∧ d.s = s then rotL at_ mask (C d.g) else C d.g)) (fun i _ => n - (intOf i).toNat)
  case atStart => exact ⟨0, Nat.zero_le _, rfl, Chg.refl _ _, C, fun d hd => (H8.out.cb d hd).2.2, fun _ _ => rfl, fun j d _ => by rw [if_neg (fun h => by omega)]⟩
  case round =>
    obtain ⟨k, hk, rfl, hid⟩ := hrel
    obtain ⟨ch, C', ow, oth, ex⟩ := hid.out
    clear hid
    have hq4 : ∀ d ∈ cl, d.g ≠ q ∧ cv.ownBlock ≠ some d.g := fun d hd => by
      obtain ⟨h1, _, h3⟩ := H8.out.own5 (H8.out.cb d hd).2.2.1 (Dd.own (H8.out.cb d hd).1)
      exact ⟨h1, h3⟩
    have c4 : wr.cell? ⟨q, 4, none⟩ = some (.slice ca n cc) := by rw [← HV.out]; exact ch.cell_some (H8.out.row.cell 4) (fun ⟨d, hd, e⟩ => (hq4 d hd).1 e)
    by_cases hlt : k < n
    · obtain ⟨d, hd⟩ : ∃ d, cl[k]? = some d := ⟨cl[k]'(by have := HN.out; omega), List.getElem?_eq_getElem _⟩
      obtain ⟨g, c, e, hcl⟩ := H8.out.cn.cell hd
      rw [HV.out] at e
      injection e with e1 e2 e3
      subst e1
      have hdm := List.mem_of_getElem? hd
      have hcb := H8.out.cb d hdm
      have hkc : ∀ j u, (d.cells z)[j]? = some u → wr.cell? ⟨g, k * 6 + j, none⟩ = some u := fun j u hu => ch.cell_some (hcl j u hu) (fun ⟨d', hd', e⟩ => (hq4 d' hd').2 (by rw [HV.out]; exact congrArg some e.symm))
      have k0 : wr.cell? ⟨g, k * 6, none⟩ = some (.int .i64 d.s) := hkc 0 _ rfl
      have k1 : wr.cell? ⟨g, k * 6 + 1, none⟩ = some (.slice (some ⟨d.g, 0, none⟩) z d.cp) := by
        have := hkc 1 _ rfl
        rwa [show d.bv z = .slice (some ⟨d.g, 0, none⟩) z d.cp by unfold Dd.bv; rw [hcb.1]; rfl] at this
      clear hkc hcl
      obtain ⟨od, ld⟩ := ow d hdm
      rw [show d.bv z = .slice (some ⟨d.g, 0, none⟩) z d.cp by unfold Dd.bv; rw [hcb.1]; rfl] at od
      by_cases hds : d.s = s
      · have hde : (d.s : Int) = s := by rw [hds]
        obtain ⟨bv, hbv⟩ : ∃ bv, bv = (C' d.g)[at_]'(by omega) := ⟨_, rfl⟩
        have dY : wr.cell? ⟨d.g, at_, none⟩ = some (.int .u8 bv) := by rw [hbv]; exact od.byte at_ (by omega)
        have fY := od.frz at_
        have hgq := hq4 d hdm
        have K5 : Hid (∀ v' : Int, v' = bits BinOp.xor IntKind.u8 bv mask → Chg (fun g => ∃ d ∈ cl, d.g = g) w8 (wr.setCell ⟨d.g, at_, none⟩ (.int .u8 v')) ∧ ∃ C' : Nat → List Int, (∀ d' ∈ cl, Own (wr.setCell ⟨d.g, at_, none⟩ (.int .u8 v')) (d'.bv z) (C' d'.g) ∧ (C' d'.g).length = z) ∧ (∀ g, (∀ d ∈ cl, d.g ≠ g) → C' g = C g) ∧ ∀ j d, cl[j]? = some d → C' d.g = if j < k + 1 ∧ d.s = s then rotL at_ mask (C d.g) else C d.g) := fun v' hv' => by
          have cc : Chg (fun i => i = d.g) wr (wr.setCell ⟨d.g, at_, none⟩ (.int .u8 v')) := (Chg.refl (fun i => i = d.g) wr).setCell (.inl rfl) _
          refine ⟨ch.trans cc (fun i e => .inl ⟨d, hdm, e.symm⟩), updT C' d.g ((C' d.g).set at_ v'), fun d' hd' => ?_, fun g hg => ?_, fun j d' hj => ?_⟩
          · by_cases e : d'.g = d.g
            · have ed : d' = d := nodup_g H8.out.nd hd' hdm e
              rw [ed, updT_same]
              refine ⟨?_, by rw [List.length_set]; exact ld⟩
              rw [show d.bv z = .slice (some ⟨d.g, 0, none⟩) z d.cp by unfold Dd.bv; rw [hcb.1]; rfl]
              exact od.set at_ ha v'
            · rw [updT_other _ _ e]
              exact ⟨(ow d' hd').1.kept cc (fun k hk e2 => by
                rw [Dd.own (H8.out.cb d' hd').1] at hk
                injection hk with hk
                exact e (hk.trans e2)), (ow d' hd').2⟩
          · rw [updT_other _ _ (fun e => hg d hdm e.symm)]
            exact oth g hg
          · by_cases e : d'.g = d.g
            · have ed : d' = d := nodup_g H8.out.nd (List.mem_of_getElem? hj) hdm e
              have ejk : j = k := nodup_i H8.out.nd hj (by rw [ed]; exact hd)
              have h4 : C' d.g = C d.g := by
                have := ex k d hd
                rw [if_neg (fun h => by omega)] at this
                exact this
              rw [ed, updT_same, if_pos ⟨by omega, hds⟩, hv', hbv]
              unfold rotL
              rw [List.getD_eq_getElem?_getD, ← h4, List.getElem?_eq_getElem (by omega)]
              rfl
            · rw [updT_other _ _ e, ex j d' hj]
              have hjk : j ≠ k := fun e2 => by
                rw [e2, hd] at hj
                injection hj with hj
                exact e (by rw [hj])
              by_cases h5 : j < k ∧ d'.s = s
              · rw [if_pos h5, if_pos ⟨by omega, h5.2⟩]
              · rw [if_neg h5, if_neg (fun h => h5 ⟨by omega, h.2⟩)]
        have hgd : g ≠ d.g := fun e => hgq.2 (by rw [HV.out]; exact congrArg some e)
        have hqd : q ≠ d.g := fun e => hgq.1 e.symm
        obtain ⟨dg, hdg⟩ : ∃ dg, dg = d.g := ⟨_, rfl⟩
        obtain ⟨dcp, hdcp⟩ : ∃ dcp, dcp = d.cp := ⟨_, rfl⟩
        rw [← hdg] at k1 dY fY K5 hgd hqd
        rw [← hdcp] at k1
        have S1 : ∀ v', (wr.setCell ⟨dg, at_, none⟩ (.int .u8 v')).cell? ⟨q, 4, none⟩ = some (.slice (some ⟨g, 0, none⟩) n cc) ∧ (wr.setCell ⟨dg, at_, none⟩ (.int .u8 v')).cell? ⟨g, k * 6 + 1, none⟩ = some (.slice (some ⟨dg, 0, none⟩) z dcp) := fun v' => by
          have c9 : Chg (fun i => i = dg) wr (wr.setCell ⟨dg, at_, none⟩ (.int .u8 v')) := (Chg.refl (fun i => i = dg) wr).setCell (.inl rfl) _
          exact ⟨c9.cell_some c4 (fun e => hqd e), c9.cell_some k1 (fun e => hgd e)⟩
        clear ow oth ex ch hq4 hd hdm hcb od hbv ld hgq hdg hdcp
        go_upto_region 8 with fail
        refine wp_region_noPanic ?_
        refine wp_region_held_drew (S := fun w' => w'.cell? ⟨q, 4, none⟩ = some (.slice (some ⟨g, 0, none⟩) n cc) ∧ w'.cell? ⟨g, k * 6 + 1, none⟩ = some (.slice (some ⟨dg, 0, none⟩) z dcp)) (by kernel_rfl) ⟨c4, k1⟩ (fun hH => ?_)
        refine wpAnyH_take (i := 0) (v := .pointer (some ⟨q, 0, none⟩)) rfl (by kernel_rfl) (by kernel_rfl) (by kernel_rfl) (fun _ _ _ h => h) (Or.inl ⟨by rfl, fun w' hw' => by go_simp⟩) hH ?_
        refine wpAnyH_take (i := 1) (v := .pointer (some ⟨q, 0, none⟩)) rfl (by kernel_rfl) (by kernel_rfl) (by kernel_rfl) (fun _ _ _ h => h) (Or.inl ⟨by rfl, fun w' hw' => by go_simp⟩) hH ?_
        refine wpAnyH_take (i := 2) (v := .pointer (some ⟨q, 4, none⟩)) rfl (by kernel_rfl) (by kernel_rfl) (by kernel_rfl) (fun _ _ _ h => h) (Or.inl ⟨by rfl, fun w' hw' => by go_simp⟩) hH ?_
        refine wpAnyH_take (i := 3) (v := .slice (some ⟨g, 0, none⟩) n cc) rfl (by kernel_rfl) (by kernel_rfl) (by kernel_rfl) (fun _ _ _ h => h) (Or.inl ⟨by rfl, fun w' hw' => by have q1 := hw'.1; go_simp⟩) hH ?_
        refine wpAnyH_take (i := 4) (v := .int .i64 k) rfl (by kernel_rfl) (by kernel_rfl) (by kernel_rfl) (fun _ _ _ h => h) (Or.inl ⟨by rfl, fun w' hw' => by go_simp⟩) hH ?_
        refine wpAnyH_take (i := 5) (v := .pointer (some ⟨g, k * 6, none⟩)) rfl (by kernel_rfl) (by kernel_rfl) (by kernel_rfl) (fun _ _ _ h => h) (Or.inl ⟨by rfl, fun w' hw' => by go_simp⟩) hH ?_
        refine wpAnyH_take (i := 6) (v := .pointer (some ⟨g, k * 6 + 1, none⟩)) rfl (by kernel_rfl) (by kernel_rfl) (by kernel_rfl) (fun _ _ _ h => h) (Or.inl ⟨by rfl, fun w' hw' => by go_simp⟩) hH ?_
        refine wpAnyH_take (i := 7) (v := .slice (some ⟨dg, 0, none⟩) z dcp) rfl (by kernel_rfl) (by kernel_rfl) (by kernel_rfl) (fun _ _ _ h => h) (Or.inl ⟨by rfl, fun w' hw' => by have q1 := hw'.2; go_simp⟩) hH ?_
        refine wpAnyH_take (i := 8) (v := .int .i64 at_) rfl (by kernel_rfl) (by kernel_rfl) (by kernel_rfl) (fun _ _ _ h => h) (Or.inl ⟨by rfl, fun w' hw' => by go_simp⟩) hH ?_
        refine wpAnyH_take (i := 9) (v := .pointer (some ⟨q, 0, none⟩)) rfl (by kernel_rfl) (by kernel_rfl) (by kernel_rfl) (fun _ _ _ h => h) (Or.inl ⟨by rfl, fun w' hw' => by go_simp⟩) hH ?_
        refine wpAnyH_take (i := 10) (v := .pointer (some ⟨q, 0, none⟩)) rfl (by kernel_rfl) (by kernel_rfl) (by kernel_rfl) (fun _ _ _ h => h) (Or.inl ⟨by rfl, fun w' hw' => by go_simp⟩) hH ?_
        refine wpAnyH_take (i := 11) (v := .pointer (some ⟨q, 4, none⟩)) rfl (by kernel_rfl) (by kernel_rfl) (by kernel_rfl) (fun _ _ _ h => h) (Or.inl ⟨by rfl, fun w' hw' => by go_simp⟩) hH ?_
        refine wpAnyH_take (i := 12) (v := .slice (some ⟨g, 0, none⟩) n cc) rfl (by kernel_rfl) (by kernel_rfl) (by kernel_rfl) (fun _ _ _ h => h) (Or.inl ⟨by rfl, fun w' hw' => by have q1 := hw'.1; go_simp⟩) hH ?_
        refine wpAnyH_take (i := 13) (v := .int .i64 k) rfl (by kernel_rfl) (by kernel_rfl) (by kernel_rfl) (fun _ _ _ h => h) (Or.inl ⟨by rfl, fun w' hw' => by go_simp⟩) hH ?_
        refine wpAnyH_take (i := 14) (v := .pointer (some ⟨g, k * 6, none⟩)) rfl (by kernel_rfl) (by kernel_rfl) (by kernel_rfl) (fun _ _ _ h => h) (Or.inl ⟨by rfl, fun w' hw' => by go_simp⟩) hH ?_
        refine wpAnyH_take (i := 15) (v := .pointer (some ⟨g, k * 6 + 1, none⟩)) rfl (by kernel_rfl) (by kernel_rfl) (by kernel_rfl) (fun _ _ _ h => h) (Or.inl ⟨by rfl, fun w' hw' => by go_simp⟩) hH ?_
        refine wpAnyH_take (i := 16) (v := .slice (some ⟨dg, 0, none⟩) z dcp) rfl (by kernel_rfl) (by kernel_rfl) (by kernel_rfl) (fun _ _ _ h => h) (Or.inl ⟨by rfl, fun w' hw' => by have q1 := hw'.2; go_simp⟩) hH ?_
        refine wpAnyH_take (i := 17) (v := .int .i64 at_) rfl (by kernel_rfl) (by kernel_rfl) (by kernel_rfl) (fun _ _ _ h => h) (Or.inl ⟨by rfl, fun w' hw' => by go_simp⟩) hH ?_
        refine wpAnyH_take (i := 18) (v := .pointer (some ⟨dg, at_, none⟩)) rfl (by kernel_rfl) (by kernel_rfl) (by kernel_rfl) (fun _ _ _ h => h) (Or.inl ⟨by rfl, fun w' hw' => by go_simp⟩) hH ?_
        refine wpAnyH_take (i := 20) (v := .int .u8 mask) rfl (by kernel_rfl) (by kernel_rfl) (by kernel_rfl) (fun _ _ _ h => h) (Or.inl ⟨by rfl, fun w' hw' => by go_simp⟩) hH ?_
        refine wpAnyH_ready (rs := [19]) (by kernel_rfl) (by simp) ?_
        refine AllReadyH.cons rfl (fun KK hKK => ?_) AllReadyH.nil
        go_simp
        refine hKK.out _ _ hH (fun h1 => ?_)
        clear hKK KK
        refine wpAnyH_take (i := 21) (v := .int .u8 (bits BinOp.xor IntKind.u8 bv mask)) rfl (by kernel_rfl) (by kernel_rfl) (by kernel_rfl) (fun _ _ _ h => h) (Or.inl ⟨by rfl, fun w' hw' => by go_simp⟩) hH ?_
        refine wpAnyH_take (i := 22) (v := .pointer (some ⟨dg, at_, none⟩)) rfl (by kernel_rfl) (by kernel_rfl) (by kernel_rfl) (fun _ _ _ h => h) (Or.inl ⟨by rfl, fun w' hw' => by go_simp⟩) hH ?_
        refine wpAnyH_ready (rs := [23]) (by kernel_rfl) (by simp) ?_
        refine AllReadyH.cons rfl (fun KK hKK => ?_) AllReadyH.nil
        go_simp
        refine hKK.out _ _ (S1 _) (fun _ => ?_)
        clear hKK KK
        refine wpAnyH_done (by kernel_rfl) (NoPanic.normal ?_) _
        clear h1 hH dY fY k0 k1 c4 S1
        go_wp2_with fail
        go_roundw
        case rel =>
          obtain ⟨r1, C9, r2⟩ := K5.out _ rfl
          exact ⟨k + 1, by omega, by go_num, r1.drew, C9, r2⟩
        case measure => simp [intOf]; omega
      · have K5 : Hid (Chg (fun g => ∃ d ∈ cl, d.g = g) w8 wr ∧ ∃ C' : Nat → List Int, (∀ d ∈ cl, Own wr (d.bv z) (C' d.g) ∧ (C' d.g).length = z) ∧ (∀ g, (∀ d ∈ cl, d.g ≠ g) → C' g = C g) ∧ ∀ j d, cl[j]? = some d → C' d.g = if j < k + 1 ∧ d.s = s then rotL at_ mask (C d.g) else C d.g) := by
          refine ⟨ch, C', ow, oth, fun j d' hj => ?_⟩
          rw [ex j d' hj]
          by_cases e : j = k
          · rw [e, hd] at hj
            injection hj with hj
            rw [← hj, if_neg (fun h => hds h.2), if_neg (fun h => hds h.2)]
          · by_cases h5 : j < k ∧ d'.s = s
            · rw [if_pos h5, if_pos ⟨by omega, h5.2⟩]
            · rw [if_neg h5, if_neg (fun h => h5 ⟨by omega, h.2⟩)]
        have hds' : ¬ (d.s : Int) = s := by omega
        clear ow oth ex ch hq4 hd hdm hcb od
        go_wp2_with fail
        go_roundw
        case rel => exact ⟨k + 1, by omega, by go_num, K5.out⟩
        case measure => simp [intOf]; omega
    · have hkn : k = n := by omega
      subst hkn
      have K5 : Hid _ := H8.out.bytes ch ow oth
      have EX : Hid (∀ d ∈ cl, C' d.g = if d.s = s then rotL at_ mask (C d.g) else C d.g) := fun d hd => by
        obtain ⟨j, hj, ej⟩ := List.getElem_of_mem hd
        rw [ex j d (by rw [List.getElem?_eq_getElem hj, ej])]
        by_cases e : d.s = s
        · rw [if_pos ⟨by have := HN.out; omega, e⟩, if_pos e]
        · rw [if_neg (fun h => e h.2), if_neg e]
      have CH : Hid (Chg (fun g => RD.blk q dl cl dv cv g) w wr) := (C8.out.mono (fun g _ e => by
        rcases e with e | e
        · exact .inl e
        · exact .inr (.inl e.symm))).trans ch (fun g ⟨d, hd, e⟩ => .inl (.inr (.inr (.inr (.inr ⟨d, hd, e⟩)))))
      have OT : Hid _ := oth
      clear ow oth ex ch hq4
      go_wp2_with fail
      go_ret
      exact ⟨rfl, CH.out, _, C', K5.out, HV8.out, OT.out, EX.out⟩
end
end Go.Proofs.Ytddnecfnjnipjaa
