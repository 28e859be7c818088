/-
  The reference's Write and Flush.
-/
import Derived.Test.YtddnecfnjnipjaaRfB
namespace Go.Proofs.Ytddnecfnjnipjaa
open Go.RowKit

theorem step_appR {ops : Array Oper} {o : Oper} {a : Act} {w w' : World} {K : Act → World → Prop} {Q : Exit → Act → World → Prop} {E : Prop} (hgd : o.guard = none) (s x : Operand)
    (ho : o.op = .call { callee := .builtin .append, args := #[s, x], argTypes := #[49, 49] }) {v u v' : Value} (hs : a.eval s = v) (hx : a.eval x = u) (hr : (Builtin.append_ #[49, 49] o.type #[v, u]).run Try.prog w = .ok v' w') (h : K (a.put o.dst v') w') :
    if Region.wanted o (yielded ops a.tmps) = true then Oper.wp Try.prog o a w K Q else E := by
  have hw : Region.wanted o (yielded ops a.tmps) = true := by simp [Region.wanted, hgd]
  rw [if_pos hw]
  unfold Oper.wp execOp
  simp only [ho, resolve, invoke, builtin, Sem.run_bind, Sem.run_pure, Result.andThen_ok, List.map_toArray, List.map_cons, List.map_nil, hs, hx, hr]
  exact h

section
variable {w w' : World} {q S z b : Nat} {y : RN} {dl cl : List Dd} {dv cv : Value} {C : Nat → List Int}

/-- A write more in the cache. -/
theorem RD.more (h : RD w q S z b y dl cl dv cv C) {w1 w2 w3 : World} {y' : RN} {s g cp : Nat} {l : List Int} {cv' : Value} (k1 : Chg (fun i => i = q) w w1) (hg : w.heap.size ≤ g) (hgo : Own w1 (Dd.bv z ⟨s, g, cp, z, false, 0, 0⟩) l) (hl : l.length = z) (hs : s < S)
    (hc : Dl w2 z cv' (cl ++ [⟨s, g, cp, z, false, 0, 0⟩])) (k2 : Chg (fun k => some k = cv.ownBlock) w1 w2) (hv : cv'.ownBlock = cv.ownBlock ∨ ∃ k, cv'.ownBlock = some k ∧ w1.heap.size ≤ k) (r3 : Rw w3 q (rrow S z dv cv' y') 52) (k3 : Chg (fun i => i = q) w2 w3) :
    RD w3 q S z (b + 1) y' dl (cl ++ [⟨s, g, cp, z, false, 0, 0⟩]) dv cv' (updT C g l) := by
  have n5 : ∀ {w : World} g v l, Own w v l → v.ownBlock = some g → ∀ cs, w.heap[q]? = some (.cells cs 52 (0, 0)) → g ≠ q := fun g v l ho hg cs hq => by
    obtain ⟨cur, e⟩ := own_block ho hg
    exact cells_ne e hq (by decide)
  have lo : ∀ d, (d ∈ dl ∧ d.turn = false ∨ d ∈ cl) → d.g < w.heap.size ∧ d.g ≠ q ∧ (d.turn = false) := fun d hd => by
    rcases hd with ⟨hd, ht⟩ | hd
    · exact ⟨Own.lt (h.db d hd ht).1 (Dd.own ht), n5 _ _ _ (h.db d hd ht).1 (Dd.own ht) _ h.row.eq, ht⟩
    · exact ⟨Own.lt (h.cb d hd).2.2.1 (Dd.own (h.cb d hd).1), n5 _ _ _ (h.cb d hd).2.2.1 (Dd.own (h.cb d hd).1) _ h.row.eq, (h.cb d hd).1⟩
  have hdq : ∀ k, dv.ownBlock = some k → k ≠ q := fun k hk => by
    obtain ⟨cur, e⟩ := h.dn.block hk
    exact cells_ne e h.row.eq (by decide)
  have hcq : ∀ k, cv.ownBlock = some k → k ≠ q := fun k hk => by
    obtain ⟨cur, e⟩ := h.cn.block hk
    exact cells_ne e h.row.eq (by decide)
  have o5 : ∀ {v : Value} {l : List Int} {k : Nat}, Own w1 v l → v.ownBlock = some k → cv.ownBlock ≠ some k := fun {v l k} ho hk e => by
    obtain ⟨cur, e1⟩ := own_block ho hk
    obtain ⟨cur2, e2⟩ := (h.cn.chg k1 (fun k hk => hcq k hk)).block e
    exact cells_ne e1 e2 (by decide) rfl
  have keep : ∀ {v : Value} {l : List Int} {k : Nat}, Own w1 v l → v.ownBlock = some k → k ≠ q → Own w3 v l := fun {v l k} ho hk hq =>
    (ho.kept k2 (fun k' hk' e => o5 ho hk' e.symm)).kept k3 (fun k' hk' e => by rw [hk] at hk'; injection hk' with hk'; exact hq (hk'.trans e))
  have hgq : g ≠ q := fun e => by have := h.row.lt; omega
  have dn1 : Dl w1 z dv dl := h.dn.chg k1 (fun k hk => hdq k hk)
  have db3 : ∀ d, (d ∈ dl ∧ d.turn = false ∨ d ∈ cl) → ∀ {l : List Int}, Own w (d.bv z) l → Own w3 (d.bv z) l := fun d hd l ho => by
    obtain ⟨h1, h2, h3⟩ := lo d hd
    exact keep (ho.kept k1 (fun k hk e => by rw [Dd.own h3] at hk; injection hk with hk; exact h2 (hk.trans e))) (Dd.own h3) h2
  refine ⟨r3, (dn1.chg k2 (fun k hk e => h.dc k hk e.symm)).chg k3 (fun k hk => hdq k hk), hc.chg k3 (fun k hk e => ?_), fun k hk e => ?_, fun d hd ht => ?_, h.dt, fun d hd => ?_, h.ds, fun d hd => ?_, ?_, fun d hd d' hd' ht => ?_, ?_⟩
  · rcases hv with e2 | ⟨k', e2, e3⟩
    · exact hcq k (by rw [← e2]; exact hk) e
    · have := h.row.lt
      have := k1.size
      rw [hk] at e2
      injection e2 with e2
      omega
  · rcases hv with e2 | ⟨k', e2, e3⟩
    · exact h.dc k hk (by rw [← e2]; exact e)
    · have := dn1.lt hk
      rw [e] at e2
      injection e2 with e2
      omega
  · have h1 := lo d (.inl ⟨hd, ht⟩)
    rw [updT_other _ _ (by omega)]
    exact ⟨db3 d (.inl ⟨hd, ht⟩) (h.db d hd ht).1, (h.db d hd ht).2⟩
  · rcases List.mem_append.1 hd with hd | hd
    · have h1 := lo d (.inr hd)
      rw [updT_other _ _ (by omega)]
      exact ⟨(h.cb d hd).1, (h.cb d hd).2.1, db3 d (.inr hd) (h.cb d hd).2.2.1, (h.cb d hd).2.2.2⟩
    · rw [List.mem_singleton.1 hd]
      refine ⟨rfl, rfl, ?_, ?_⟩
      · show Own w3 _ (updT C g l g)
        rw [updT_same]
        exact keep hgo (Dd.own rfl) hgq
      · show (updT C g l g).length = z
        rw [updT_same]
        exact hl
  · rcases List.mem_append.1 hd with hd | hd
    · exact h.cs d hd
    · rw [List.mem_singleton.1 hd]
      exact hs
  · rw [List.map_append, List.nodup_append]
    refine ⟨h.nd, by simp, fun a ha b hb e => ?_⟩
    obtain ⟨d, hd, e1⟩ := List.mem_map.1 ha
    have h1 := lo d (.inr hd)
    have hb : b = g := by simpa using hb
    omega
  · rcases List.mem_append.1 hd with hd | hd
    · exact h.cd d hd d' hd' ht
    · rw [List.mem_singleton.1 hd]
      have h1 := lo d' (.inl ⟨hd', ht⟩)
      show d'.g ≠ g
      omega
  · have := h.len
    rw [List.length_append, List.length_cons, List.length_nil]
    omega

set_option maxRecDepth 100000 in
set_option maxHeartbeats 4000000 in
theorem RD.write (h : RD w q S z b y dl cl dv cv C) {l : List Int} {ab : Option Addr} {cb : Nat} (hs : Src w (.slice ab z cb) l) (hl : l.length = z) (hz0 : 0 < z) (hz : z ≤ 4096) (s : Nat) (hsS : s < S) (hb : b < 2199023255552) (hf : y.fused = true → 0 ≤ y.fuse ∧ y.fuse ≤ 9223372036854775807) (hE : rbE y = true) (hsp : (Value.slice ab z cb).ownBlock ≠ some q) :
    Calls Try.prog 23 #[.pointer (some ⟨q, 0, none⟩), .int .i64 s, .slice ab z cb] w fun e w' => e = .returned (.int .i64 0) ∧ Chg (fun g => g = q ∨ some g = cv.ownBlock) w w' ∧ ∃ cv' g cp, RD w' q S z (b + 1) { rbN y with wr := inc (rbN y).wr } dl (cl ++ [⟨s, g, cp, z, false, 0, 0⟩]) dv cv' (updT C g l) ∧ w.heap.size ≤ g ∧ (cv'.ownBlock = cv.ownBlock ∨ ∃ k, cv'.ownBlock = some k ∧ w.heap.size ≤ k) := by
  have hhas := rhas_any h.row (s : Int)
  rw [decide_eq_true ⟨by omega, by omega⟩] at hhas
  have HH : Hid _ := hhas
  have c1 : w.cell? ⟨q, 1, none⟩ = some (.int .i64 z) := h.row.cell 1
  have bu := rburn_any h.row hf
  rw [hE] at bu
  have BU : Hid _ := bu
  have H : Hid _ := h
  have HS : Hid _ := hs
  have HL : Hid _ := hl
  have hlb := h.len
  obtain ⟨y1, hy1⟩ : ∃ y1, y1 = rbN y := ⟨_, rfl⟩
  rw [← hy1] at BU ⊢
  clear h hs hl hhas bu hf hE hy1
  go_enter Try.func23, Try.ntmps23
  go_wp2_with (go_at_call 58; refine Calls.mono HH.out ?_; rintro e w9 ⟨rfl, h9⟩; subst h9)
  refine Calls.mono BU.out ?_
  rintro e w1 ⟨rfl, r1, ch1⟩
  have c9 : w1.cell? ⟨q, 9, none⟩ = some (.int .u64 y1.wr) := r1.cell 9
  have f9 := r1.fr 9
  obtain ⟨w2, hw2⟩ : ∃ w2, w1.setCell ⟨q, 9, none⟩ (.int .u64 (inc y1.wr)) = w2 := ⟨_, rfl⟩
  have R2 : Hid (Rw w2 q (rrow S z dv cv { y1 with wr := inc y1.wr }) 52) := by rw [← hw2]; exact Rw.set r1 9 (.int .u64 (inc y1.wr))
  have C2 : Hid (Chg (fun i => i = q) w w2) := by rw [← hw2]; exact ch1.setCell (.inl rfl) _
  have S2 : Hid (Src w2 (.slice ab z cb) l) := Src.kept HS.out C2.out (fun k hk e => hsp (by rw [← e]; exact hk))
  have hw2' : w1.setCell ⟨q, 9, none⟩ (.int .u64 (IntKind.u64.wrap (y1.wr + 1))) = w2 := hw2
  clear r1 ch1 BU HH hw2 c1
  go_wp2_with (refine wpList_app rfl (.tmp 33) (.tmp 34) rfl (v := .slice none 0 0) (u := .slice ab z cb) (l := []) (m := l) rfl rfl (Own.nil w2) S2.out (by rw [HL.out]; simp; omega) ?_; intro v5 w5 o5 c5 b5; have O5 : Hid _ := o5; have C5 : Hid _ := c5; have B5 : Hid _ := b5; clear o5 c5 b5)
  obtain ⟨G, hG⟩ : ∃ G, G = w2.heap.size := ⟨_, rfl⟩
  obtain ⟨cp, hv5⟩ : ∃ cp, v5 = .slice (some ⟨G, 0, none⟩) z cp := by
    rcases owns_form O5.out with ⟨e, e0⟩ | ⟨g, c, e⟩
    · rw [List.nil_append, HL.out] at e0
      omega
    · have hb := B5.out
      rw [e] at hb
      rcases hb with hb | hb
      · simp [Value.ownBlock] at hb
      · simp [Value.ownBlock] at hb
        rw [List.nil_append, HL.out] at e
        exact ⟨c, by rw [e, hb, hG]⟩
  subst hv5
  have O6 : Hid (Own w5 (Dd.bv z ⟨s, G, cp, z, false, 0, 0⟩) l) := O5.out
  have k5 : Chg (fun i => i = q) w2 w5 := C5.out.mono (fun _ _ e => by simp [Value.ownBlock] at e)
  have R5 : Hid (Rw w5 q (rrow S z dv cv { y1 with wr := inc y1.wr }) 52) := ⟨C5.out.heap_some R2.out.eq (fun e => by simp [Value.ownBlock] at e)⟩
  have K5 : Hid (Chg (fun i => i = q) w w5) := C2.out.trans k5 (fun _ e => .inl e)
  have hGw : w.heap.size ≤ G := by rw [hG]; exact C2.out.size
  have cn5 : Dl w5 z cv cl := H.out.cn.chg K5.out (fun k hk e => by
    obtain ⟨cur, e1⟩ := H.out.cn.block hk
    exact cells_ne e1 H.out.row.eq (by decide) e)
  have AP : ∃ v' w7, (Builtin.append_ #[49, 49] 49 #[cv, .slice (some ⟨w5.heap.size, 0, none⟩) 1 1]).run Try.prog (w5.alloc (.cells (Dd.cells z ⟨s, G, cp, z, false, 0, 0⟩).toArray 110)).drew = .ok v' w7 ∧ Dl w7 z v' (cl ++ [⟨s, G, cp, z, false, 0, 0⟩]) ∧ Chg (fun k => some k = cv.ownBlock) w5 w7 ∧ (v'.ownBlock = cv.ownBlock ∨ ∃ k, v'.ownBlock = some k ∧ w5.heap.size ≤ k) := by
    obtain ⟨w6, hw6⟩ : ∃ w6, w6 = (w5.alloc (.cells (Dd.cells z ⟨s, G, cp, z, false, 0, 0⟩).toArray 110)).drew := ⟨_, rfl⟩
    rw [← hw6]
    have c6 : Chg (fun k => some k = cv.ownBlock) w5 w6 := by rw [hw6]; exact ((Chg.refl _ _).alloc _).drew
    have q6 : w6.heap[w5.heap.size]? = some (.cells (Dd.cells z ⟨s, G, cp, z, false, 0, 0⟩).toArray 110 (0, 0)) := by rw [hw6]; exact heap_alloc_new _ _
    have d6 : Dl w6 z cv cl := cn5.chg (by rw [hw6]; exact ((Chg.refl (fun _ => False) _).alloc _).drew) (fun _ _ h => h)
    obtain ⟨v', w7, h1, h2, h3, h4⟩ := run_appR w6 49 d6 (m := [⟨s, G, cp, z, false, 0, 0⟩]) ⟨w5.heap.size, 0, none⟩ 1 (fun j u hu => by
      rw [addr_add, Nat.zero_add, cell_of_row _ _ _ _ _ _ q6]
      simpa [dcs] using hu) (by have := H.out.len; simp; omega)
    refine ⟨v', w7, h1, h2, c6.trans h3 (fun _ e => .inl e), ?_⟩
    rcases h4 with h4 | h4
    · exact .inl h4
    · exact .inr ⟨_, h4, c6.size⟩
  obtain ⟨v', w7, ha, hc7, k7, hv7⟩ := AP
  obtain ⟨n7, hn7⟩ : ∃ n7, n7 = (cl ++ [(⟨s, G, cp, z, false, 0, 0⟩ : Dd)]).length := ⟨_, rfl⟩
  obtain ⟨g7, c7, rfl⟩ : ∃ g c, v' = .slice (some ⟨g, 0, none⟩) n7 c := by
    rcases owns_form hc7 with ⟨_, e0⟩ | ⟨g, c, e⟩
    · simp at e0
    · exact ⟨g, c, by rw [hn7]; exact e⟩
  have HA : Hid _ := ha
  have HC7 : Hid _ := hc7
  have K7 : Hid _ := k7
  have HV7 : Hid _ := hv7
  have hqc : cv.ownBlock ≠ some q := fun e => by
    obtain ⟨cur, e1⟩ := H.out.cn.block e
    exact cells_ne e1 H.out.row.eq (by decide) rfl
  have R7 : Hid (Rw w7 q (rrow S z dv cv { y1 with wr := inc y1.wr }) 52) := ⟨k7.heap_some R5.out.eq (fun e => hqc e.symm)⟩
  clear ha hc7 k7 hv7 hn7
  clear O5 C5 B5 k5 cn5 S2 R2 C2 hG
  have c4 : w5.cell? ⟨q, 4, none⟩ = some cv := R5.out.cell 4
  have c1 : w5.cell? ⟨q, 1, none⟩ = some (.int .i64 z) := R5.out.cell 1
  go_upto_region 9 with fail
  refine wp_region_noPanic ?_
  refine wp_region_held_drew (S := fun w' => w'.cell? ⟨q, 1, none⟩ = some (.int .i64 z)) (by kernel_rfl) c1 (fun hH => ?_)
  refine wpAnyH_take (i := 0) (v := .pointer (some ⟨q, 0, none⟩)) rfl (by kernel_rfl) (by kernel_rfl) (by kernel_rfl) (fun _ _ _ h => h) (Or.inl ⟨by rfl, fun w' hw' => by go_simp⟩) hH ?_
  refine wpAnyH_take (i := 1) (v := .pointer (some ⟨q, 0, none⟩)) rfl (by kernel_rfl) (by kernel_rfl) (by kernel_rfl) (fun _ _ _ h => h) (Or.inl ⟨by rfl, fun w' hw' => by go_simp⟩) hH ?_
  refine wpAnyH_take (i := 2) (v := .pointer (some ⟨q, 0, none⟩)) rfl (by kernel_rfl) (by kernel_rfl) (by kernel_rfl) (fun _ _ _ h => h) (Or.inl ⟨by rfl, fun w' hw' => by go_simp⟩) hH ?_
  refine wpAnyH_take (i := 3) (v := .pointer (some ⟨q, 4, none⟩)) rfl (by kernel_rfl) (by kernel_rfl) (by kernel_rfl) (fun _ _ _ h => h) (Or.inl ⟨by rfl, fun w' hw' => by go_simp⟩) hH ?_
  refine wpAnyH_take (i := 5) (v := .int .i64 s) rfl (by kernel_rfl) (by kernel_rfl) (by kernel_rfl) (fun _ _ _ h => h) (Or.inl ⟨by rfl, fun w' hw' => by go_simp⟩) hH ?_
  refine wpAnyH_take (i := 6) (v := .slice (some ⟨G, 0, none⟩) z cp) rfl (by kernel_rfl) (by kernel_rfl) (by kernel_rfl) (fun _ _ _ h => h) (Or.inl ⟨by rfl, fun w' hw' => by go_simp⟩) hH ?_
  refine wpAnyH_take (i := 7) (v := .pointer (some ⟨q, 0, none⟩)) rfl (by kernel_rfl) (by kernel_rfl) (by kernel_rfl) (fun _ _ _ h => h) (Or.inl ⟨by rfl, fun w' hw' => by go_simp⟩) hH ?_
  refine wpAnyH_take (i := 8) (v := .pointer (some ⟨q, 0, none⟩)) rfl (by kernel_rfl) (by kernel_rfl) (by kernel_rfl) (fun _ _ _ h => h) (Or.inl ⟨by rfl, fun w' hw' => by go_simp⟩) hH ?_
  refine wpAnyH_take (i := 9) (v := .pointer (some ⟨q, 1, none⟩)) rfl (by kernel_rfl) (by kernel_rfl) (by kernel_rfl) (fun _ _ _ h => h) (Or.inl ⟨by rfl, fun w' hw' => by go_simp⟩) hH ?_
  refine wpAnyH_take (i := 10) (v := .int .i64 z) rfl (by kernel_rfl) (by kernel_rfl) (by kernel_rfl) (fun _ _ _ h => h) (Or.inl ⟨by rfl, fun w' hw' => by have q1 := hw'; go_simp⟩) hH ?_
  refine wpAnyH_take (i := 11) (v := .agg #[.int .i64 s, .slice (some ⟨G, 0, none⟩) z cp, .int .i64 z, .bool false, .int .i64 0, .int .u8 0]) rfl (by kernel_rfl) (by kernel_rfl) (by kernel_rfl) (fun _ _ _ h => h) (Or.inl ⟨by rfl, fun w' hw' => by go_simp⟩) hH ?_
  refine wpAnyH_ready (rs := [4, 12]) (by kernel_rfl) (by simp) ?_
  refine AllReadyH.cons rfl (fun KK hKK => ?_) (AllReadyH.cons rfl (fun KK hKK => ?_) AllReadyH.nil)
  · go_simp
    refine hKK.out _ _ hH (fun h1 => ?_)
    clear hKK KK
    refine wpAnyH_ready (rs := [12]) (by kernel_rfl) (by simp) ?_
    refine AllReadyH.cons rfl (fun KK hKK => ?_) AllReadyH.nil
    go_simp
    have HA2 := HA.out
    obtain ⟨w6, hw6⟩ : ∃ w6, w6 = (w5.alloc (.cells #[.int .i64 s, .slice (some ⟨G, 0, none⟩) z cp, .int .i64 z, .bool false, .int .i64 0, .int .u8 0] 110)).drew := ⟨_, rfl⟩
    rw [← hw6]
    have HA3 : Hid ((Builtin.append_ #[49, 49] 49 #[cv, .slice (some ⟨w5.heap.size, 0, none⟩) 1 1]).run Try.prog w6 = .ok (.slice (some ⟨g7, 0, none⟩) n7 c7) w7) := by rw [hw6]; exact HA2
    have R6 : Rw w6 q (rrow S z dv cv { y1 with wr := inc y1.wr }) 52 := by rw [hw6]; exact ⟨(((Chg.refl (fun _ => False) _).alloc _).drew).heap_some R5.out.eq (fun h => h)⟩
    have k6 : w6.cell? ⟨q, 4, none⟩ = some cv := R6.cell 4
    have q6 : w6.cell? ⟨q, 1, none⟩ = some (.int .i64 z) := R6.cell 1
    clear hw6 HA2
    refine hKK.out _ _ q6 (fun h2 => ?_)
    clear hKK KK
    refine wpAnyH_ready (rs := [13]) (by kernel_rfl) (by simp) ?_
    refine AllReadyH.cons rfl (fun KK hKK => ?_) AllReadyH.nil
    refine step_appR rfl (.tmp 40) (.tmp 48) rfl (v := cv) (u := .slice (some ⟨w5.heap.size, 0, none⟩) 1 1) (by kernel_rfl) (by kernel_rfl) HA3.out ?_
    have q7 : w7.cell? ⟨q, 1, none⟩ = some (.int .i64 z) := R7.out.cell 1
    refine hKK.out _ _ q7 (fun h3 => ?_)
    clear hKK KK
    refine wpAnyH_take (i := 14) (v := .pointer (some ⟨q, 0, none⟩)) rfl (by kernel_rfl) (by kernel_rfl) (by kernel_rfl) (fun _ _ _ h => h) (Or.inl ⟨by rfl, fun w' hw' => by go_simp⟩) q7 ?_
    refine wpAnyH_take (i := 15) (v := .pointer (some ⟨q, 4, none⟩)) rfl (by kernel_rfl) (by kernel_rfl) (by kernel_rfl) (fun _ _ _ h => h) (Or.inl ⟨by rfl, fun w' hw' => by go_simp⟩) q7 ?_
    have k74 : w7.cell? ⟨q, 4, none⟩ = some cv := R7.out.cell 4
    have f74 := R7.out.fr 4
    refine wpAnyH_ready (rs := [16]) (by kernel_rfl) (by simp) ?_
    refine AllReadyH.cons rfl (fun KK hKK => ?_) AllReadyH.nil
    go_simp
    have R8 := Rw.set R7.out 4 (.slice (some ⟨g7, 0, none⟩) n7 c7)
    have q8 : (w7.setCell ⟨q, 4, none⟩ (.slice (some ⟨g7, 0, none⟩) n7 c7)).cell? ⟨q, 1, none⟩ = some (.int .i64 z) := R8.cell 1
    refine hKK.out _ _ q8 (fun _ => ?_)
    clear hKK KK
    refine wpAnyH_done (by kernel_rfl) (NoPanic.normal ?_) _
    have c8 : Chg (fun i => i = q) w7 (w7.setCell ⟨q, 4, none⟩ (.slice (some ⟨g7, 0, none⟩) n7 c7)) := (Chg.refl (fun i => i = q) _).setCell (.inl rfl) _
    have FIN : Hid _ := H.out.more (s := s) K5.out hGw O6.out HL.out hsS HC7.out K7.out HV7.out R8 c8
    have CH : Hid (Chg (fun g => g = q ∨ some g = cv.ownBlock) w (w7.setCell ⟨q, 4, none⟩ (.slice (some ⟨g7, 0, none⟩) n7 c7))) := (((K5.out.mono (fun _ _ e => .inl e)).trans K7.out (fun _ e => .inl (.inr e)))).trans c8 (fun _ e => .inl (.inl e))
    have HV : Hid ((Value.slice (some ⟨g7, 0, none⟩) n7 c7).ownBlock = cv.ownBlock ∨ ∃ k, (Value.slice (some ⟨g7, 0, none⟩) n7 c7).ownBlock = some k ∧ w.heap.size ≤ k) := by
      rcases HV7.out with e | ⟨k, e1, e2⟩
      · exact .inl e
      · exact .inr ⟨k, e1, Nat.le_trans K5.out.size e2⟩
    clear R8 c8 q8 q7 k74 f74 h3 k6 q6 h2 R6
    go_wp2_with fail
    go_ret
    exact ⟨rfl, CH.out, _, G, cp, FIN.out, hGw, HV.out⟩
  · go_simp
    have HA2 := HA.out
    obtain ⟨w6, hw6⟩ : ∃ w6, w6 = (w5.alloc (.cells #[.int .i64 s, .slice (some ⟨G, 0, none⟩) z cp, .int .i64 z, .bool false, .int .i64 0, .int .u8 0] 110)).drew := ⟨_, rfl⟩
    rw [← hw6]
    have HA3 : Hid ((Builtin.append_ #[49, 49] 49 #[cv, .slice (some ⟨w5.heap.size, 0, none⟩) 1 1]).run Try.prog w6 = .ok (.slice (some ⟨g7, 0, none⟩) n7 c7) w7) := by rw [hw6]; exact HA2
    have R6 : Rw w6 q (rrow S z dv cv { y1 with wr := inc y1.wr }) 52 := by rw [hw6]; exact ⟨(((Chg.refl (fun _ => False) _).alloc _).drew).heap_some R5.out.eq (fun h => h)⟩
    have k6 : w6.cell? ⟨q, 4, none⟩ = some cv := R6.cell 4
    have q6 : w6.cell? ⟨q, 1, none⟩ = some (.int .i64 z) := R6.cell 1
    clear hw6 HA2
    refine hKK.out _ _ q6 (fun h2 => ?_)
    clear hKK KK
    refine wpAnyH_ready (rs := [4]) (by kernel_rfl) (by simp) ?_
    refine AllReadyH.cons rfl (fun KK hKK => ?_) AllReadyH.nil
    go_simp
    refine hKK.out _ _ q6 (fun h2 => ?_)
    clear hKK KK
    refine wpAnyH_ready (rs := [13]) (by kernel_rfl) (by simp) ?_
    refine AllReadyH.cons rfl (fun KK hKK => ?_) AllReadyH.nil
    refine step_appR rfl (.tmp 40) (.tmp 48) rfl (v := cv) (u := .slice (some ⟨w5.heap.size, 0, none⟩) 1 1) (by kernel_rfl) (by kernel_rfl) HA3.out ?_
    have q7 : w7.cell? ⟨q, 1, none⟩ = some (.int .i64 z) := R7.out.cell 1
    refine hKK.out _ _ q7 (fun h3 => ?_)
    clear hKK KK
    refine wpAnyH_take (i := 14) (v := .pointer (some ⟨q, 0, none⟩)) rfl (by kernel_rfl) (by kernel_rfl) (by kernel_rfl) (fun _ _ _ h => h) (Or.inl ⟨by rfl, fun w' hw' => by go_simp⟩) q7 ?_
    refine wpAnyH_take (i := 15) (v := .pointer (some ⟨q, 4, none⟩)) rfl (by kernel_rfl) (by kernel_rfl) (by kernel_rfl) (fun _ _ _ h => h) (Or.inl ⟨by rfl, fun w' hw' => by go_simp⟩) q7 ?_
    have k74 : w7.cell? ⟨q, 4, none⟩ = some cv := R7.out.cell 4
    have f74 := R7.out.fr 4
    refine wpAnyH_ready (rs := [16]) (by kernel_rfl) (by simp) ?_
    refine AllReadyH.cons rfl (fun KK hKK => ?_) AllReadyH.nil
    go_simp
    have R8 := Rw.set R7.out 4 (.slice (some ⟨g7, 0, none⟩) n7 c7)
    have q8 : (w7.setCell ⟨q, 4, none⟩ (.slice (some ⟨g7, 0, none⟩) n7 c7)).cell? ⟨q, 1, none⟩ = some (.int .i64 z) := R8.cell 1
    refine hKK.out _ _ q8 (fun _ => ?_)
    clear hKK KK
    refine wpAnyH_done (by kernel_rfl) (NoPanic.normal ?_) _
    have c8 : Chg (fun i => i = q) w7 (w7.setCell ⟨q, 4, none⟩ (.slice (some ⟨g7, 0, none⟩) n7 c7)) := (Chg.refl (fun i => i = q) _).setCell (.inl rfl) _
    have FIN : Hid _ := H.out.more (s := s) K5.out hGw O6.out HL.out hsS HC7.out K7.out HV7.out R8 c8
    have CH : Hid (Chg (fun g => g = q ∨ some g = cv.ownBlock) w (w7.setCell ⟨q, 4, none⟩ (.slice (some ⟨g7, 0, none⟩) n7 c7))) := (((K5.out.mono (fun _ _ e => .inl e)).trans K7.out (fun _ e => .inl (.inr e)))).trans c8 (fun _ e => .inl (.inl e))
    have HV : Hid ((Value.slice (some ⟨g7, 0, none⟩) n7 c7).ownBlock = cv.ownBlock ∨ ∃ k, (Value.slice (some ⟨g7, 0, none⟩) n7 c7).ownBlock = some k ∧ w.heap.size ≤ k) := by
      rcases HV7.out with e | ⟨k, e1, e2⟩
      · exact .inl e
      · exact .inr ⟨k, e1, Nat.le_trans K5.out.size e2⟩
    clear R8 c8 q8 q7 k74 f74 h3 k6 q6 h2 R6
    go_wp2_with fail
    go_ret
    exact ⟨rfl, CH.out, _, G, cp, FIN.out, hGw, HV.out⟩
end
end Go.Proofs.Ytddnecfnjnipjaa
