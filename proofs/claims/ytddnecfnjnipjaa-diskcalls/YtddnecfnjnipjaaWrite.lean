/-
  Write: a write that is done.
-/
import Derived.Test.YtddnecfnjnipjaaCache
namespace Go.Proofs.Ytddnecfnjnipjaa
open Go.RowKit Go.RwLone

theorem step_append {ops : Array Oper} {o : Oper} {a : Act} {w w' : World} {K : Act → World → Prop} {Q : Exit → Act → World → Prop} {E : Prop} (hgd : o.guard = none) (s x : Operand)
    (ho : o.op = .call { callee := .builtin .append, args := #[s, x], argTypes := #[88, 88] }) {v u v' : Value} (hs : a.eval s = v) (hx : a.eval x = u) (hr : (Builtin.append_ #[88, 88] o.type #[v, u]).run Try.prog w = .ok v' w') (h : K (a.put o.dst v') w') :
    if Region.wanted o (yielded ops a.tmps) = true then Oper.wp Try.prog o a w K Q else E := by
  have hw : Region.wanted o (yielded ops a.tmps) = true := by simp [Region.wanted, hgd]
  rw [if_pos hw]
  unfold Oper.wp execOp
  simp only [ho, resolve, invoke, builtin, Sem.run_bind, Sem.run_pure, Result.andThen_ok, List.map_toArray, List.map_cons, List.map_nil, hs, hx, hr]
  exact h

/-- Where the slices of writes lie behind one more. -/
theorem vnew {V : Nat → Value} {s n0 n1 : Nat} {v' : Value} (h : v'.ownBlock = (V s).ownBlock ∨ v'.ownBlock = some n1) (hn : n0 ≤ n1) : ∀ t g, (if t = s then v' else V t).ownBlock = some g → (V t).ownBlock = some g ∨ n0 ≤ g := by
  intro t g hg
  by_cases e : t = s
  · rw [if_pos e] at hg
    rcases h with h | h
    · exact .inl (by rw [e, ← h]; exact hg)
    · rw [hg] at h; injection h with h; exact .inr (by omega)
  · rw [if_neg e] at hg; exact .inl hg

theorem Ca.blt {w : World} {c k z : Nat} {L : Nat → List (Nat × Nat)} {V : Nat → Value} {D : DataW Unit} (h : Ca w c k z L V D) (t g : Nat) (hg : (V t).ownBlock = some g) : g < w.heap.size := by
  rcases (h.row t).2 with ⟨e2, _⟩ | ⟨b, cap, cur, e2, _, hgg, _⟩
  · rw [e2] at hg; simp [Value.ownBlock] at hg
  · rw [e2] at hg
    simp [Value.ownBlock] at hg
    rw [← hg]
    exact (Array.getElem?_eq_some_iff.1 hgg).1

set_option maxRecDepth 100000 in
set_option maxHeartbeats 4000000 in
theorem write_yes {w : World} {p m c k z S pn : Nat} {x : Nums} {L : Nat → List (Nat × Nat)} {V : Nat → Value} {D : DataW Unit} {l : List Int} {ab : Option Addr} {cb : Nat} (h : Rw w p (dkG S z m c x) 86) (hca : Ca w c k z L V D) (hs : Src w (.slice ab z cb) l) (hl : l.length = z) (hz0 : 0 < z) (hz : z ≤ 4096)
    (s : Nat) (hsS : s < S) (hS : S ≤ 65536) (hp : x.pend = pn) (hpn : pn < 4398046511104) (hL : (L s).length + 1 ≤ 4398046511104) (hk : k ≤ 4398046511104) (hf : -1 ≤ x.fuse) (hf2 : x.fuse ≤ 9223372036854775807) (hb : burnE x = 0) (hcp : c ≠ p) (hVp : ∀ t, (V t).ownBlock ≠ some p) (hsp : (Value.slice ab z cb).ownBlock ≠ some p) :
    Calls Try.prog 12 #[.pointer (some ⟨p, 0, none⟩), .int .i64 s, .slice ab z cb] w fun e w' => e = .returned (.int .i64 0) ∧ Rw w' p (dkG S z m c { burnN x with pend := ((pn + 1 : Nat) : Int), wr := inc (burnN x).wr }) 86 ∧
      (∃ hh V' D', Ca w' c (k + 1) z (fun t => if t = s then L s ++ [(pn, hh)] else L t) V' D' ∧ Rw w' hh (bs l).toArray 5 ∧ w.heap.size ≤ hh ∧ ∀ t g, (V' t).ownBlock = some g → (V t).ownBlock = some g ∨ w.heap.size ≤ g) ∧ Chg (fun i => i = p ∨ i = c ∨ some i = (V s).ownBlock) w w' := by
  have DKh : Calls Try.prog 36 #[.pointer (some ⟨p, 0, none⟩), .int .i64 s] w fun e w' => e = .returned (.bool true) ∧ w = w' := by
    have c0 : w.cell? ⟨p, 0, none⟩ = some (.int .i64 S) := Rw.cell h 0
    clear h hca hs hp hb
    go_enter Try.func36, Try.ntmps36
    go_wp2_with fail
    go_ret
    exact ⟨rfl, rfl⟩
  have HH : Hid _ := DKh
  have c1 : w.cell? ⟨p, 1, none⟩ = some (.int .i64 z) := Rw.cell h 1
  have c2 : w.cell? ⟨p, 2, none⟩ = some (.int .i32 0) := Rw.cell h 2
  have c4 : w.cell? ⟨p, 4, none⟩ = some (.int .u32 0) := Rw.cell h 4
  have c5 : w.cell? ⟨p, 5, none⟩ = some (.int .u32 0) := Rw.cell h 5
  have c6 : w.cell? ⟨p, 6, none⟩ = some (.int .i32 0) := Rw.cell h 6
  have f6 := Rw.fr h 6
  have f2 := Rw.fr h 2
  have H : Hid _ := h
  have HCA : Hid _ := hca
  have HS : Hid _ := hs
  have HP : Hid _ := hp
  have HB : Hid _ := hb
  have HLL : Hid _ := hl
  have VLT : Hid (∀ t b, (V t).ownBlock = some b → b < w.heap.size) := fun t b hb => Ca.blt hca t b hb
  have HVP : Hid (∀ t b, (V t).ownBlock = some b → some b ≠ some p) := fun t b hb e => hVp t (by rw [hb]; exact e)
  have HSP : Hid (∀ w2, Chg (fun i => i = p) w w2 → Src w2 (.slice ab z cb) l) := fun w2 c2 => Src.kept hs c2 (fun j hj e => hsp (by rw [← e]; exact hj))
  clear h hca hs hp hb hl DKh
  go_enter_defers Try.func12, Try.ntmps12
  go_wp2_with (go_at_call 36; refine Calls.mono HH.out ?_; rintro e w9 ⟨rfl, h9⟩; subst h9)
  refine (wlock_free Try.rwWLib p 2 _ _ _ c2 c4 c5 c6 f2 f6).mono ?_
  rintro e w' ⟨rfl, rfl⟩
  have R1 : Rw ((w.setCell ⟨p, 2, none⟩ (.int .i32 1)).setCell ⟨p, 6, none⟩ (.int .i32 (-1073741824))) p (heldG S z m c x) 86 := Rw.two H.out 2 6 (.int .i32 1) (.int .i32 (-1073741824))
  obtain ⟨w1, hw1⟩ : ∃ w1, w1 = (w.setCell ⟨p, 2, none⟩ (.int .i32 1)).setCell ⟨p, 6, none⟩ (.int .i32 (-1073741824)) := ⟨_, rfl⟩
  rw [← hw1] at R1
  have e1 : (w.setCell ⟨p, 2, none⟩ (.int .i32 1)).setCell ⟨p, 2 + 4, none⟩ (.int .i32 (-1073741824)) = w1 := hw1.symm
  rw [e1]
  have C1 : Hid (Chg (fun i => i = p) w w1) := by rw [hw1]; exact ((Chg.refl (fun i => i = p) w).setCell (.inl rfl) _).setCell (.inl rfl) _
  have BU : Hid _ := burn_held R1 hf hf2
  clear c1 c2 c4 c5 c6 f2 f6 R1 hw1 e1 HH
  go_wp2_with fail
  refine Calls.mono BU.out ?_
  rintro e w2 ⟨rfl, r2, ch2⟩
  rw [HB.out]
  have R2 : Hid _ := r2
  have C2 : Hid (Chg (fun i => i = p) w w2) := C1.out.trans ch2 (fun _ e => .inl e)
  clear r2 ch2 BU C1
  go_upto_region 8 with fail
  refine wp_region_noPanic ?_
  have hpend : (burnN x).pend = (pn : Int) := by rw [← HP.out]; unfold burnN; split; rfl; split <;> rfl
  have k9 : w2.cell? ⟨p, 9, none⟩ = some (.map (some c)) := Rw.cell R2.out 9
  have k10 : w2.cell? ⟨p, 10, none⟩ = some (.int .i64 pn) := by rw [← hpend]; exact Rw.cell R2.out 10
  have CA2 : Hid (Ca w2 c k z L V D) := Ca.kept HCA.out (grown_of C2.out) (by simpa using hcp) HVP.out
  have S2 : Hid (Src w2 (.slice ab z cb) l) := HSP.out w2 C2.out
  refine wp_region_held_drew (S := fun w' => w'.cell? ⟨p, 9, none⟩ = some (.map (some c)) ∧ w'.cell? ⟨p, 10, none⟩ = some (.int .i64 pn)) (by kernel_rfl) ⟨k9, k10⟩ (fun hH => ?_)
  refine wpAnyH_take (i := 0) (v := .pointer (some ⟨p, 0, none⟩)) rfl (by kernel_rfl) (by kernel_rfl) (by kernel_rfl) (fun _ _ _ h => h) (Or.inl ⟨by rfl, fun w' _ => by go_simp⟩) hH ?_
  refine wpAnyH_take (i := 1) (v := .pointer (some ⟨p, 0, none⟩)) rfl (by kernel_rfl) (by kernel_rfl) (by kernel_rfl) (fun _ _ _ h => h) (Or.inl ⟨by rfl, fun w' _ => by go_simp⟩) hH ?_
  refine wpAnyH_take (i := 2) (v := .pointer (some ⟨p, 9, none⟩)) rfl (by kernel_rfl) (by kernel_rfl) (by kernel_rfl) (fun _ _ _ h => h) (Or.inl ⟨by rfl, fun w' _ => by go_simp⟩) hH ?_
  refine wpAnyH_take (i := 3) (v := .map (some c)) rfl (by kernel_rfl) (by kernel_rfl) (by kernel_rfl) (fun _ _ _ h => h) (Or.inl ⟨by rfl, fun w' hw' => by have q1 := hw'.1; go_simp⟩) hH ?_
  refine wpAnyH_take (i := 4) (v := .int .i64 s) rfl (by kernel_rfl) (by kernel_rfl) (by kernel_rfl) (fun _ _ _ h => h) (Or.inl ⟨by rfl, fun w' _ => by go_simp⟩) hH ?_
  refine wpAnyH_take (i := 5) (v := .pointer (some ⟨p, 0, none⟩)) rfl (by kernel_rfl) (by kernel_rfl) (by kernel_rfl) (fun _ _ _ h => h) (Or.inl ⟨by rfl, fun w' _ => by go_simp⟩) hH ?_
  refine wpAnyH_take (i := 6) (v := .pointer (some ⟨p, 0, none⟩)) rfl (by kernel_rfl) (by kernel_rfl) (by kernel_rfl) (fun _ _ _ h => h) (Or.inl ⟨by rfl, fun w' _ => by go_simp⟩) hH ?_
  refine wpAnyH_take (i := 7) (v := .pointer (some ⟨p, 9, none⟩)) rfl (by kernel_rfl) (by kernel_rfl) (by kernel_rfl) (fun _ _ _ h => h) (Or.inl ⟨by rfl, fun w' _ => by go_simp⟩) hH ?_
  refine wpAnyH_take (i := 8) (v := .map (some c)) rfl (by kernel_rfl) (by kernel_rfl) (by kernel_rfl) (fun _ _ _ h => h) (Or.inl ⟨by rfl, fun w' hw' => by have q1 := hw'.1; go_simp⟩) hH ?_
  refine wpAnyH_take (i := 9) (v := .int .i64 s) rfl (by kernel_rfl) (by kernel_rfl) (by kernel_rfl) (fun _ _ _ h => h) (Or.inl ⟨by rfl, fun w' _ => by go_simp⟩) hH ?_
  refine wpAnyH_take (i := 11) (v := .pointer (some ⟨p, 0, none⟩)) rfl (by kernel_rfl) (by kernel_rfl) (by kernel_rfl) (fun _ _ _ h => h) (Or.inl ⟨by rfl, fun w' _ => by go_simp⟩) hH ?_
  refine wpAnyH_take (i := 12) (v := .pointer (some ⟨p, 0, none⟩)) rfl (by kernel_rfl) (by kernel_rfl) (by kernel_rfl) (fun _ _ _ h => h) (Or.inl ⟨by rfl, fun w' _ => by go_simp⟩) hH ?_
  refine wpAnyH_take (i := 13) (v := .pointer (some ⟨p, 10, none⟩)) rfl (by kernel_rfl) (by kernel_rfl) (by kernel_rfl) (fun _ _ _ h => h) (Or.inl ⟨by rfl, fun w' _ => by go_simp⟩) hH ?_
  refine wpAnyH_take (i := 14) (v := .int .i64 pn) rfl (by kernel_rfl) (by kernel_rfl) (by kernel_rfl) (fun _ _ _ h => h) (Or.inl ⟨by rfl, fun w' hw' => by have q1 := hw'.2; go_simp⟩) hH ?_
  refine wpAnyH_take (i := 15) (v := .slice ab z cb) rfl (by kernel_rfl) (by kernel_rfl) (by kernel_rfl) (fun _ _ _ h => h) (Or.inl ⟨by rfl, fun w' _ => by go_simp⟩) hH ?_
  have hlk : (Instr.lookup 81 (.map (some c)) (.int .i64 s) false).run Try.prog w2.drew = .ok (V s) w2.drew := Ca.lookup (w := w2.drew) ⟨CA2.out.own.drew, CA2.out.at_, CA2.out.has, fun t => CA2.out.row t, CA2.out.ne⟩ s (by omega)
  refine wpAnyH_ready (rs := [10, 16]) (by kernel_rfl) (by simp) ?_
  refine AllReadyH.cons rfl (fun K hK => ?_) (AllReadyH.cons rfl (fun K hK => ?_) AllReadyH.nil)
  · go_simp
    refine hK.out _ _ hH (fun h1 => ?_)
    clear hK K
    refine wpAnyH_ready (rs := [16]) (by kernel_rfl) (by simp) ?_
    refine AllReadyH.cons rfl (fun K hK => ?_) AllReadyH.nil
    go_simp
    refine Calls.mono (copied_any (w := w2.drew) S2.out (by rw [HLL.out]; omega) (by rw [HLL.out]; omega)) ?_
    rintro e w3 ⟨rfl, r3, b3⟩
    rw [HLL.out]
    refine hK.out _ _ ⟨by rw [b3.cell (World.block_lt_of_cell? _ _ hH.1)]; exact hH.1, by rw [b3.cell (World.block_lt_of_cell? _ _ hH.2)]; exact hH.2⟩ (fun h2 => ?_)
    clear hK K
    refine wpAnyH_take (i := 17) (v := .agg #[.int .i64 pn, .slice (some ⟨w2.heap.size, 0, none⟩) z z]) rfl (by kernel_rfl) (by kernel_rfl) (by kernel_rfl) (fun _ _ _ h => h) (Or.inl ⟨by rfl, fun w' _ => by go_simp⟩) h2 ?_
    have b3' : Below w2.heap.size w2 w3 := ⟨b3.os, b3.tape, b3.output, b3.size, b3.block⟩
    have R3 := Rw.keep R2.out b3'
    have CA3 : Ca w3 c k z L V D := Ca.kept CA2.out (row := none) ⟨b3'.os, b3'.tape, b3'.output, b3'.size, fun i hi _ => b3'.block i hi⟩ (by simp) (by simp)
    obtain ⟨w4, hw4⟩ : ∃ w4, w4 = w3.alloc (.cells #[.int .i64 pn, .slice (some ⟨w2.heap.size, 0, none⟩) z z] 90) := ⟨_, rfl⟩
    have b4 : Below w3.heap.size w3 w4 := by rw [hw4]; exact (Below.refl _ _).alloc (Nat.le_refl _) _
    have R4 := Rw.keep R3 b4
    have Q4 : Rw w4 w3.heap.size #[.int .i64 pn, .slice (some ⟨w2.heap.size, 0, none⟩) z z] 90 := by rw [hw4]; exact ⟨heap_alloc_new _ _⟩
    have CA4 : Ca w4 c k z L V D := Ca.kept CA3 (row := none) ⟨b4.os, b4.tape, b4.output, b4.size, fun i hi _ => b4.block i hi⟩ (by simp) (by simp)
    have H4 := Rw.keep r3 b4
    obtain ⟨v', w5, w6, ha, hm, ⟨D', ca6⟩, gr5, gr6, hv'⟩ := Ca.more CA4 s (by omega) (pn, w2.heap.size) ⟨w3.heap.size, 0, none⟩ 1 88 (fun j u hu => by rw [addr_add, Nat.zero_add, Rw.cell Q4 j]; simpa [wcell] using hu) hL hk
    have ch5 : Chg (fun i => some i = (V s).ownBlock) w4 w5 := ⟨gr5.os, gr5.tape, gr5.output, gr5.size, fun i hi hn => gr5.block i hi hn⟩
    have ch6 : Chg (fun i => i = c) w5 w6 := ⟨gr6.os, gr6.tape, gr6.output, gr6.size, fun i hi hn => gr6.block i hi (by simpa using hn)⟩
    have R5 : Rw w5 p (heldG S z m c (burnN x)) 86 := ⟨ch5.heap_some R4.eq (fun e => hVp s e.symm)⟩
    have R6 : Hid (Rw w6 p (heldG S z m c (burnN x)) 86) := ⟨ch6.heap_some R5.eq (fun e => hcp e.symm)⟩
    have hbne : (V s).ownBlock ≠ some w2.heap.size := fun e => by have := VLT.out s _ e; have := C2.out.size; omega
    have cltw : c < w2.heap.size := Nat.lt_of_lt_of_le HCA.out.own.lt C2.out.size
    have H6 : Hid (Rw w6 w2.heap.size (bs l).toArray 5) := ⟨ch6.heap_some (ch5.heap_some H4.eq (fun e => hbne e.symm)) (by omega)⟩
    have CA6 : Hid _ := ca6
    have CH6 : Hid (Chg (fun i => i = p ∨ i = c ∨ some i = (V s).ownBlock) w w6) := by
      have a1 : Chg (fun i => i = p ∨ i = c ∨ some i = (V s).ownBlock) w w2 := C2.out.mono (fun _ _ e => .inl e)
      have a2 := (a1.trans (Chg.of_below b3' (fun _ => False)) (fun _ e => e.elim)).trans (Chg.of_below b4 (fun _ => False)) (fun _ e => e.elim)
      exact (a2.trans ch5 (fun _ e => .inl (.inr (.inr e)))).trans ch6 (fun _ e => .inl (.inr (.inl e)))
    have q5 : w5.cell? ⟨p, 9, none⟩ = some (.map (some c)) ∧ w5.cell? ⟨p, 10, none⟩ = some (.int .i64 pn) := ⟨Rw.cell R5 9, by rw [← hpend]; exact Rw.cell R5 10⟩
    have q4 : w4.cell? ⟨p, 9, none⟩ = some (.map (some c)) ∧ w4.cell? ⟨p, 10, none⟩ = some (.int .i64 pn) := ⟨Rw.cell R4 9, by rw [← hpend]; exact Rw.cell R4 10⟩
    have q6 : w6.cell? ⟨p, 9, none⟩ = some (.map (some c)) ∧ w6.cell? ⟨p, 10, none⟩ = some (.int .i64 pn) := ⟨Rw.cell R6.out 9, by rw [← hpend]; exact Rw.cell R6.out 10⟩
    have hs42 : w2.heap.size ≤ w4.heap.size := Nat.le_trans b3'.size b4.size
    have plt2 : p < w2.heap.size := Rw.lt R2.out
    have hlk3 := Ca.lookup CA3 s (by omega)
    have hlk4 := Ca.lookup CA4 s (by omega)
    have q3 : w3.cell? ⟨p, 9, none⟩ = some (.map (some c)) ∧ w3.cell? ⟨p, 10, none⟩ = some (.int .i64 pn) := ⟨Rw.cell R3 9, by rw [← hpend]; exact Rw.cell R3 10⟩
    clear ca6 gr5 gr6 ch5 ch6 R5 R4 R3 CA3 CA4 Q4 H4 b4 b3' hbne
    refine wpAnyH_ready (rs := [18]) (by kernel_rfl) (by simp) ?_
    refine AllReadyH.cons rfl (fun K hK => ?_) AllReadyH.nil
    go_simp
    rw [← hw4]
    clear hw4
    refine hK.out _ _ q4 (fun _ => ?_)
    clear hK K
    refine wpAnyH_ready (rs := [19]) (by kernel_rfl) (by simp) ?_
    refine AllReadyH.cons rfl (fun K hK => ?_) AllReadyH.nil
    refine step_append rfl (.tmp 43) (.tmp 51) rfl (v := V s) (u := .slice (some ⟨w3.heap.size, 0, none⟩) 1 1) (by kernel_rfl) (by kernel_rfl) ha ?_
    refine hK.out _ _ q5 (fun _ => ?_)
    clear hK K
    refine wpAnyH_ready (rs := [20]) (by kernel_rfl) (by simp) ?_
    refine AllReadyH.cons rfl (fun K hK => ?_) AllReadyH.nil
    go_simp
    refine hK.out _ _ q6 (fun _ => ?_)
    clear hK K
    refine wpAnyH_done (by kernel_rfl) (NoPanic.normal ?_) _
    have k10 := q6.2
    have f10 := Rw.fr R6.out 10
    clear q3 q4 q5 q6 ha hm hH hlk hlk3 hlk4
    go_wp2_with fail
    have R7 : Hid (Rw (w6.setCell ⟨p, 10, none⟩ (.int .i64 ((pn : Int) + 1))) p _ 86) := Rw.set R6.out 10 (.int .i64 ((pn : Int) + 1))
    refine Calls.mono (u64add_any ⟨p, 15, none⟩ (burnN x).wr 1 _ (Rw.cell R7.out 15) (Rw.fr R7.out 15)) ?_
    rintro e w9 ⟨q, hq, rfl, rfl⟩
    have HQ : Hid _ := hq
    clear hq
    have R8 : Hid _ := Rw.set R7.out 15 (.int .u64 q)
    go_wp2_with fail
    refine leaves_cons (f := 38) (args := #[.pointer (some ⟨p, 2, none⟩)]) (by simp) (by simp [go_sem]) ?_
    refine (wunlock_deferred Try.rwWLib p 2 _ _ .returning _ (Rw.cell R8.out 2) (Rw.cell R8.out 4) (Rw.cell R8.out 5) (Rw.cell R8.out 6) (Rw.fr R8.out 2) (Rw.fr R8.out 6)).mono ?_
    rintro e u' w'' ⟨rfl, rfl, rfl⟩
    have ch9 : Chg (fun i => i = p) w6 ((((w6.setCell ⟨p, 10, none⟩ (.int .i64 ((pn : Int) + 1))).setCell ⟨p, 15, none⟩ (.int .u64 q)).setCell ⟨p, 2 + 4, none⟩ (.int .i32 0)).setCell ⟨p, 2, none⟩ (.int .i32 0)) := ((((Chg.refl (fun i => i = p) w6).setCell (.inl rfl) _).setCell (.inl rfl) _).setCell (.inl rfl) _).setCell (.inl rfl) _
    have epn : ((pn + 1 : Nat) : Int) = (pn : Int) + 1 := by omega
    refine ⟨_, results_tmp rfl _ _ _, rfl, ?_, ⟨w2.heap.size, _, _, Ca.kept CA6.out (grown_of ch9) (by simpa using hcp) ?_, Rw.chg1 H6.out ch9 ?_, C2.out.size, vnew hv' (Nat.le_trans C2.out.size hs42)⟩, CH6.out.trans ch9 (fun _ e => .inl (.inl e))⟩
    · rw [epn, show inc (burnN x).wr = q from HQ.out.symm]
      exact Rw.two R8.out 6 2 (.int .i32 0) (.int .i32 0)
    · intro t b hb e
      injection e with e
      subst e
      by_cases hts : t = s
      · simp only [if_pos hts] at hb
        rcases hv' with e5 | e5
        · exact hVp s (by rw [← e5]; exact hb)
        · rw [hb] at e5
          injection e5 with e5
          omega
      · simp only [if_neg hts] at hb
        exact hVp t hb
    · omega
  · go_simp
    refine Calls.mono (copied_any (w := w2.drew) S2.out (by rw [HLL.out]; omega) (by rw [HLL.out]; omega)) ?_
    rintro e w3 ⟨rfl, r3, b3⟩
    rw [HLL.out]
    refine hK.out _ _ ⟨by rw [b3.cell (World.block_lt_of_cell? _ _ hH.1)]; exact hH.1, by rw [b3.cell (World.block_lt_of_cell? _ _ hH.2)]; exact hH.2⟩ (fun h2 => ?_)
    clear hK K
    refine wpAnyH_take (i := 17) (v := .agg #[.int .i64 pn, .slice (some ⟨w2.heap.size, 0, none⟩) z z]) rfl (by kernel_rfl) (by kernel_rfl) (by kernel_rfl) (fun _ _ _ h => h) (Or.inl ⟨by rfl, fun w' _ => by go_simp⟩) h2 ?_
    have b3' : Below w2.heap.size w2 w3 := ⟨b3.os, b3.tape, b3.output, b3.size, b3.block⟩
    have R3 := Rw.keep R2.out b3'
    have CA3 : Ca w3 c k z L V D := Ca.kept CA2.out (row := none) ⟨b3'.os, b3'.tape, b3'.output, b3'.size, fun i hi _ => b3'.block i hi⟩ (by simp) (by simp)
    obtain ⟨w4, hw4⟩ : ∃ w4, w4 = w3.alloc (.cells #[.int .i64 pn, .slice (some ⟨w2.heap.size, 0, none⟩) z z] 90) := ⟨_, rfl⟩
    have b4 : Below w3.heap.size w3 w4 := by rw [hw4]; exact (Below.refl _ _).alloc (Nat.le_refl _) _
    have R4 := Rw.keep R3 b4
    have Q4 : Rw w4 w3.heap.size #[.int .i64 pn, .slice (some ⟨w2.heap.size, 0, none⟩) z z] 90 := by rw [hw4]; exact ⟨heap_alloc_new _ _⟩
    have CA4 : Ca w4 c k z L V D := Ca.kept CA3 (row := none) ⟨b4.os, b4.tape, b4.output, b4.size, fun i hi _ => b4.block i hi⟩ (by simp) (by simp)
    have H4 := Rw.keep r3 b4
    obtain ⟨v', w5, w6, ha, hm, ⟨D', ca6⟩, gr5, gr6, hv'⟩ := Ca.more CA4 s (by omega) (pn, w2.heap.size) ⟨w3.heap.size, 0, none⟩ 1 88 (fun j u hu => by rw [addr_add, Nat.zero_add, Rw.cell Q4 j]; simpa [wcell] using hu) hL hk
    have ch5 : Chg (fun i => some i = (V s).ownBlock) w4 w5 := ⟨gr5.os, gr5.tape, gr5.output, gr5.size, fun i hi hn => gr5.block i hi hn⟩
    have ch6 : Chg (fun i => i = c) w5 w6 := ⟨gr6.os, gr6.tape, gr6.output, gr6.size, fun i hi hn => gr6.block i hi (by simpa using hn)⟩
    have R5 : Rw w5 p (heldG S z m c (burnN x)) 86 := ⟨ch5.heap_some R4.eq (fun e => hVp s e.symm)⟩
    have R6 : Hid (Rw w6 p (heldG S z m c (burnN x)) 86) := ⟨ch6.heap_some R5.eq (fun e => hcp e.symm)⟩
    have hbne : (V s).ownBlock ≠ some w2.heap.size := fun e => by have := VLT.out s _ e; have := C2.out.size; omega
    have cltw : c < w2.heap.size := Nat.lt_of_lt_of_le HCA.out.own.lt C2.out.size
    have H6 : Hid (Rw w6 w2.heap.size (bs l).toArray 5) := ⟨ch6.heap_some (ch5.heap_some H4.eq (fun e => hbne e.symm)) (by omega)⟩
    have CA6 : Hid _ := ca6
    have CH6 : Hid (Chg (fun i => i = p ∨ i = c ∨ some i = (V s).ownBlock) w w6) := by
      have a1 : Chg (fun i => i = p ∨ i = c ∨ some i = (V s).ownBlock) w w2 := C2.out.mono (fun _ _ e => .inl e)
      have a2 := (a1.trans (Chg.of_below b3' (fun _ => False)) (fun _ e => e.elim)).trans (Chg.of_below b4 (fun _ => False)) (fun _ e => e.elim)
      exact (a2.trans ch5 (fun _ e => .inl (.inr (.inr e)))).trans ch6 (fun _ e => .inl (.inr (.inl e)))
    have q5 : w5.cell? ⟨p, 9, none⟩ = some (.map (some c)) ∧ w5.cell? ⟨p, 10, none⟩ = some (.int .i64 pn) := ⟨Rw.cell R5 9, by rw [← hpend]; exact Rw.cell R5 10⟩
    have q4 : w4.cell? ⟨p, 9, none⟩ = some (.map (some c)) ∧ w4.cell? ⟨p, 10, none⟩ = some (.int .i64 pn) := ⟨Rw.cell R4 9, by rw [← hpend]; exact Rw.cell R4 10⟩
    have q6 : w6.cell? ⟨p, 9, none⟩ = some (.map (some c)) ∧ w6.cell? ⟨p, 10, none⟩ = some (.int .i64 pn) := ⟨Rw.cell R6.out 9, by rw [← hpend]; exact Rw.cell R6.out 10⟩
    have hs42 : w2.heap.size ≤ w4.heap.size := Nat.le_trans b3'.size b4.size
    have plt2 : p < w2.heap.size := Rw.lt R2.out
    have hlk3 := Ca.lookup CA3 s (by omega)
    have hlk4 := Ca.lookup CA4 s (by omega)
    have q3 : w3.cell? ⟨p, 9, none⟩ = some (.map (some c)) ∧ w3.cell? ⟨p, 10, none⟩ = some (.int .i64 pn) := ⟨Rw.cell R3 9, by rw [← hpend]; exact Rw.cell R3 10⟩
    clear ca6 gr5 gr6 ch5 ch6 R5 R4 R3 CA3 CA4 Q4 H4 b4 b3' hbne
    refine wpAnyH_ready (rs := [10, 18]) (by kernel_rfl) (by simp) ?_
    refine AllReadyH.cons rfl (fun K hK => ?_) (AllReadyH.cons rfl (fun K hK => ?_) AllReadyH.nil)
    · go_simp
      refine hK.out _ _ q3 (fun _ => ?_)
      clear hK K
      refine wpAnyH_ready (rs := [18]) (by kernel_rfl) (by simp) ?_
      refine AllReadyH.cons rfl (fun K hK => ?_) AllReadyH.nil
      go_simp
      rw [← hw4]
      clear hw4
      refine hK.out _ _ q4 (fun _ => ?_)
      clear hK K
      refine wpAnyH_ready (rs := [19]) (by kernel_rfl) (by simp) ?_
      refine AllReadyH.cons rfl (fun K hK => ?_) AllReadyH.nil
      refine step_append rfl (.tmp 43) (.tmp 51) rfl (v := V s) (u := .slice (some ⟨w3.heap.size, 0, none⟩) 1 1) (by kernel_rfl) (by kernel_rfl) ha ?_
      refine hK.out _ _ q5 (fun _ => ?_)
      clear hK K
      refine wpAnyH_ready (rs := [20]) (by kernel_rfl) (by simp) ?_
      refine AllReadyH.cons rfl (fun K hK => ?_) AllReadyH.nil
      go_simp
      refine hK.out _ _ q6 (fun _ => ?_)
      clear hK K
      refine wpAnyH_done (by kernel_rfl) (NoPanic.normal ?_) _
      have k10 := q6.2
      have f10 := Rw.fr R6.out 10
      clear q3 q4 q5 q6 ha hm hH hlk hlk3 hlk4
      go_wp2_with fail
      have R7 : Hid (Rw (w6.setCell ⟨p, 10, none⟩ (.int .i64 ((pn : Int) + 1))) p _ 86) := Rw.set R6.out 10 (.int .i64 ((pn : Int) + 1))
      refine Calls.mono (u64add_any ⟨p, 15, none⟩ (burnN x).wr 1 _ (Rw.cell R7.out 15) (Rw.fr R7.out 15)) ?_
      rintro e w9 ⟨q, hq, rfl, rfl⟩
      have HQ : Hid _ := hq
      clear hq
      have R8 : Hid _ := Rw.set R7.out 15 (.int .u64 q)
      go_wp2_with fail
      refine leaves_cons (f := 38) (args := #[.pointer (some ⟨p, 2, none⟩)]) (by simp) (by simp [go_sem]) ?_
      refine (wunlock_deferred Try.rwWLib p 2 _ _ .returning _ (Rw.cell R8.out 2) (Rw.cell R8.out 4) (Rw.cell R8.out 5) (Rw.cell R8.out 6) (Rw.fr R8.out 2) (Rw.fr R8.out 6)).mono ?_
      rintro e u' w'' ⟨rfl, rfl, rfl⟩
      have ch9 : Chg (fun i => i = p) w6 ((((w6.setCell ⟨p, 10, none⟩ (.int .i64 ((pn : Int) + 1))).setCell ⟨p, 15, none⟩ (.int .u64 q)).setCell ⟨p, 2 + 4, none⟩ (.int .i32 0)).setCell ⟨p, 2, none⟩ (.int .i32 0)) := ((((Chg.refl (fun i => i = p) w6).setCell (.inl rfl) _).setCell (.inl rfl) _).setCell (.inl rfl) _).setCell (.inl rfl) _
      have epn : ((pn + 1 : Nat) : Int) = (pn : Int) + 1 := by omega
      refine ⟨_, results_tmp rfl _ _ _, rfl, ?_, ⟨w2.heap.size, _, _, Ca.kept CA6.out (grown_of ch9) (by simpa using hcp) ?_, Rw.chg1 H6.out ch9 ?_, C2.out.size, vnew hv' (Nat.le_trans C2.out.size hs42)⟩, CH6.out.trans ch9 (fun _ e => .inl (.inl e))⟩
      · rw [epn, show inc (burnN x).wr = q from HQ.out.symm]
        exact Rw.two R8.out 6 2 (.int .i32 0) (.int .i32 0)
      · intro t b hb e
        injection e with e
        subst e
        by_cases hts : t = s
        · simp only [if_pos hts] at hb
          rcases hv' with e5 | e5
          · exact hVp s (by rw [← e5]; exact hb)
          · rw [hb] at e5
            injection e5 with e5
            omega
        · simp only [if_neg hts] at hb
          exact hVp t hb
      · omega
    · go_simp
      rw [← hw4]
      clear hw4
      refine hK.out _ _ q4 (fun _ => ?_)
      clear hK K
      refine wpAnyH_ready (rs := [10]) (by kernel_rfl) (by simp) ?_
      refine AllReadyH.cons rfl (fun K hK => ?_) AllReadyH.nil
      go_simp
      refine hK.out _ _ q4 (fun _ => ?_)
      clear hK K
      refine wpAnyH_ready (rs := [19]) (by kernel_rfl) (by simp) ?_
      refine AllReadyH.cons rfl (fun K hK => ?_) AllReadyH.nil
      refine step_append rfl (.tmp 43) (.tmp 51) rfl (v := V s) (u := .slice (some ⟨w3.heap.size, 0, none⟩) 1 1) (by kernel_rfl) (by kernel_rfl) ha ?_
      refine hK.out _ _ q5 (fun _ => ?_)
      clear hK K
      refine wpAnyH_ready (rs := [20]) (by kernel_rfl) (by simp) ?_
      refine AllReadyH.cons rfl (fun K hK => ?_) AllReadyH.nil
      go_simp
      refine hK.out _ _ q6 (fun _ => ?_)
      clear hK K
      refine wpAnyH_done (by kernel_rfl) (NoPanic.normal ?_) _
      have k10 := q6.2
      have f10 := Rw.fr R6.out 10
      clear q3 q4 q5 q6 ha hm hH hlk hlk3 hlk4
      go_wp2_with fail
      have R7 : Hid (Rw (w6.setCell ⟨p, 10, none⟩ (.int .i64 ((pn : Int) + 1))) p _ 86) := Rw.set R6.out 10 (.int .i64 ((pn : Int) + 1))
      refine Calls.mono (u64add_any ⟨p, 15, none⟩ (burnN x).wr 1 _ (Rw.cell R7.out 15) (Rw.fr R7.out 15)) ?_
      rintro e w9 ⟨q, hq, rfl, rfl⟩
      have HQ : Hid _ := hq
      clear hq
      have R8 : Hid _ := Rw.set R7.out 15 (.int .u64 q)
      go_wp2_with fail
      refine leaves_cons (f := 38) (args := #[.pointer (some ⟨p, 2, none⟩)]) (by simp) (by simp [go_sem]) ?_
      refine (wunlock_deferred Try.rwWLib p 2 _ _ .returning _ (Rw.cell R8.out 2) (Rw.cell R8.out 4) (Rw.cell R8.out 5) (Rw.cell R8.out 6) (Rw.fr R8.out 2) (Rw.fr R8.out 6)).mono ?_
      rintro e u' w'' ⟨rfl, rfl, rfl⟩
      have ch9 : Chg (fun i => i = p) w6 ((((w6.setCell ⟨p, 10, none⟩ (.int .i64 ((pn : Int) + 1))).setCell ⟨p, 15, none⟩ (.int .u64 q)).setCell ⟨p, 2 + 4, none⟩ (.int .i32 0)).setCell ⟨p, 2, none⟩ (.int .i32 0)) := ((((Chg.refl (fun i => i = p) w6).setCell (.inl rfl) _).setCell (.inl rfl) _).setCell (.inl rfl) _).setCell (.inl rfl) _
      have epn : ((pn + 1 : Nat) : Int) = (pn : Int) + 1 := by omega
      refine ⟨_, results_tmp rfl _ _ _, rfl, ?_, ⟨w2.heap.size, _, _, Ca.kept CA6.out (grown_of ch9) (by simpa using hcp) ?_, Rw.chg1 H6.out ch9 ?_, C2.out.size, vnew hv' (Nat.le_trans C2.out.size hs42)⟩, CH6.out.trans ch9 (fun _ e => .inl (.inl e))⟩
      · rw [epn, show inc (burnN x).wr = q from HQ.out.symm]
        exact Rw.two R8.out 6 2 (.int .i32 0) (.int .i32 0)
      · intro t b hb e
        injection e with e
        subst e
        by_cases hts : t = s
        · simp only [if_pos hts] at hb
          rcases hv' with e5 | e5
          · exact hVp s (by rw [← e5]; exact hb)
          · rw [hb] at e5
            injection e5 with e5
            omega
        · simp only [if_neg hts] at hb
          exact hVp t hb
      · omega
end Go.Proofs.Ytddnecfnjnipjaa
