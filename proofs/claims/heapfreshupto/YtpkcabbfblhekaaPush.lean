/-
  Push.
-/
import Derived.Test.YtpkcabbfblhekaaPop2
namespace Go.Proofs.Ytpkcabbfblhekaa
open Go.RowKit

/-- Things that lie in a list. -/
def Ths (w : World) (s : Value) (L : List (Int × Int)) : Prop :=
  (s = .slice none 0 0 ∧ L = []) ∨ (∃ a c, s = .slice (some a) 0 c ∧ L = []) ∨ ∃ b o c, s = .slice (some ⟨b, o, none⟩) L.length c ∧ ∀ i a, L[i]? = some a → w.cell? ⟨b, o + i * 2, none⟩ = some (.int .i64 a.1) ∧ w.cell? ⟨b, o + i * 2 + 1, none⟩ = some (.int .i64 a.2)
theorem Ths.form {w : World} {s : Value} {L : List (Int × Int)} (h : Ths w s L) : ∃ a c, s = .slice a L.length c := by
  rcases h with ⟨rfl, rfl⟩ | ⟨a, c, rfl, rfl⟩ | ⟨b, o, c, rfl, _⟩
  · exact ⟨none, 0, rfl⟩
  · exact ⟨_, _, rfl⟩
  · exact ⟨_, _, rfl⟩
theorem Ths.keep {w w' : World} {s : Value} {L : List (Int × Int)} {S : Nat → Prop} (h : Ths w s L) (c : Chg S w w') (hn : ∀ k, s.ownBlock = some k → ¬ S k) : Ths w' s L := by
  rcases h with h | h | ⟨b, o, cp, rfl, hc⟩
  · exact .inl h
  · exact .inr (.inl h)
  · refine .inr (.inr ⟨b, o, cp, rfl, fun i a hi => ?_⟩)
    obtain ⟨h1, h2⟩ := hc i a hi
    have hb : w'.heap[b]? = w.heap[b]? := c.block b (World.block_lt_of_cell? _ _ h1) (hn b rfl)
    exact ⟨(World.cell?_of_block (a := ⟨b, o + i * 2, none⟩) hb).trans h1, (World.cell?_of_block (a := ⟨b, o + i * 2 + 1, none⟩) hb).trans h2⟩

/-- One thing more, and all of a list: the things, and how often two were compared. -/
def push1 (od : E → E → Int) (H : List E) (came : Nat) (a : Int × Int) : List E × Nat := riseF od H.length H.length (H ++ [⟨a.1, a.2, (came : Int) + 1⟩])
def pushF (od : E → E → Int) : List (Int × Int) → List E → Nat → List E × Nat
  | [], H, _ => (H, 0)
  | a :: L, H, came => ((pushF od L (push1 od H came a).1 (came + 1)).1, (push1 od H came a).2 + (pushF od L (push1 od H came a).1 (came + 1)).2)
theorem push1_len (od : E → E → Int) (H : List E) (came : Nat) (a : Int × Int) : (push1 od H came a).1.length = H.length + 1 := by unfold push1; rw [riseF_len]; simp
theorem riseF_le (od : E → E → Int) : ∀ (f i : Nat) (H : List E), (riseF od f i H).2 ≤ i
  | 0, _, _ => Nat.zero_le _
  | f + 1, i, H => by
    unfold riseF
    split
    · exact Nat.zero_le _
    · split
      · have := riseF_le od f ((i - 1) / 2) (sw H i ((i - 1) / 2)); simp only; omega
      · simp only; omega

section
variable {ops : Array Oper} {op : Oper} {a : Act} {w : World} {K : Act → World → Prop} {Q : Exit → Act → World → Prop} {X : Prop}
theorem step_app3 {w' : World} (hgd : op.guard = none) (s x : Operand) (ho : op.op = .call { callee := .builtin .append, args := #[s, x], argTypes := #[59, 59] }) {v u v' : Value} (hs : a.eval s = v) (hx : a.eval x = u)
    (hr : (Builtin.append_ #[59, 59] op.type #[v, u]).run Try.prog w = .ok v' w') (h : K (a.put op.dst v') w') : if Region.wanted op (yielded ops a.tmps) = true then Oper.wp Try.prog op a w K Q else X := by
  have hw : Region.wanted op (yielded ops a.tmps) = true := by simp [Region.wanted, hgd]
  rw [if_pos hw]
  unfold Oper.wp execOp
  simp only [ho, resolve, invoke, builtin, Sem.run_bind, Sem.run_pure, Result.andThen_ok, List.map_toArray, List.map_cons, List.map_nil, hs, hx, hr]
  exact h
end

/-- What one round of Push needs and leaves. -/
structure Stt (w w' : World) (p : Nat) (f : Value) (vb : Option Nat) (H : List E) (came c : Nat) (S : Nat → Prop) (I : Nat → World → Prop) : Prop where
  hq : ∃ v, Hq w' p f v H came ∧ ∀ k, v.ownBlock = some k → some k = vb ∨ w.heap.size ≤ k
  ic : I c w'
  ch : Chg (fun k => k = p ∨ some k = vb ∨ S k) w w'

set_option maxRecDepth 100000 in
set_option maxHeartbeats 2000000 in
theorem push_any {w : World} {p : Nat} {f v : Value} {H : List E} {came : Nat} {S : Nat → Prop} {I : Nat → World → Prop} {od : E → E → Int} {one : Nat} (O : Od f S I od one)
    (h : Hq w p f v H came) (hp : ¬ S p) (hg : ∀ k, v.ownBlock = some k → ¬ S k) (c : Nat) {s : Value} {L : List (Int × Int)} (hL : Ths w s L) (hs : ∀ k, L ≠ [] → s.ownBlock = some k → k ≠ p ∧ some k ≠ v.ownBlock ∧ ¬ S k ∧ k < w.heap.size)
    (hn : H.length + L.length ≤ 2097152) (hcm : came + L.length ≤ 2097152) (hI : I c w) (hc : c + L.length * 2097152 < 2305843009213693952) (h1 : one ≤ 1) :
    Calls Try.prog 14 #[.pointer (some ⟨p, 0, none⟩), s] w fun e w' => e = .returned (.tuple #[]) ∧ Stt w w' p f v.ownBlock (pushF od L H came).1 (came + L.length) (c + one * (pushF od L H came).2) S I := by
  obtain ⟨sa, sc, rfl⟩ := hL.form
  have OO : Hid _ := O
  have HQ : Hid _ := h
  have HI : Hid _ := hI
  have NP : Hid _ := hp
  have NG : Hid _ := hg
  have HL : Hid _ := hL
  have HS : Hid _ := hs
  have hltp : p < w.heap.size := h.lt
  have VL : Hid _ := h.vlt
  clear O h hI hp hg hL hs
  go_enter Try.func14, Try.ntmps14
  go_wp2_with fail
  go_loopg [8] (L.length + 1) (fun gk si wr => ∃ (j k : Nat) (G : List E), si = .int .i64 j ∧ j ≤ L.length ∧ L.length < gk + j ∧ k ≤ j * 2097152 ∧ G.length = H.length + j ∧ Hid (Stt w wr p f v.ownBlock G (came + j) (c + one * k) S I ∧ pushF od L H came = ((pushF od (L.drop j) G (came + j)).1, k + (pushF od (L.drop j) G (came + j)).2)))
  case atStart => exact ⟨0, 0, H, rfl, by omega, by omega, by omega, by omega, ⟨⟨v, HQ.out, fun k hk => .inl hk.symm⟩, by rw [Nat.mul_zero]; exact HI.out, Chg.refl _ _⟩, by rw [Nat.add_zero, Nat.zero_add]; rfl⟩
  case round =>
    obtain ⟨j, k, G, rfl, hj, hgk, hk, hGl, hid⟩ := hrel
    obtain ⟨⟨⟨v0, hq0, hv0⟩, hi0, hch⟩, heq⟩ := hid.out
    clear hid
    by_cases h0 : j = L.length
    · subst h0
      have A1 : Hid (Stt w wr p f v.ownBlock G (came + L.length) (c + one * k) S I) := ⟨⟨v0, hq0, hv0⟩, hi0, hch⟩
      have A4 : Hid _ := heq
      clear hq0 hv0 hi0 hch heq HQ HI
      go_wp2_with fail
      go_end0
      have e1 : L.drop L.length = [] := List.drop_length
      rw [A4.out, e1]
      exact ⟨rfl, A1.out⟩
    · have hjl : j < L.length := by omega
      have hjl' : (j : Int) < (L.length : Int) := by omega
      obtain ⟨⟨ak, an⟩, ha⟩ : ∃ a, L[j]? = some a := ⟨L[j], by simp [hjl]⟩
      have hdr : L.drop j = (ak, an) :: L.drop (j + 1) := by rw [List.drop_eq_getElem_cons hjl]; congr 1; simpa [hjl] using ha
      obtain ⟨b, o, hsa, e0, e1⟩ : ∃ b o, sa = some ⟨b, o, none⟩ ∧ wr.cell? ⟨b, o + j * 2, none⟩ = some (.int .i64 ak) ∧ wr.cell? ⟨b, o + j * 2 + 1, none⟩ = some (.int .i64 an) := by
        have hk := Ths.keep HL.out hch (fun k hk e => by
          obtain ⟨h1, h2, h3, _⟩ := HS.out k (fun e => by rw [e] at hjl; simp at hjl) hk
          rcases e with e | e | e
          · exact h1 e
          · exact h2 e
          · exact h3 e)
        rcases hk with ⟨h9, h8⟩ | ⟨_, _, _, h8⟩ | ⟨b, o, cp, h9, hcel⟩
        · rw [h8] at hjl; simp at hjl
        · rw [h8] at hjl; simp at hjl
        · injection h9 with h9 _ _
          exact ⟨b, o, h9, hcel j (ak, an) ha⟩
      subst hsa
      obtain ⟨va, vc, rfl⟩ := hq0.form
      have hGn : G.length ≤ 2097151 := by omega
      have hkk : one * k ≤ k := by
        rcases Nat.eq_zero_or_pos one with h | h
        · subst h; omega
        · have : one = 1 := by omega
          subst this; omega
      have hlp : p < wr.heap.size := hq0.lt
      have A1 : Hid _ := hq0
      have A2 : Hid _ := hv0
      have A3 : Hid _ := hi0
      have A5 : Hid _ := hch
      have A4 : Hid _ := heq
      have A6 : Hid _ := hdr
      have A7 : Hid _ := hGl
      clear hq0 hv0 hi0 hch heq HQ ha hdr hGl
      go_upto_region 3 with fail
      obtain ⟨w1, hw1⟩ : ∃ w1, w1 = wr.alloc (.cells #[.int .i64 ak, .int .i64 an] 26) := ⟨_, rfl⟩
      rw [← hw1]
      have hc1 : Chg (fun _ => False) wr w1 := by rw [hw1]; exact (Chg.refl _ _).alloc _
      have hB1 : Blk w1 wr.heap.size [.int .i64 ak, .int .i64 an] 26 := by rw [hw1]; exact Blk.made wr [.int .i64 ak, .int .i64 an] 26
      have hq1 := Hq.keep A1.out hc1 (fun h => h) (fun _ _ h => h)
      have c1 : w1.cell? ⟨p, 1, none⟩ = some (.slice va G.length vc) := hq1.blk.cell 1
      have c2 : w1.cell? ⟨wr.heap.size, 0, none⟩ = some (.int .i64 ak) := hB1.cell 0
      have c3 : w1.cell? ⟨wr.heap.size, 1, none⟩ = some (.int .i64 an) := hB1.cell 1
      have NB : Hid _ := numbered_any (w := w1.drew) hq1.blk.drew (by omega) ak an
      have I1 : Hid (I (c + one * k) w1.drew) := OO.out.keep A3.out hc1.drew (fun _ h => h.elim)
      have hvne : (Value.slice va G.length vc).ownBlock ≠ some p := hq1.ne
      have Q1 : Hid _ := hq1
      have B1 : Hid _ := hB1
      have C1 : Hid _ := hc1
      clear hq1 hB1 hc1 hw1
      refine wp_region_held_drew (S := fun w' => w'.cell? ⟨wr.heap.size, 0, none⟩ = some (.int .i64 ak) ∧ w'.cell? ⟨wr.heap.size, 1, none⟩ = some (.int .i64 an)) (by kernel_rfl) ⟨c2, c3⟩ (fun hH => ?_)
      refine wpAnyH_take (i := 0) (v := .pointer (some ⟨p, 0, none⟩)) rfl (by kernel_rfl) (by kernel_rfl) (by kernel_rfl) (fun _ _ _ h => h) (Or.inl ⟨by rfl, fun w' hw' => by go_simp⟩) hH ?_
      refine wpAnyH_take (i := 1) (v := .pointer (some ⟨p, 0, none⟩)) rfl (by kernel_rfl) (by kernel_rfl) (by kernel_rfl) (fun _ _ _ h => h) (Or.inl ⟨by rfl, fun w' hw' => by go_simp⟩) hH ?_
      refine wpAnyH_take (i := 2) (v := .pointer (some ⟨p, 0, none⟩)) rfl (by kernel_rfl) (by kernel_rfl) (by kernel_rfl) (fun _ _ _ h => h) (Or.inl ⟨by rfl, fun w' hw' => by go_simp⟩) hH ?_
      refine wpAnyH_take (i := 3) (v := .pointer (some ⟨p, 1, none⟩)) rfl (by kernel_rfl) (by kernel_rfl) (by kernel_rfl) (fun _ _ _ h => h) (Or.inl ⟨by rfl, fun w' hw' => by go_simp⟩) hH ?_
      refine wpAnyH_take (i := 5) (v := .pointer (some ⟨p, 0, none⟩)) rfl (by kernel_rfl) (by kernel_rfl) (by kernel_rfl) (fun _ _ _ h => h) (Or.inl ⟨by rfl, fun w' hw' => by go_simp⟩) hH ?_
      refine wpAnyH_take (i := 6) (v := .agg #[.int .i64 ak, .int .i64 an]) rfl (by kernel_rfl) (by kernel_rfl) (by kernel_rfl) (fun _ _ _ h => h) (Or.inl ⟨by rfl, fun w' hw' => by have q1 := hw'.1; have q2 := hw'.2; go_simp⟩) hH ?_
      refine wpAnyH_ready (rs := [4, 7]) (by kernel_rfl) (by simp) ?_
      refine AllReadyH.cons rfl (fun K hK => ?_) (AllReadyH.cons rfl (fun K hK => ?_) AllReadyH.nil)
      · go_simp
        refine hK.out _ _ hH (fun _ => ?_)
        clear hK K
        refine wpAnyH_ready (rs := [7]) (by kernel_rfl) (by simp) ?_
        refine AllReadyH.cons rfl (fun K hK => ?_) AllReadyH.nil
        go_simp
        refine Calls.mono NB.out ?_
        rintro e w2 ⟨rfl, b2, ch2⟩
        have hch2 : Chg (fun x => x = p) w1 w2 := ((Chg.refl _ w1).drew).trans ch2 (fun _ h => .inl h)
        have hB2 := Blk.keep B1.out hch2 (fun e => by omega)
        obtain ⟨x, hx⟩ : ∃ x : E, x = ⟨ak, an, ((came + j : Nat) : Int) + 1⟩ := ⟨_, rfl⟩
        rw [← hx]
        have HX : Hid _ := hx
        clear hx
        have own1 := Q1.out.own
        have own2 : w2.ownsRow 0 63 3 (.slice va G.length vc) G.length (rowE G) := World.ownsRow.kept own1 (row := some p) ⟨hch2.os, hch2.tape, hch2.output, hch2.size, fun k hk hn => hch2.block k hk (fun e => hn (by rw [e]))⟩ (.inr hvne)
        have I2 : Hid (I (c + one * k) w2) := OO.out.keep I1.out ch2 (fun k hk hs => NP.out (hk ▸ hs))
        refine hK.out _ _ ⟨hB2.cell 0, hB2.cell 1⟩ (fun h2 => ?_)
        clear hK K hH
        obtain ⟨w3, hw3⟩ : ∃ w3, w3 = w2.alloc (.cells #[.int .i64 x.k, .int .i64 x.n, .int .i64 x.num] 63) := ⟨_, rfl⟩
        have hc3 : Chg (fun _ => False) w2 w3 := by rw [hw3]; exact (Chg.refl _ _).alloc _
        have hX3 : Blk w3 w2.heap.size x.cells 63 := by rw [hw3]; exact Blk.made w2 x.cells 63
        have own3 : w3.ownsRow 0 63 3 (.slice va G.length vc) G.length (rowE G) := by rw [hw3]; exact own2.alloc _
        have b3 := Blk.keep b2 hc3 (fun h => h)
        have hB3 := Blk.keep hB2 hc3 (fun h => h)
        obtain ⟨v4, w4, hr4, own4, hc4, hv4⟩ := run_app3 (w := w3) (v := .slice va G.length vc) (H := G) (G := [x]) 59 own3 (b := w2.heap.size) (o := 0) (m := 1) (c := 1) rfl (fun i u hu => by rw [Nat.zero_add, hX3.cell i]; simpa [rowE] using hu) (by omega)
        have b4 := Blk.keep b3 hc4 (fun e => hvne e.symm)
        have hgB : some wr.heap.size ≠ (Value.slice va G.length vc).ownBlock := fun e => by have := A1.out.vlt _ e.symm; omega
        have hB4 := Blk.keep hB3 hc4 hgB
        have q3 : w3.cell? ⟨wr.heap.size, 0, none⟩ = some (.int .i64 ak) ∧ w3.cell? ⟨wr.heap.size, 1, none⟩ = some (.int .i64 an) := ⟨hB3.cell 0, hB3.cell 1⟩
        have q4 : w4.cell? ⟨wr.heap.size, 0, none⟩ = some (.int .i64 ak) ∧ w4.cell? ⟨wr.heap.size, 1, none⟩ = some (.int .i64 an) := ⟨hB4.cell 0, hB4.cell 1⟩
        obtain ⟨va4, vc4, rfl⟩ := own_form own4
        have W3 : Hid _ := hw3
        clear hw3
        unfold E.val
        refine wpAnyH_ready (rs := [8]) (by kernel_rfl) (by simp) ?_
        refine AllReadyH.cons rfl (fun K hK => ?_) AllReadyH.nil
        go_simp
        rw [← W3.out]
        refine hK.out _ _ q3 (fun _ => ?_)
        clear hK K
        refine wpAnyH_ready (rs := [9]) (by kernel_rfl) (by simp) ?_
        refine AllReadyH.cons rfl (fun K hK => ?_) AllReadyH.nil
        refine step_app3 rfl (.tmp 16) (.tmp 20) rfl (by kernel_rfl) (by kernel_rfl) hr4 ?_
        refine hK.out _ _ q4 (fun _ => ?_)
        clear hK K
        have z4 := b4.fr 1
        have k41 : w4.cell? ⟨p, 1, none⟩ = some (.slice va G.length vc) := b4.cell 1
        refine wpAnyH_take (i := 10) (v := .pointer (some ⟨p, 0, none⟩)) rfl (by kernel_rfl) (by kernel_rfl) (by kernel_rfl) (fun _ _ _ h => h) (Or.inl ⟨by rfl, fun w' hw' => by go_simp⟩) q4 ?_
        refine wpAnyH_take (i := 11) (v := .pointer (some ⟨p, 1, none⟩)) rfl (by kernel_rfl) (by kernel_rfl) (by kernel_rfl) (fun _ _ _ h => h) (Or.inl ⟨by rfl, fun w' hw' => by go_simp⟩) q4 ?_
        refine wpAnyH_ready (rs := [12]) (by kernel_rfl) (by simp) ?_
        refine AllReadyH.cons rfl (fun K hK => ?_) AllReadyH.nil
        go_simp
        obtain ⟨w5, hw5⟩ : ∃ w5, w5 = w4.setCell ⟨p, 1, none⟩ (.slice va4 (G.length + 1) vc4) := ⟨_, rfl⟩
        rw [← hw5]
        have hc5 : Chg (fun k => k = p) w4 w5 := by rw [hw5]; exact (Chg.refl (fun k => k = p) _).setCell (p := ⟨p, 1, none⟩) (.inl rfl) _
        have hB5 := Blk.keep hB4 hc5 (fun e => by omega)
        refine hK.out _ _ ⟨hB5.cell 0, hB5.cell 1⟩ (fun _ => ?_)
        clear hK K
        refine wpAnyH_done (by kernel_rfl) ?_ _
        have hG1 : (G ++ [x]).length = G.length + 1 := by simp
        have hne4 : (Value.slice va4 (G.length + 1) vc4).ownBlock ≠ some p := fun e => by
          rw [hG1] at hv4
          rcases hv4 with h9 | h9
          · exact hvne (h9.symm.trans e)
          · rw [h9] at e
            have h8 : w3.heap.size = p := by simpa using e
            have := b3.lt
            omega
        have hq5 : Hq w5 p f (.slice va4 (G.length + 1) vc4) (G ++ [x]) (came + (j + 1)) := by
          refine ⟨?_, ?_, hne4⟩
          · rw [hw5]
            have := b4.set 1 (.slice va4 (G.length + 1) vc4)
            rw [show came + (j + 1) = came + j + 1 by omega]
            exact this
          · rw [hG1] at own4 ⊢
            exact World.ownsRow.kept own4 (row := some p) ⟨hc5.os, hc5.tape, hc5.output, hc5.size, fun k hk hn => hc5.block k hk (fun e => hn (by rw [e]))⟩ (.inr hne4)
        have hcw : Chg (fun k => k = p ∨ some k = v.ownBlock ∨ S k) w w5 := by
          have a1 := A5.out.trans C1.out (fun _ h => h.elim)
          have a2 := a1.trans hch2 (fun _ h => .inl (.inl h))
          have a3 := a2.trans hc3 (fun _ h => h.elim)
          have a4 := a3.trans hc4 (fun i hi => by
            rcases A2.out i hi.symm with h9 | h9
            · exact .inl (.inr (.inl h9))
            · exact .inr h9)
          exact a4.trans hc5 (fun _ h => .inl (.inl h))
        have hvS : ∀ k, (Value.slice va G.length vc).ownBlock = some k → ¬ S k := fun k hk hs => by
          rcases A2.out k hk with h9 | h9
          · exact NG.out k h9.symm hs
          · have := OO.out.low HI.out hs
            omega
        have I5 : I (c + one * k) w5 := OO.out.keep (OO.out.keep (OO.out.keep I2.out hc3 (fun _ h => h.elim)) hc4 (fun i hi hs => hvS i hi.symm hs)) hc5 (fun i hi hs => NP.out (hi ▸ hs))
        have hv5 : ∀ k, (Value.slice va4 (G.length + 1) vc4).ownBlock = some k → some k = v.ownBlock ∨ w.heap.size ≤ k := fun k hk => by
          rw [hG1] at hv4
          rcases hv4 with h9 | h9
          · rw [h9] at hk; exact A2.out k hk
          · rw [h9] at hk
            have h8 : w3.heap.size = k := by simpa using hk
            have h7 := A5.out.size
            have h6 := C1.out.size
            have h5 := hch2.size
            have h4 := hc3.size
            exact .inr (by omega)
        rcases hq5.cases with ⟨h9, _⟩ | ⟨g, cap, sp, h9, hp5⟩
        · exact absurd h9 (by intro e; injection e with _ e _; omega)
        injection h9 with e1 _ e3
        rw [hG1] at hp5
        subst e1 e3
        obtain ⟨N, hN⟩ : ∃ N, N = G.length + 1 := ⟨_, rfl⟩
        have k5 : w5.cell? ⟨p, 1, none⟩ = some (.slice (some ⟨g, 0, none⟩) N vc4) := by rw [hN]; exact hp5.blk.cell 1
        have hN1 : (N : Int) - 1 = (G.length : Int) := by omega
        clear hN
        have hSg : ¬ S g := fun hs => by
          rcases hv5 g rfl with h9 | h9
          · exact NG.out g h9.symm hs
          · have := OO.out.low HI.out hs
            omega
        have RI : Hid _ := rise_any OO.out hp5 NP.out hSg G.length (c + one * k) (by omega) (by omega) I5 (by omega) h1
        have D1 : Hid _ := hv5
        have D2 : Hid _ := hcw
        clear q3 q4 own1 own2 own3 own4 b2 b3 b4 hB2 hB3 hB4 hB5 hX3 hr4 hc3 hc4 hc5 hv4 hch2 ch2 z4 k41 hw5 hq5 hcw I5 hv5 hp5 h2
        go_wp2_with (go_at_call 33; refine Calls.mono RI.out ?_; rintro e w6 ⟨rfl, p6, i6, ch6⟩; have P6 : Hid _ := p6; have I6 : Hid _ := i6; have C6 : Hid _ := ch6; clear p6 i6 ch6)
        go_roundg (L.length - j)
        case measure => omega
        case rel =>
          have hp1 : push1 od G (came + j) (ak, an) = riseF od G.length G.length (G ++ [x]) := by unfold push1; rw [HX.out]
          have hle := riseF_le od G.length G.length (G ++ [x])
          refine ⟨j + 1, k + (riseF od G.length G.length (G ++ [x])).2, (riseF od G.length G.length (G ++ [x])).1, by go_num, by omega, by omega, by omega, by rw [riseF_len, hG1, A7.out]; omega, ⟨⟨_, P6.out.hq, D1.out⟩, ?_, D2.out.trans C6.out (fun i hi => ?_)⟩, ?_⟩
          · have := I6.out
            rwa [Nat.add_assoc, ← Nat.mul_add] at this
          · rcases hi with hi | hi
            · rcases D1.out i (by rw [hi]; rfl) with h9 | h9
              · exact .inl (.inr (.inl h9))
              · exact .inr h9
            · exact .inl (.inr (.inr hi))
          · rw [A4.out, A6.out]
            simp only [pushF]
            rw [hp1, Nat.add_assoc, Nat.add_assoc]
      · go_simp
        refine Calls.mono NB.out ?_
        rintro e w2 ⟨rfl, b2, ch2⟩
        have hch2 : Chg (fun x => x = p) w1 w2 := ((Chg.refl _ w1).drew).trans ch2 (fun _ h => .inl h)
        have hB2 := Blk.keep B1.out hch2 (fun e => by omega)
        obtain ⟨x, hx⟩ : ∃ x : E, x = ⟨ak, an, ((came + j : Nat) : Int) + 1⟩ := ⟨_, rfl⟩
        rw [← hx]
        have HX : Hid _ := hx
        clear hx
        have own1 := Q1.out.own
        have own2 : w2.ownsRow 0 63 3 (.slice va G.length vc) G.length (rowE G) := World.ownsRow.kept own1 (row := some p) ⟨hch2.os, hch2.tape, hch2.output, hch2.size, fun k hk hn => hch2.block k hk (fun e => hn (by rw [e]))⟩ (.inr hvne)
        have I2 : Hid (I (c + one * k) w2) := OO.out.keep I1.out ch2 (fun k hk hs => NP.out (hk ▸ hs))
        refine hK.out _ _ ⟨hB2.cell 0, hB2.cell 1⟩ (fun h2 => ?_)
        clear hK K hH
        obtain ⟨w3, hw3⟩ : ∃ w3, w3 = w2.alloc (.cells #[.int .i64 x.k, .int .i64 x.n, .int .i64 x.num] 63) := ⟨_, rfl⟩
        have hc3 : Chg (fun _ => False) w2 w3 := by rw [hw3]; exact (Chg.refl _ _).alloc _
        have hX3 : Blk w3 w2.heap.size x.cells 63 := by rw [hw3]; exact Blk.made w2 x.cells 63
        have own3 : w3.ownsRow 0 63 3 (.slice va G.length vc) G.length (rowE G) := by rw [hw3]; exact own2.alloc _
        have b3 := Blk.keep b2 hc3 (fun h => h)
        have hB3 := Blk.keep hB2 hc3 (fun h => h)
        obtain ⟨v4, w4, hr4, own4, hc4, hv4⟩ := run_app3 (w := w3) (v := .slice va G.length vc) (H := G) (G := [x]) 59 own3 (b := w2.heap.size) (o := 0) (m := 1) (c := 1) rfl (fun i u hu => by rw [Nat.zero_add, hX3.cell i]; simpa [rowE] using hu) (by omega)
        have b4 := Blk.keep b3 hc4 (fun e => hvne e.symm)
        have hgB : some wr.heap.size ≠ (Value.slice va G.length vc).ownBlock := fun e => by have := A1.out.vlt _ e.symm; omega
        have hB4 := Blk.keep hB3 hc4 hgB
        have q3 : w3.cell? ⟨wr.heap.size, 0, none⟩ = some (.int .i64 ak) ∧ w3.cell? ⟨wr.heap.size, 1, none⟩ = some (.int .i64 an) := ⟨hB3.cell 0, hB3.cell 1⟩
        have q4 : w4.cell? ⟨wr.heap.size, 0, none⟩ = some (.int .i64 ak) ∧ w4.cell? ⟨wr.heap.size, 1, none⟩ = some (.int .i64 an) := ⟨hB4.cell 0, hB4.cell 1⟩
        obtain ⟨va4, vc4, rfl⟩ := own_form own4
        have W3 : Hid _ := hw3
        clear hw3
        have k21 : w2.cell? ⟨p, 1, none⟩ = some (.slice va G.length vc) := b2.cell 1
        unfold E.val
        refine wpAnyH_ready (rs := [4, 8]) (by kernel_rfl) (by simp) ?_
        refine AllReadyH.cons rfl (fun K hK => ?_) (AllReadyH.cons rfl (fun K hK => ?_) AllReadyH.nil)
        · go_simp
          refine hK.out _ _ h2 (fun _ => ?_)
          clear hK K k21
          refine wpAnyH_ready (rs := [8]) (by kernel_rfl) (by simp) ?_
          refine AllReadyH.cons rfl (fun K hK => ?_) AllReadyH.nil
          go_simp
          rw [← W3.out]
          refine hK.out _ _ q3 (fun _ => ?_)
          clear hK K
          refine wpAnyH_ready (rs := [9]) (by kernel_rfl) (by simp) ?_
          refine AllReadyH.cons rfl (fun K hK => ?_) AllReadyH.nil
          refine step_app3 rfl (.tmp 16) (.tmp 20) rfl (by kernel_rfl) (by kernel_rfl) hr4 ?_
          refine hK.out _ _ q4 (fun _ => ?_)
          clear hK K
          have z4 := b4.fr 1
          have k41 : w4.cell? ⟨p, 1, none⟩ = some (.slice va G.length vc) := b4.cell 1
          refine wpAnyH_take (i := 10) (v := .pointer (some ⟨p, 0, none⟩)) rfl (by kernel_rfl) (by kernel_rfl) (by kernel_rfl) (fun _ _ _ h => h) (Or.inl ⟨by rfl, fun w' hw' => by go_simp⟩) q4 ?_
          refine wpAnyH_take (i := 11) (v := .pointer (some ⟨p, 1, none⟩)) rfl (by kernel_rfl) (by kernel_rfl) (by kernel_rfl) (fun _ _ _ h => h) (Or.inl ⟨by rfl, fun w' hw' => by go_simp⟩) q4 ?_
          refine wpAnyH_ready (rs := [12]) (by kernel_rfl) (by simp) ?_
          refine AllReadyH.cons rfl (fun K hK => ?_) AllReadyH.nil
          go_simp
          obtain ⟨w5, hw5⟩ : ∃ w5, w5 = w4.setCell ⟨p, 1, none⟩ (.slice va4 (G.length + 1) vc4) := ⟨_, rfl⟩
          rw [← hw5]
          have hc5 : Chg (fun k => k = p) w4 w5 := by rw [hw5]; exact (Chg.refl (fun k => k = p) _).setCell (p := ⟨p, 1, none⟩) (.inl rfl) _
          have hB5 := Blk.keep hB4 hc5 (fun e => by omega)
          refine hK.out _ _ ⟨hB5.cell 0, hB5.cell 1⟩ (fun _ => ?_)
          clear hK K
          refine wpAnyH_done (by kernel_rfl) ?_ _
          have hG1 : (G ++ [x]).length = G.length + 1 := by simp
          have hne4 : (Value.slice va4 (G.length + 1) vc4).ownBlock ≠ some p := fun e => by
            rw [hG1] at hv4
            rcases hv4 with h9 | h9
            · exact hvne (h9.symm.trans e)
            · rw [h9] at e
              have h8 : w3.heap.size = p := by simpa using e
              have := b3.lt
              omega
          have hq5 : Hq w5 p f (.slice va4 (G.length + 1) vc4) (G ++ [x]) (came + (j + 1)) := by
            refine ⟨?_, ?_, hne4⟩
            · rw [hw5]
              have := b4.set 1 (.slice va4 (G.length + 1) vc4)
              rw [show came + (j + 1) = came + j + 1 by omega]
              exact this
            · rw [hG1] at own4 ⊢
              exact World.ownsRow.kept own4 (row := some p) ⟨hc5.os, hc5.tape, hc5.output, hc5.size, fun k hk hn => hc5.block k hk (fun e => hn (by rw [e]))⟩ (.inr hne4)
          have hcw : Chg (fun k => k = p ∨ some k = v.ownBlock ∨ S k) w w5 := by
            have a1 := A5.out.trans C1.out (fun _ h => h.elim)
            have a2 := a1.trans hch2 (fun _ h => .inl (.inl h))
            have a3 := a2.trans hc3 (fun _ h => h.elim)
            have a4 := a3.trans hc4 (fun i hi => by
              rcases A2.out i hi.symm with h9 | h9
              · exact .inl (.inr (.inl h9))
              · exact .inr h9)
            exact a4.trans hc5 (fun _ h => .inl (.inl h))
          have hvS : ∀ k, (Value.slice va G.length vc).ownBlock = some k → ¬ S k := fun k hk hs => by
            rcases A2.out k hk with h9 | h9
            · exact NG.out k h9.symm hs
            · have := OO.out.low HI.out hs
              omega
          have I5 : I (c + one * k) w5 := OO.out.keep (OO.out.keep (OO.out.keep I2.out hc3 (fun _ h => h.elim)) hc4 (fun i hi hs => hvS i hi.symm hs)) hc5 (fun i hi hs => NP.out (hi ▸ hs))
          have hv5 : ∀ k, (Value.slice va4 (G.length + 1) vc4).ownBlock = some k → some k = v.ownBlock ∨ w.heap.size ≤ k := fun k hk => by
            rw [hG1] at hv4
            rcases hv4 with h9 | h9
            · rw [h9] at hk; exact A2.out k hk
            · rw [h9] at hk
              have h8 : w3.heap.size = k := by simpa using hk
              have h7 := A5.out.size
              have h6 := C1.out.size
              have h5 := hch2.size
              have h4 := hc3.size
              exact .inr (by omega)
          rcases hq5.cases with ⟨h9, _⟩ | ⟨g, cap, sp, h9, hp5⟩
          · exact absurd h9 (by intro e; injection e with _ e _; omega)
          injection h9 with e1 _ e3
          rw [hG1] at hp5
          subst e1 e3
          obtain ⟨N, hN⟩ : ∃ N, N = G.length + 1 := ⟨_, rfl⟩
          have k5 : w5.cell? ⟨p, 1, none⟩ = some (.slice (some ⟨g, 0, none⟩) N vc4) := by rw [hN]; exact hp5.blk.cell 1
          have hN1 : (N : Int) - 1 = (G.length : Int) := by omega
          clear hN
          have hSg : ¬ S g := fun hs => by
            rcases hv5 g rfl with h9 | h9
            · exact NG.out g h9.symm hs
            · have := OO.out.low HI.out hs
              omega
          have RI : Hid _ := rise_any OO.out hp5 NP.out hSg G.length (c + one * k) (by omega) (by omega) I5 (by omega) h1
          have D1 : Hid _ := hv5
          have D2 : Hid _ := hcw
          clear q3 q4 own1 own2 own3 own4 b2 b3 b4 hB2 hB3 hB4 hB5 hX3 hr4 hc3 hc4 hc5 hv4 hch2 ch2 z4 k41 hw5 hq5 hcw I5 hv5 hp5 h2
          go_wp2_with (go_at_call 33; refine Calls.mono RI.out ?_; rintro e w6 ⟨rfl, p6, i6, ch6⟩; have P6 : Hid _ := p6; have I6 : Hid _ := i6; have C6 : Hid _ := ch6; clear p6 i6 ch6)
          go_roundg (L.length - j)
          case measure => omega
          case rel =>
            have hp1 : push1 od G (came + j) (ak, an) = riseF od G.length G.length (G ++ [x]) := by unfold push1; rw [HX.out]
            have hle := riseF_le od G.length G.length (G ++ [x])
            refine ⟨j + 1, k + (riseF od G.length G.length (G ++ [x])).2, (riseF od G.length G.length (G ++ [x])).1, by go_num, by omega, by omega, by omega, by rw [riseF_len, hG1, A7.out]; omega, ⟨⟨_, P6.out.hq, D1.out⟩, ?_, D2.out.trans C6.out (fun i hi => ?_)⟩, ?_⟩
            · have := I6.out
              rwa [Nat.add_assoc, ← Nat.mul_add] at this
            · rcases hi with hi | hi
              · rcases D1.out i (by rw [hi]; rfl) with h9 | h9
                · exact .inl (.inr (.inl h9))
                · exact .inr h9
              · exact .inl (.inr (.inr hi))
            · rw [A4.out, A6.out]
              simp only [pushF]
              rw [hp1, Nat.add_assoc, Nat.add_assoc]

        · go_simp
          rw [← W3.out]
          refine hK.out _ _ q3 (fun _ => ?_)
          clear hK K k21
          have k31 : w3.cell? ⟨p, 1, none⟩ = some (.slice va G.length vc) := b3.cell 1
          refine wpAnyH_ready (rs := [4]) (by kernel_rfl) (by simp) ?_
          refine AllReadyH.cons rfl (fun K hK => ?_) AllReadyH.nil
          go_simp
          refine hK.out _ _ q3 (fun _ => ?_)
          clear hK K k31
          refine wpAnyH_ready (rs := [9]) (by kernel_rfl) (by simp) ?_
          refine AllReadyH.cons rfl (fun K hK => ?_) AllReadyH.nil
          refine step_app3 rfl (.tmp 16) (.tmp 20) rfl (by kernel_rfl) (by kernel_rfl) hr4 ?_
          refine hK.out _ _ q4 (fun _ => ?_)
          clear hK K
          have z4 := b4.fr 1
          have k41 : w4.cell? ⟨p, 1, none⟩ = some (.slice va G.length vc) := b4.cell 1
          refine wpAnyH_take (i := 10) (v := .pointer (some ⟨p, 0, none⟩)) rfl (by kernel_rfl) (by kernel_rfl) (by kernel_rfl) (fun _ _ _ h => h) (Or.inl ⟨by rfl, fun w' hw' => by go_simp⟩) q4 ?_
          refine wpAnyH_take (i := 11) (v := .pointer (some ⟨p, 1, none⟩)) rfl (by kernel_rfl) (by kernel_rfl) (by kernel_rfl) (fun _ _ _ h => h) (Or.inl ⟨by rfl, fun w' hw' => by go_simp⟩) q4 ?_
          refine wpAnyH_ready (rs := [12]) (by kernel_rfl) (by simp) ?_
          refine AllReadyH.cons rfl (fun K hK => ?_) AllReadyH.nil
          go_simp
          obtain ⟨w5, hw5⟩ : ∃ w5, w5 = w4.setCell ⟨p, 1, none⟩ (.slice va4 (G.length + 1) vc4) := ⟨_, rfl⟩
          rw [← hw5]
          have hc5 : Chg (fun k => k = p) w4 w5 := by rw [hw5]; exact (Chg.refl (fun k => k = p) _).setCell (p := ⟨p, 1, none⟩) (.inl rfl) _
          have hB5 := Blk.keep hB4 hc5 (fun e => by omega)
          refine hK.out _ _ ⟨hB5.cell 0, hB5.cell 1⟩ (fun _ => ?_)
          clear hK K
          refine wpAnyH_done (by kernel_rfl) ?_ _
          have hG1 : (G ++ [x]).length = G.length + 1 := by simp
          have hne4 : (Value.slice va4 (G.length + 1) vc4).ownBlock ≠ some p := fun e => by
            rw [hG1] at hv4
            rcases hv4 with h9 | h9
            · exact hvne (h9.symm.trans e)
            · rw [h9] at e
              have h8 : w3.heap.size = p := by simpa using e
              have := b3.lt
              omega
          have hq5 : Hq w5 p f (.slice va4 (G.length + 1) vc4) (G ++ [x]) (came + (j + 1)) := by
            refine ⟨?_, ?_, hne4⟩
            · rw [hw5]
              have := b4.set 1 (.slice va4 (G.length + 1) vc4)
              rw [show came + (j + 1) = came + j + 1 by omega]
              exact this
            · rw [hG1] at own4 ⊢
              exact World.ownsRow.kept own4 (row := some p) ⟨hc5.os, hc5.tape, hc5.output, hc5.size, fun k hk hn => hc5.block k hk (fun e => hn (by rw [e]))⟩ (.inr hne4)
          have hcw : Chg (fun k => k = p ∨ some k = v.ownBlock ∨ S k) w w5 := by
            have a1 := A5.out.trans C1.out (fun _ h => h.elim)
            have a2 := a1.trans hch2 (fun _ h => .inl (.inl h))
            have a3 := a2.trans hc3 (fun _ h => h.elim)
            have a4 := a3.trans hc4 (fun i hi => by
              rcases A2.out i hi.symm with h9 | h9
              · exact .inl (.inr (.inl h9))
              · exact .inr h9)
            exact a4.trans hc5 (fun _ h => .inl (.inl h))
          have hvS : ∀ k, (Value.slice va G.length vc).ownBlock = some k → ¬ S k := fun k hk hs => by
            rcases A2.out k hk with h9 | h9
            · exact NG.out k h9.symm hs
            · have := OO.out.low HI.out hs
              omega
          have I5 : I (c + one * k) w5 := OO.out.keep (OO.out.keep (OO.out.keep I2.out hc3 (fun _ h => h.elim)) hc4 (fun i hi hs => hvS i hi.symm hs)) hc5 (fun i hi hs => NP.out (hi ▸ hs))
          have hv5 : ∀ k, (Value.slice va4 (G.length + 1) vc4).ownBlock = some k → some k = v.ownBlock ∨ w.heap.size ≤ k := fun k hk => by
            rw [hG1] at hv4
            rcases hv4 with h9 | h9
            · rw [h9] at hk; exact A2.out k hk
            · rw [h9] at hk
              have h8 : w3.heap.size = k := by simpa using hk
              have h7 := A5.out.size
              have h6 := C1.out.size
              have h5 := hch2.size
              have h4 := hc3.size
              exact .inr (by omega)
          rcases hq5.cases with ⟨h9, _⟩ | ⟨g, cap, sp, h9, hp5⟩
          · exact absurd h9 (by intro e; injection e with _ e _; omega)
          injection h9 with e1 _ e3
          rw [hG1] at hp5
          subst e1 e3
          obtain ⟨N, hN⟩ : ∃ N, N = G.length + 1 := ⟨_, rfl⟩
          have k5 : w5.cell? ⟨p, 1, none⟩ = some (.slice (some ⟨g, 0, none⟩) N vc4) := by rw [hN]; exact hp5.blk.cell 1
          have hN1 : (N : Int) - 1 = (G.length : Int) := by omega
          clear hN
          have hSg : ¬ S g := fun hs => by
            rcases hv5 g rfl with h9 | h9
            · exact NG.out g h9.symm hs
            · have := OO.out.low HI.out hs
              omega
          have RI : Hid _ := rise_any OO.out hp5 NP.out hSg G.length (c + one * k) (by omega) (by omega) I5 (by omega) h1
          have D1 : Hid _ := hv5
          have D2 : Hid _ := hcw
          clear q3 q4 own1 own2 own3 own4 b2 b3 b4 hB2 hB3 hB4 hB5 hX3 hr4 hc3 hc4 hc5 hv4 hch2 ch2 z4 k41 hw5 hq5 hcw I5 hv5 hp5 h2
          go_wp2_with (go_at_call 33; refine Calls.mono RI.out ?_; rintro e w6 ⟨rfl, p6, i6, ch6⟩; have P6 : Hid _ := p6; have I6 : Hid _ := i6; have C6 : Hid _ := ch6; clear p6 i6 ch6)
          go_roundg (L.length - j)
          case measure => omega
          case rel =>
            have hp1 : push1 od G (came + j) (ak, an) = riseF od G.length G.length (G ++ [x]) := by unfold push1; rw [HX.out]
            have hle := riseF_le od G.length G.length (G ++ [x])
            refine ⟨j + 1, k + (riseF od G.length G.length (G ++ [x])).2, (riseF od G.length G.length (G ++ [x])).1, by go_num, by omega, by omega, by omega, by rw [riseF_len, hG1, A7.out]; omega, ⟨⟨_, P6.out.hq, D1.out⟩, ?_, D2.out.trans C6.out (fun i hi => ?_)⟩, ?_⟩
            · have := I6.out
              rwa [Nat.add_assoc, ← Nat.mul_add] at this
            · rcases hi with hi | hi
              · rcases D1.out i (by rw [hi]; rfl) with h9 | h9
                · exact .inl (.inr (.inl h9))
                · exact .inr h9
              · exact .inl (.inr (.inr hi))
            · rw [A4.out, A6.out]
              simp only [pushF]
              rw [hp1, Nat.add_assoc, Nat.add_assoc]

end Go.Proofs.Ytpkcabbfblhekaa
