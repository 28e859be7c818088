/-
  Things compared with themselves; Without, took, same.
-/
import Derived.Test.YtpkcabbfblhekaaRef
namespace Go.Proofs.Ytpkcabbfblhekaa
open Go.RowKit

theorem Try.struct26 : Try.prog.underlying 26 = some (.struct (Try.prog.fieldsOf 26)) := by kernel_rfl
theorem Try.fields26 : (Try.prog.fieldsOf 26).toList.map (fun f => (f.name, f.type, f.offset)) = [("K", 3, 0), ("N", 3, 1)] := by kernel_rfl
theorem eqF_cons (d : Nat) (xs : Array Value) (f : Field) (fs : List Field) (w : World) (a : Value) (hn : f.name ≠ "_") (hp : (part f.type xs f.offset).run Try.prog w = .ok a w) (hq : (Op.equalIn d f.type a a).run Try.prog w = .ok true w) :
    (Op.eqFields d xs xs (f :: fs)).run Try.prog w = (Op.eqFields d xs xs fs).run Try.prog w := by
  simp only [Op.eqFields, if_pos hn, Sem.run_bind, hp, Result.andThen_ok, hq, Bool.not_true, Bool.false_eq_true, if_false]
theorem eqF_nil (d : Nat) (xs : Array Value) (w : World) : (Op.eqFields d xs xs []).run Try.prog w = .ok true w := by simp only [Op.eqFields, Sem.run_pure]
theorem eqF (d : Nat) (x y : Int) (w : World) (f1 f2 : Field) (h1 : f1.name ≠ "_") (h2 : f2.name ≠ "_") (t1 : f1.type = 3) (t2 : f2.type = 3) (o1 : f1.offset = 0) (o2 : f2.offset = 1) :
    (Op.eqFields (d + 2) #[.int .i64 x, .int .i64 y] #[.int .i64 x, .int .i64 y] [f1, f2]).run Try.prog w = .ok true w := by
  have p1 : (part 3 #[.int .i64 x, .int .i64 y] 0).run Try.prog w = .ok (.int .i64 x) w := by
    simp [part, isAgg, run_underlying Try.underlying3]
  have p2 : (part 3 #[.int .i64 x, .int .i64 y] 1).run Try.prog w = .ok (.int .i64 y) w := by
    simp [part, isAgg, run_underlying Try.underlying3]
  have q : ∀ z, (Op.equalIn (d + 2) 3 (.int .i64 z) (.int .i64 z)).run Try.prog w = .ok true w := fun z => by
    rw [run_equalIn_int w (d + 1) 3 .i64 .i64 _ _ Try.underlying3]
    simp
  rw [eqF_cons (d + 2) _ f1 _ w _ h1 (by rw [t1, o1]; exact p1) (by rw [t1]; exact q x), eqF_cons (d + 2) _ f2 _ w _ h2 (by rw [t2, o2]; exact p2) (by rw [t2]; exact q y)]
  exact eqF_nil _ _ w
theorem eq26 (d : Nat) (x y : Int) (w : World) : (Op.equalIn (d + 3) 26 (.agg #[.int .i64 x, .int .i64 y]) (.agg #[.int .i64 x, .int .i64 y])).run Try.prog w = .ok true w := by
  rw [run_equalIn_struct w (d + 2) 26 _ _ Try.struct26 (by kernel_rfl)]
  obtain ⟨f1, f2, e⟩ : ∃ f1 f2, (Try.prog.fieldsOf 26).toList = [f1, f2] := by
    have := congrArg List.length Try.fields26
    rw [List.length_map] at this
    match h : (Try.prog.fieldsOf 26).toList, this with
    | [f1, f2], _ => exact ⟨f1, f2, rfl⟩
  have h := Try.fields26
  rw [e] at h
  simp only [List.map_cons, List.map_nil, List.cons.injEq, Prod.mk.injEq, and_true] at h
  obtain ⟨⟨a1, a2, a3⟩, b1, b2, b3⟩ := h
  rw [e]
  exact eqF d x y w f1 f2 (by rw [a1]; simp) (by rw [b1]; simp) a2 b2 a3 b3
theorem eql26 (x y : Int) (w : World) : (Op.equalIn 10000 26 (.agg #[.int .i64 x, .int .i64 y]) (.agg #[.int .i64 x, .int .i64 y])).run Try.prog w = .ok true w := eq26 9997 x y w

theorem wpList_app2 {ops : Array Oper} {rest : List Oper} {o : Oper} {a : Act} {w : World} {Q : Exit → Act → World → Prop} (hgd : o.guard = none) (s x : Operand)
    (ho : o.op = .call { callee := .builtin .append, args := #[s, x], argTypes := #[28, 28] })
    {v u v' : Value} {w' : World} (hs : a.eval s = v) (hx : a.eval x = u) (hr : (Builtin.append_ #[28, 28] o.type #[v, u]).run Try.prog w = .ok v' w')
    (h : wpList Try.prog ops Q rest (a.put o.dst v') w') : wpList Try.prog ops Q (o :: rest) a w := by
  refine wpList_plain hgd fun K hK => ?_
  unfold Oper.wp execOp
  simp only [ho, resolve, invoke, builtin, Sem.run_bind, Sem.run_pure, Result.andThen_ok, List.map_toArray, List.map_cons, List.map_nil, hs, hx, hr]
  exact hK _ _ h

theorem OwnT.form {w : World} {v : Value} {l : List (Int × Int)} (h : OwnT w v l) : ∃ a c, v = .slice a l.length c := h.ths.form
theorem Ths.cut {w : World} {b o n c : Nat} {L : List (Int × Int)} (hc : ∀ i, i < L.length → w.cell? ⟨b, o + i * 2, none⟩ = some (.int .i64 (tnth L i).1) ∧ w.cell? ⟨b, o + i * 2 + 1, none⟩ = some (.int .i64 (tnth L i).2)) (i m : Nat) (hm : i + m ≤ L.length) (hn : n = m) :
    Ths w (.slice (some ⟨b, o + i * 2, none⟩) n c) ((L.drop i).take m) := by
  subst hn
  refine .inr (.inr ⟨b, o + i * 2, c, by rw [List.length_take, List.length_drop, Nat.min_eq_left (by omega)], fun j a hj => ?_⟩)
  rw [List.getElem?_take] at hj
  split at hj
  · rw [List.getElem?_drop] at hj
    obtain ⟨h1, h2⟩ := hc (i + j) (by omega)
    have e : tnth L (i + j) = a := by unfold tnth; rw [List.getD_eq_getElem?_getD, hj]; rfl
    rw [e] at h1 h2
    rw [show o + i * 2 + j * 2 = o + (i + j) * 2 by omega]
    exact ⟨h1, h2⟩
  · cases hj

theorem OwnT.at {w : World} {v : Value} {L : List (Int × Int)} (h : OwnT w v L) {i : Nat} (hi : i < L.length) : ∃ b c, v = .slice (some ⟨b, 0, none⟩) L.length c ∧ L.length ≤ c ∧ b < w.heap.size ∧ ∀ i, i < L.length → w.cell? ⟨b, 0 + i * 2, none⟩ = some (.int .i64 (tnth L i).1) ∧ w.cell? ⟨b, 0 + i * 2 + 1, none⟩ = some (.int .i64 (tnth L i).2) := by
  obtain ⟨b, o, c, e, hc⟩ := h.ths.at hi
  rcases h.2 with ⟨e2, h0⟩ | ⟨g, cap, cur, e2, _, hgg, hle, _⟩
  · omega
  · rw [e] at e2
    injection e2 with e3 _ e4
    injection e3 with e3
    injection e3 with e5 e6 _
    subst e5 e6 e4
    exact ⟨b, c, e, hle, (Array.getElem?_eq_some_iff.1 hgg).1, hc⟩
theorem OwnT.keep {w w' : World} {S : Nat → Prop} {v : Value} {l : List (Int × Int)} (h : OwnT w v l) (c : Chg S w w') (hn : ∀ k, v.ownBlock = some k → ¬ S k) : OwnT w' v l := by
  refine ⟨h.1, ?_⟩
  rcases h.2 with hn' | ⟨g, cap, cur, rfl, hb, hgg, rest⟩
  · exact .inl hn'
  · exact .inr ⟨g, cap, cur, rfl, hb, c.heap_some hgg (hn g rfl), rest⟩
theorem OwnT.lt {w : World} {v : Value} {l : List (Int × Int)} (h : OwnT w v l) {k : Nat} (hk : v.ownBlock = some k) : k < w.heap.size := (World.ownsRow.lt h k hk).2

set_option maxRecDepth 100000 in
set_option maxHeartbeats 2000000 in
theorem without_any {w : World} {s : Value} {L : List (Int × Int)} (h : OwnT w s L) (hl : L.length ≤ 2097152) (i : Nat) (hi : i < L.length) :
    Calls Try.prog 41 #[s, .int .i64 i] w fun e w' => ∃ v, e = .returned v ∧ OwnT w' v (wo L i) ∧ Chg (fun _ => False) w w' ∧ ∀ k, v.ownBlock = some k → w.heap.size ≤ k := by
  obtain ⟨b, c, rfl, hcap, hb, hc⟩ := h.at hi
  obtain ⟨v1, w1, hr1, ho1, hc1, hv1⟩ := run_app2 w 28 (OwnT.nil w) (Ths.cut (n := i) (c := c) hc 0 i (by omega) rfl) (by simp; omega)
  rw [Nat.zero_mul, Nat.add_zero] at hr1
  rw [List.nil_append, List.drop_zero] at ho1
  have hc1' : Chg (fun _ => False) w w1 := hc1.mono (fun k _ e => by simp [Value.ownBlock] at e)
  have hv1' : ∀ k, v1.ownBlock = some k → w.heap.size ≤ k := fun k hk => by
    rcases hv1 with e | e
    · rw [hk] at e; simp [Value.ownBlock] at e
    · rw [hk] at e
      have : k = w.heap.size := by simpa using e
      omega
  have hcc : ∀ j, j < L.length → w1.cell? ⟨b, 0 + j * 2, none⟩ = some (.int .i64 (tnth L j).1) ∧ w1.cell? ⟨b, 0 + j * 2 + 1, none⟩ = some (.int .i64 (tnth L j).2) := fun j hj => by
    obtain ⟨h1, h2⟩ := hc j hj
    have hb' : w1.heap[b]? = w.heap[b]? := hc1'.block b hb (fun h => h)
    exact ⟨(World.cell?_of_block (a := ⟨b, 0 + j * 2, none⟩) hb').trans h1, (World.cell?_of_block (a := ⟨b, 0 + j * 2 + 1, none⟩) hb').trans h2⟩
  obtain ⟨U, hU, hUe⟩ : ∃ U, Ths w1 U (L.drop (i + 1)) ∧ ((c = i + 1 ∧ L.length = i + 1 ∧ U = .slice (some ⟨b, 0, none⟩) 0 0) ∨ (c ≠ i + 1 ∧ U = .slice (some ⟨b, (i + 1) * 2, none⟩) (L.length - (i + 1)) (c - (i + 1)))) := by
    by_cases hce : c = i + 1
    · have hl9 : L.length = i + 1 := by omega
      exact ⟨_, .inr (.inl ⟨⟨b, 0, none⟩, 0, rfl, List.drop_eq_nil_of_le (by omega)⟩), .inl ⟨hce, hl9, rfl⟩⟩
    · refine ⟨_, ?_, .inr ⟨hce, rfl⟩⟩
      have := Ths.cut (n := L.length - (i + 1)) (c := c - (i + 1)) hcc (i + 1) (L.length - (i + 1)) (by omega) rfl
      rw [List.take_of_length_le (l := L.drop (i + 1)) (by rw [List.length_drop]; exact Nat.le_refl _), Nat.zero_add] at this
      exact this
  obtain ⟨v2, w2, hr2, ho2, hc2, hv2⟩ := run_app2 w1 28 ho1 hU (by simp; omega)
  have ewo : L.take i ++ L.drop (i + 1) = wo L i := rfl
  rw [ewo] at ho2
  have hch2 : Chg (fun _ => False) w w2 := hc1'.trans hc2 (fun k e => .inr (hv1' k e.symm))
  have hv2' : ∀ k, v2.ownBlock = some k → w.heap.size ≤ k := fun k hk => by
    rcases hv2 with e | e
    · rw [hk] at e; exact hv1' k e.symm
    · rw [hk] at e
      have h9 : k = w1.heap.size := by simpa using e
      have := hc1'.size
      omega
  obtain ⟨a1, c1, e1⟩ := ho1.form
  obtain ⟨a2, c2, e2⟩ := ho2.form
  subst e1 e2
  obtain ⟨n1, hn1⟩ : ∃ n, (L.take i).length = n := ⟨_, rfl⟩
  obtain ⟨n2, hn2⟩ : ∃ n, (wo L i).length = n := ⟨_, rfl⟩
  rw [hn1] at hr1 hr2
  rw [hn2] at hr2 ho2 hv2'
  have R1 : Hid _ := hr1
  have R2 : Hid _ := hr2
  have O2 : Hid _ := ho2
  have C2 : Hid _ := hch2
  have V2 : Hid _ := hv2'
  obtain ⟨N, hN⟩ : ∃ N, L.length = N := ⟨_, rfl⟩
  rw [hN] at hUe hcap ⊢
  have hiN : (i : Int) < (N : Int) := by omega
  have hNc : (N : Int) ≤ (c : Int) := by omega
  have hN9 : N ≤ 2097152 := by omega
  clear hr1 hr2 ho2 hch2 hv2' hc1 hv1 hc1' hv1' hcc hc2 hv2 ewo hc h ho1 hn1 hn2 hl hi hN hU
  rcases hUe with ⟨hce, hl9, rfl⟩ | ⟨hce, rfl⟩
  · subst hce hl9
    go_enter Try.func41, Try.ntmps41
    go_upto_region 3 with (at_builtin; refine wpList_app2 rfl (.tmp 6) (.tmp 9) rfl rfl rfl R1.out ?_)
    go_wp2_with (at_builtin; refine wpList_app2 rfl (.tmp 11) (.tmp 15) rfl rfl rfl R2.out ?_)
    go_ret
    exact ⟨_, rfl, O2.out, C2.out, V2.out⟩
  · go_enter Try.func41, Try.ntmps41
    go_upto_region 3 with (at_builtin; refine wpList_app2 rfl (.tmp 6) (.tmp 9) rfl rfl rfl R1.out ?_)
    go_wp2_with (at_builtin; refine wpList_app2 rfl (.tmp 11) (.tmp 15) rfl rfl rfl R2.out ?_)
    go_ret
    exact ⟨_, rfl, O2.out, C2.out, V2.out⟩

/-- took, where the answer is right. -/
def tookR (a : Int × Int) (ok : Bool) (l : List (Int × Int)) (all : Bool) : Prop := (l = [] ∧ ok = false ∧ a = (0, 0)) ∨ (∃ m : Nat, firstU all l l.length = (m : Int) ∧ m < l.length ∧ ok = true ∧ a = tnth l m)

set_option maxRecDepth 100000 in
set_option maxHeartbeats 2000000 in
theorem took_any {w : World} {s : Value} {L : List (Int × Int)} (h : Ths w s L) (hl : L.length ≤ 2097152) {a : Int × Int} {ok all : Bool} (hr : tookR a ok L all) :
    Calls Try.prog 40 #[two a, .bool ok, s, .bool all] w fun e w' => e = .returned (.bool true) ∧ Chg (fun _ => False) w w' := by
  obtain ⟨ak, an⟩ := a
  obtain ⟨w1, hw1⟩ : ∃ w1, w1 = w.alloc (.cells #[.int .i64 ak, .int .i64 an] 26) := ⟨_, rfl⟩
  have hc1 : Chg (fun _ => False) w w1 := by rw [hw1]; exact (Chg.refl _ _).alloc _
  have hB1 : Blk w1 w.heap.size [.int .i64 ak, .int .i64 an] 26 := by rw [hw1]; exact Blk.made w [.int .i64 ak, .int .i64 an] 26
  have FI : Hid _ := first_any (Ths.keep h hc1 (fun _ _ h => h)) hl all
  have HT : Hid _ := h
  have W1 : Hid _ := hw1
  have C1 : Hid _ := hc1
  have B1 : Hid _ := hB1
  have EQ := eql26
  unfold two
  rcases hr with ⟨rfl, rfl, e⟩ | ⟨m, hm, hml, rfl, e⟩
  · injection e with e1 e2
    subst e1 e2
    have hf : firstU all [] ([] : List (Int × Int)).length = -1 := rfl
    rw [hf] at FI
    clear h hw1 hc1 hB1 hl hf
    go_enter Try.func40, Try.ntmps40
    go_wp2_with fail
    rw [← W1.out]
    refine Calls.mono FI.out ?_
    rintro e w2 ⟨rfl, ch2⟩
    have hB2 := Blk.keep B1.out ch2 (fun h => h)
    have k0 : w2.cell? ⟨w.heap.size, 0, none⟩ = some (.int .i64 0) := hB2.cell 0
    have k1 : w2.cell? ⟨w.heap.size, 1, none⟩ = some (.int .i64 0) := hB2.cell 1
    have C2 : Hid _ := C1.out.trans ch2 (fun _ h => h.elim)
    clear ch2 hB2
    go_wp2_with fail
    go_ret
    exact ⟨rfl, C2.out⟩
  · rw [hm] at FI
    obtain ⟨b, o, c, hs, hc⟩ := Ths.at h hml
    subst hs
    obtain ⟨x0, x1⟩ := hc m hml
    rw [← e] at x0 x1
    simp only at x0 x1
    have hml' : (m : Int) < (L.length : Int) := by omega
    have hb : b < w.heap.size := World.block_lt_of_cell? _ _ x0
    clear h hw1 hB1 hc hl e hc1 hm
    go_enter Try.func40, Try.ntmps40
    go_wp2_with fail
    rw [← W1.out]
    refine Calls.mono FI.out ?_
    rintro e w2 ⟨rfl, ch2⟩
    have hB2 := Blk.keep B1.out ch2 (fun h => h)
    have k0 : w2.cell? ⟨w.heap.size, 0, none⟩ = some (.int .i64 ak) := hB2.cell 0
    have k1 : w2.cell? ⟨w.heap.size, 1, none⟩ = some (.int .i64 an) := hB2.cell 1
    have hc2 : Chg (fun _ => False) w w2 := C1.out.trans ch2 (fun _ h => h.elim)
    have hbb : w2.heap[b]? = w.heap[b]? := hc2.block b hb (fun h => h)
    have z0 : w2.cell? ⟨b, o + m * 2, none⟩ = some (.int .i64 ak) := (World.cell?_of_block (a := ⟨b, o + m * 2, none⟩) hbb).trans x0
    have z1 : w2.cell? ⟨b, o + m * 2 + 1, none⟩ = some (.int .i64 an) := (World.cell?_of_block (a := ⟨b, o + m * 2 + 1, none⟩) hbb).trans x1
    have C2 : Hid _ := hc2
    clear ch2 hB2 hbb hc2 x0 x1
    go_wp2_with fail
    go_quiet (fail)
    go_wp2_with fail
    go_ret
    exact ⟨rfl, ⟨C2.out.os, C2.out.tape, C2.out.output, C2.out.size, C2.out.block⟩⟩

end Go.Proofs.Ytpkcabbfblhekaa
