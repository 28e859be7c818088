/-
  The walk of Sort.
-/
import Derived.Test.YtpkcabbfblhekaaSoB
namespace Go.Proofs.Ytpkcabbfblhekaa
open Go.RowKit Go.Shelf
attribute [local go_sem] Oper.semAt_some

theorem wpListIn_app2 {F : Fence} {n : Nat} {ops : Array Oper} {rest : List Oper} {o : Oper} {a : Act} {w : World} {Q : Exit → Act → World → Prop} (hgd : o.guard = none) (s x : Operand)
    (ho : o.op = .call { callee := .builtin .append, args := #[s, x], argTypes := #[28, 28] })
    {v u v' : Value} {w' : World} (hs : a.eval s = v) (hx : a.eval x = u) (hr : (Builtin.append_ #[28, 28] o.type #[v, u]).run Try.prog w = .ok v' w')
    (h : wpListIn F n Try.prog ops Q rest (a.put o.dst v') w') : wpListIn F n Try.prog ops Q (o :: rest) a w := by
  refine wpListIn_plain hgd fun K hK => ?_
  unfold Oper.wpIn
  refine ⟨by simp [Oper.about, ho, resolve, Target.leads, Sem.run_pure], ?_⟩
  rw [Oper.semAt_plain F _ _ (by rw [ho]; intro c hc'; cases hc')]
  simp [execOp, ho, resolve, invoke, builtin, hs, hx, hr, Result.andThen]
  exact hK _ _ h

theorem SS.start {S : Nat → Prop} {I : Nat → World → Prop} {W w : World} {p : Nat} {f v : Value} {H : List E} {came c : Nat} {lv : Value} {out : List (Int × Int)} (hch : Chg S W w) (htl : ∀ k, S k → k < W.heap.size) (hp : W.heap.size ≤ p) (hv : ∀ k, v.ownBlock = some k → W.heap.size ≤ k) (hq : Hq w p f v H came) (own : OwnT w lv out) (np : lv.ownBlock ≠ some p) (nv : ∀ k, lv.ownBlock = some k → v.ownBlock ≠ some k) (ll : ∀ k, lv.ownBlock = some k → W.heap.size ≤ k) (ic : I c w) : SS S I W w [] [] p f v H came lv out c := by
  refine ⟨⟨fun x hx => by simp at hx, List.Pairwise.nil, fun d hd => by simp at hd, List.nodup_nil, hch, htl, fun _ hk => ?_, fun _ hk => by simp at hk, hp, hv⟩, hq, own, np, nv, ll, ic⟩
  rcases hk with hk | hk | ⟨_, hx, _⟩
  · simp at hk
  · simp at hk
  · simp at hx

theorem SS.open {S : Nat → Prop} {I : Nat → World → Prop} {W w : World} {Bs : List Bo} {p : Nat} {f v : Value} {H : List E} {came c : Nat} {lv : Value} {out : List (Int × Int)} (h : SS S I W w [] Bs p f v H came lv out c) : SS S I W w [w.heap.size, w.heap.size + 1] Bs p f v H came lv out c :=
  ⟨h.dy.open h.hq.lt h.hq.vlt (fun _ hk => h.own.lt hk), h.hq, h.own, h.np, h.nv, h.ll, h.ic⟩

/-- One thing more in the list, which box i holds. -/
theorem SS.app {S : Nat → Prop} {I : Nat → World → Prop} {W w w' : World} {Fs : List Nat} {Bs : List Bo} {p : Nat} {f v : Value} {H : List E} {came c : Nat} {lv lv' : Value} {out out' : List (Int × Int)} {od : E → E → Int} {one : Nat} (O : Od f S I od one) (h : SS S I W w Fs Bs p f v H came lv out c) (hf : ∀ k ∈ Fs, k < w.heap.size)
    (k : Chg (fun i => some i = lv.ownBlock) w w') (ho : OwnT w' lv' out') (hl : ∀ k, lv'.ownBlock = some k → lv.ownBlock = some k ∨ w.heap.size ≤ k) (i : Nat) {b : Nat} (hi : Bs[i]? = some (b, [lv], 28)) :
    SS S I W (w'.setCell ⟨b, 0, none⟩ lv') Fs (Bs.set i (b, [lv'], 28)) p f v H came lv' out' c := by
  have hm := List.mem_of_getElem? hi
  have hno : ∀ k, (k ∈ Fs ∨ k ∈ ([] : List Nat) ∨ ∃ x ∈ Bs, x.1 = k) → ¬ some k = lv.ownBlock := fun k hk e => (h.dy.of k hk).2.2.2 e.symm
  have hlow : ∀ k, W.heap.size ≤ k → ¬ S k := fun k hk hs => by have := h.dy.tl k hs; omega
  have d1 := (h.dy.list (lv' := lv') hf hl).keepS k (fun x hx => hno _ (.inr (.inr ⟨x, hx, rfl⟩))) (fun _ hd => by simp at hd) (fun j hj => .inr (h.ll j hj.symm))
  have d2 := d1.store i (o := 0) hi lv'
  obtain ⟨q1, q2, q3, q4⟩ := d1.of b (.inr (.inr ⟨_, hm, rfl⟩))
  have kb : Chg (fun k => k = b) w' (w'.setCell ⟨b, 0, none⟩ lv') := (Chg.refl (fun k => k = b) _).setCell (p := ⟨b, 0, none⟩) (.inl rfl) _
  have hqv := h.hq.keep k (fun e => h.np e.symm) (fun j hj e => h.nv j e.symm hj)
  have hnp : lv'.ownBlock ≠ some p := fun e => by
    rcases hl _ e with e | e
    · exact h.np e
    · have := h.hq.lt; omega
  refine ⟨d2, hqv.keep kb (fun e => q2 e.symm) (fun j hj e => q3 (by rw [← e]; exact hj)), ho.keep kb (fun j hj e => q4 (by rw [← e]; exact hj)), hnp, fun j hj e => ?_, fun j hj => ?_, O.keep (O.keep h.ic k (fun j hj hs => hlow j (h.ll j hj.symm) hs)) kb (fun j hj hs => hlow j (by rw [hj]; exact q1) hs)⟩
  · rcases hl _ hj with e' | e'
    · exact h.nv j e' e
    · have := h.hq.vlt j e; omega
  · rcases hl _ hj with e' | e'
    · exact h.ll j e'
    · have := h.dy.ch.size; omega

theorem make_T (w : World) (l c : Nat) (hlc : l ≤ c) (hc : c ≤ 2097152) : (Instr.makeSlice 28 (.int .i64 l) (.int .i64 c)).run Try.prog w = .ok (.slice (some ⟨w.heap.size, 0, none⟩) l c) (w.alloc (.cells (madeCells #[.int .i64 0, .int .i64 0] (c * 2)) 26)) := by
  obtain ⟨i0, hi, hz0, hz1, hz2⟩ := info_parts info26
  have := run_make (P := Try.prog) w 28 26 i0 _ Try.underlying28 hi hz0 .i64 .i64 l c (by omega) (by omega) (by rw [hz2, ← Int.natCast_mul]; omega) (by omega)
  rw [this, hz1, Int.toNat_natCast, Int.toNat_natCast]
  rfl
theorem make_T0 (w : World) (c : Nat) (hc : c ≤ 2097152) : (Instr.makeSlice 28 (.int .i64 0) (.int .i64 c)).run Try.prog w = .ok (.slice (some ⟨w.heap.size, 0, none⟩) 0 c) (w.alloc (.cells (madeCells #[.int .i64 0, .int .i64 0] (c * 2)) 26)) := make_T w 0 c (Nat.zero_le _) hc
theorem OwnT.made0 (w : World) (c : Nat) (hc : c ≤ 2097152) : OwnT (w.alloc (.cells (madeCells #[.int .i64 0, .int .i64 0] (c * 2)) 26)) (.slice (some ⟨w.heap.size, 0, none⟩) 0 c) [] :=
  World.ownsRow_made w _ c (Nat.zero_le _) (by unfold maxLen; omega) (by simp [madeCells])

set_option maxRecDepth 100000 in
set_option maxHeartbeats 4000000 in
theorem sort_any {W : World} {f : Value} {S : Nat → Prop} {I : Nat → World → Prop} {od : E → E → Int} {one : Nat} (O : Od f S I od one) (h1 : one ≤ 1) (hf : f = .nilFunc ∨ ∃ g caps, f = .func (.func g) #[] caps) {s : Value} {L : List (Int × Int)} (hL : Ths W s L) (hs : ∀ k, L ≠ [] → s.ownBlock = some k → ¬ S k)
    (c : Nat) (hl : L.length ≤ 1048576) (hI : I c W) (hc : c ≤ 1125899906842624) :
    Calls Try.prog 20 #[s, f] W fun e w' => ∃ v, e = .returned v ∧ OwnT w' v (drF od L.length (pushF od L [] 0).1).1 ∧ (∀ k, v.ownBlock = some k → W.heap.size ≤ k) ∧ I (c + one * ((pushF od L [] 0).2 + (drF od L.length (pushF od L [] 0).1).2)) w' ∧ Chg S W w' := by
  obtain ⟨sa, sc, rfl⟩ := hL.form
  have OO : Hid _ := O
  have HL : Hid (Ths _ _ _) := hL
  have HS : Hid _ := hs
  have HI : Hid _ := hI
  have hlow : ∀ k, W.heap.size ≤ k → ¬ S k := fun k hk h => by have := O.low hI h; omega
  have LO : Hid _ := hlow
  have NW : Hid _ := new_any hf W
  clear O hL hs hI hlow hf
  refine callsIn_wide.1 (callsIn_of_wp_marks (n := 0) Try.func20 rfl trivial (wpIn_wide.2 ?_))
  simp only [Try.ntmps20, List.size_toArray, List.length_cons, List.length_nil, Nat.reduceAdd, Nat.reduceSub, Array.replicate_succ, Array.replicate_zero, List.push_toArray, List.append_toArray, List.nil_append, List.cons_append]
  go_wp2_with fail
  refine Calls.mono NW.out ?_
  rintro e w1 ⟨rfl, hq1, ch1⟩
  have hPU := push_any OO.out hq1 (LO.out _ (Nat.le_refl _)) (fun k hk => by simp [Value.ownBlock] at hk) c (Ths.keep HL.out ch1 (fun _ _ h => h)) (fun k hne hk => by
    have := Ths.low HL.out hne k hk
    exact ⟨by omega, by simp [Value.ownBlock], HS.out k hne hk, Nat.lt_of_lt_of_le this ch1.size⟩) (by simp; omega) (by omega) (OO.out.keep HI.out ch1 (fun _ h => h.elim)) (by omega) h1
  have PU : Hid _ := hPU
  have C1 : Hid (Chg _ _ _) := ch1
  have hlt1 := hq1.lt
  clear hPU ch1 hq1 NW
  go_wp2_with fail
  refine Calls.mono PU.out ?_
  rintro e w2 ⟨rfl, st2⟩
  have ST : Hid _ := st2
  clear st2 PU
  have hmk := make_T0 w2 L.length (by omega)
  obtain ⟨⟨v2, hq2, hv2⟩, hi2, hch2⟩ := ST.out
  have hvn : ∀ k, v2.ownBlock = some k → w1.heap.size ≤ k := fun k hk => by
    rcases hv2 k hk with e | e
    · simp [Value.ownBlock] at e
    · exact e
  have hsz1 := C1.out.size
  have hsz2 := hch2.size
  have hchS : Chg S W w2 := (C1.out.mono (fun _ _ h => h.elim)).trans hch2 (fun i hi => by
    rcases hi with e | e | e
    · exact .inr (by omega)
    · simp [Value.ownBlock] at e
    · exact .inl e)
  have hc3 : Chg (fun _ => False) w2 (w2.alloc (.cells (madeCells #[.int .i64 0, .int .i64 0] (L.length * 2)) 26)) := (Chg.refl _ _).alloc _
  have hg2 : (Value.slice (some ⟨w2.heap.size, 0, none⟩) 0 L.length).ownBlock = some w2.heap.size := rfl
  have htl : ∀ k, S k → k < W.heap.size := fun k hk => OO.out.low HI.out hk
  have ss3 : SS S I W (w2.alloc (.cells (madeCells #[.int .i64 0, .int .i64 0] (L.length * 2)) 26)) [] [] W.heap.size f v2 (pushF od L [] 0).1 (0 + L.length) (.slice (some ⟨w2.heap.size, 0, none⟩) 0 L.length) [] (c + one * (pushF od L [] 0).2) :=
    SS.start (hchS.trans hc3 (fun _ h => h.elim)) htl (Nat.le_refl _) (fun k hk => by have := hvn k hk; omega) (hq2.keep hc3 (fun h => h) (fun _ _ h => h)) (OwnT.made0 w2 L.length (by omega)) (fun e => by rw [hg2] at e; have := Option.some.inj e; have := hq2.lt; omega)
      (fun k hk e => by rw [hg2] at hk; have := Option.some.inj hk; have := hq2.vlt k e; omega) (fun k hk => by rw [hg2] at hk; have := Option.some.inj hk; omega) (OO.out.keep hi2 hc3 (fun _ h => h.elim))
  have ss4 := ss3.box OO.out [.slice (some ⟨w2.heap.size, 0, none⟩) 0 L.length] 28 (by simp)
  have ss5 := ss4.box OO.out [.pointer (some ⟨W.heap.size, 0, none⟩)] 23 (by simp)
  simp only [List.cons_append, List.nil_append, World.size_alloc] at ss5
  have SS5 : Hid _ := ss5
  have DR : Hid _ := drain_any W.heap.size ((w2.alloc (.cells (madeCells #[.int .i64 0, .int .i64 0] (L.length * 2)) 26)).alloc (.cells #[.slice (some ⟨w2.heap.size, 0, none⟩) 0 L.length] 28))
  clear hq2 hv2 hi2 hch2 hvn hsz1 hsz2 hchS hc3 hg2 htl ss3 ss4 ss5 ST C1
  go_wp2_with fail
  refine Calls.mono DR.out ?_
  rintro e w6 ⟨rfl, h6⟩
  subst h6
  clear DR hmk
  go_wp2_with fail
  generalize hbx : w2.heap.size + 1 + 1 = bx at SS5 ⊢
  generalize hb6 : w2.heap.size + 1 = b6 at SS5 ⊢
  generalize hwD : ((w2.alloc (.cells (madeCells #[.int .i64 0, .int .i64 0] (L.length * 2)) 26)).alloc (.cells #[.slice (some ⟨w2.heap.size, 0, none⟩) 0 L.length] 28)).alloc (.cells #[.pointer (some ⟨W.heap.size, 0, none⟩)] 23) = wD at SS5 ⊢
  generalize hpp : W.heap.size = p at SS5 ⊢
  obtain ⟨tot, htot⟩ : ∃ tot, tot = (drF od L.length (pushF od L [] 0).1).1 := ⟨_, rfl⟩
  obtain ⟨tc, htc⟩ : ∃ tc, tc = c + one * ((pushF od L [] 0).2 + (drF od L.length (pushF od L [] 0).1).2) := ⟨_, rfl⟩
  have hlen0 : (pushF od L [] 0).1.length = L.length := by rw [pushF_len]; simp
  have htcb : tc ≤ 2251799813685248 := by
    have q1 := pushF_cost od L [] 0
    have q2 := most_le L.length L.length 0 (by omega)
    have q3 := drF_cost od L.length L.length (pushF od L [] 0).1 hlen0 (Nat.le_refl _)
    have q4 := dg_le 21 L.length (by omega)
    have q5 : L.length * (dg L.length + 1) ≤ 1048576 * 22 := Nat.mul_le_mul hl (by omega)
    have q6 : L.length * (2 * dg L.length) ≤ 1048576 * 42 := Nat.mul_le_mul hl (by omega)
    have q7 : most ([] : List E).length L.length = most 0 L.length := rfl
    rw [q7] at q1
    have q8 : one * ((pushF od L [] 0).2 + (drF od L.length (pushF od L [] 0).1).2) ≤ 1 * ((pushF od L [] 0).2 + (drF od L.length (pushF od L [] 0).1).2) := Nat.mul_le_mul_right _ h1
    omega
  have LNS : Hid _ := hlen0
  have HTC : Hid _ := htc
  have HTO : Hid _ := htot
  clear htot htc hlen0 hbx hb6 hwD hpp
  obtain ⟨came, hcame⟩ : ∃ came, came = 0 + L.length := ⟨_, rfl⟩
  rw [← hcame] at SS5
  clear hcame
  refine wp_rangeD (α := Int × Int) (drn_any bx p) rfl (enters_of Try.func44 (by kernel_rfl) rfl) rfl
    (fun m w => ∃ (v : Value) (H : List E) (lv : Value) (out : List (Int × Int)) (c' : Nat), SS S I W w [wD.heap.size, wD.heap.size + 1] [(b6, [lv], 28), (bx, [.pointer (some ⟨p, 0, none⟩)], 23)] p f v H came lv out c' ∧ m = H.length ∧ H.length ≤ L.length ∧ out.length ≤ L.length ∧ out ++ (drF od H.length H).1 = tot ∧ c' + one * (drF od H.length H).2 = tc)
    (fun m x w => ∃ (v : Value) (H : List E) (lv : Value) (out : List (Int × Int)) (c' : Nat), SS S I W w [wD.heap.size, wD.heap.size + 1] [(b6, [lv], 28), (bx, [.pointer (some ⟨p, 0, none⟩)], 23)] p f v H came lv out c' ∧ H.length < m ∧ H.length ≤ L.length ∧ out.length < L.length ∧ out ++ x :: (drF od H.length H).1 = tot ∧ c' + one * (drF od H.length H).2 = tc)
    (fun m x b w => ∃ c7 : Nat, b = { tmps := #[.slice sa L.length sc, f, undef, undef, .slice none 0 0, .pointer (some ⟨p, 0, none⟩), .pointer (some ⟨b6, 0, none⟩), .pointer (some ⟨c7, 0, none⟩), f, .pointer (some ⟨p, 0, none⟩), .pointer (some ⟨p, 0, none⟩), .slice sa L.length sc, .tuple #[], .slice sa L.length sc, .int .i64 L.length, .slice (some ⟨w2.heap.size, 0, none⟩) 0 L.length, .pointer (some ⟨p, 0, none⟩), .func (.func 44) #[] #[.pointer (some ⟨bx, 0, none⟩)], .agg #[.int .i64 x.1, .int .i64 x.2], undef, undef, undef, undef, undef], defers := [] } ∧
      ∃ (v : Value) (H : List E) (lv : Value) (out : List (Int × Int)) (c' : Nat), SS S I W w [wD.heap.size, wD.heap.size + 1] [(b6, [lv], 28), (bx, [.pointer (some ⟨p, 0, none⟩)], 23), (c7, [.int .i64 x.1, .int .i64 x.2], 26)] p f v H came lv out c' ∧ H.length < m ∧ H.length ≤ L.length ∧ out.length < L.length ∧ out ++ x :: (drF od H.length H).1 = tot ∧ c' + one * (drF od H.length H).2 = tc)
    (fun w => ∃ (v : Value) (lv : Value), SS S I W w [wD.heap.size, wD.heap.size + 1] [(b6, [lv], 28), (bx, [.pointer (some ⟨p, 0, none⟩)], 23)] p f v [] came lv tot tc)
    (fun _ _ => False)
    (fun m A B hc ⟨v, H, lv, out, c', h, r⟩ => ⟨v, H, lv, out, c', h.st OO.out hc, r⟩)
    (fun m x A B hc ⟨v, H, lv, out, c', h, r⟩ => ⟨v, H, lv, out, c', h.st OO.out hc, r⟩)
    (fun m x b A B hc ⟨c7, eb, v, H, lv, out, c', h, r⟩ => ⟨c7, eb, v, H, lv, out, c', h.st OO.out hc, r⟩)
    (fun A B hc ⟨v, lv, h⟩ => ⟨v, lv, h.st OO.out hc⟩)
    (fun _ _ _ _ h => h)
    (fun m w ⟨v, H, lv, out, c', h, _⟩ => (h.dy.at 1 rfl).cell 0) _ ⟨_, _, _, _, _, SS5.out.open, rfl, by rw [LNS.out]; exact Nat.le_refl _, by simp, by rw [LNS.out, HTO.out]; rfl, by rw [LNS.out, HTC.out, Nat.mul_add]; omega⟩ ?pop ?assign ?body ?done ?stop
  case pop =>
    rintro m w ⟨v, H, lv, out, c', h, rfl, hHl, hol, ho, hcc⟩ hs
    refine (h.pop OO.out h1 hs (by omega) (by omega)).mono ?_
    rintro e w' ⟨kd, ⟨x, rfl, v', m, hm, hx, ss⟩ | ⟨x, rfl, rfl, ss⟩⟩
    · have hpl : (popF od H).1.length = m := by rw [popF_len]; omega
      refine ⟨kd, .inl ⟨x, rfl, v', _, lv, out, _, ss, by omega, by omega, ?_, ?_, ?_⟩⟩
      · have := congrArg List.length ho
        rw [List.length_append, drF_len] at this
        have h9 : tot.length = L.length := by rw [HTO.out, drF_len]
        omega
      · rw [hpl, hx, ← ho, hm]; rfl
      · rw [hpl, ← hcc, hm]
        show _ = c' + one * ((popF od H).2 + (drF od m (popF od H).1).2)
        rw [Nat.mul_add]; omega
    · have ho' : out = tot := by rw [← ho]; simp [drF]
      have hcc' : c' = tc := by rw [← hcc]; simp [drF]
      subst ho'
      subst hcc'
      exact ⟨kd, .inr ⟨x, rfl, v, lv, ss⟩⟩
  case assign =>
    rintro l m x w ⟨v, H, lv, out, c', h, r⟩ hs
    have H2 : Hid _ := h
    have HR : Hid _ := r
    clear h r
    unfold twoV
    gi_wp2
    have h2 := H2.out.box OO.out [.int .i64 x.1, .int .i64 x.2] 26 (fs_lt hs)
    exact ⟨Kd.of_chg ((Chg.refl (fun _ => False) _).alloc _) hs (fun h => h) (fun h => h), _, rfl, v, H, lv, out, c', h2, HR.out⟩
  case body =>
    rintro l m ⟨xk, xn⟩ b w ⟨c7, rfl, v, H, lv, out, c', h, hm, hHl, hol, ho, hcc⟩ hs
    have e8 : w.cell? ⟨b6, 0, none⟩ = some lv := (h.dy.at 0 rfl).cell 0
    have f8 : w.frozen? ⟨b6, 0, none⟩ = false := (h.dy.at 0 rfl).fr 0
    have x0 : w.cell? ⟨c7, 0, none⟩ = some (.int .i64 xk) := (h.dy.at 2 rfl).cell 0
    have x1 : w.cell? ⟨c7, 1, none⟩ = some (.int .i64 xn) := (h.dy.at 2 rfl).cell 1
    obtain ⟨la, lc, hlf⟩ := h.own.form
    obtain ⟨w3, hw3⟩ : ∃ w3, w3 = w.alloc (.cells #[.int .i64 xk, .int .i64 xn] 26) := ⟨_, rfl⟩
    have hc3 : Chg (fun _ => False) w w3 := by rw [hw3]; exact (Chg.refl _ _).alloc _
    have hB3 : Blk w3 w.heap.size [.int .i64 xk, .int .i64 xn] 26 := by rw [hw3]; exact Blk.made w [.int .i64 xk, .int .i64 xn] 26
    have th3 : Ths w3 (.slice (some ⟨w.heap.size, 0, none⟩) 1 1) [(xk, xn)] := .inr (.inr ⟨w.heap.size, 0, 1, rfl, fun i z hz => by
      cases i with
      | zero =>
        have h9 : (xk, xn) = z := by simpa using hz
        subst h9
        exact ⟨hB3.cell 0, hB3.cell 1⟩
      | succ i => simp at hz⟩)
    have ss3 := h.keep OO.out hc3
    have hs3 : wD.heap.size + 1 < w3.heap.size := by have := hc3.size; omega
    obtain ⟨v4, w4, hr4, ho4, hch4, hv4⟩ := run_app2 w3 28 ss3.own th3 (by simp; omega)
    have hl4 : ∀ k, v4.ownBlock = some k → lv.ownBlock = some k ∨ w3.heap.size ≤ k := fun k hk => by
      rcases hv4 with e | e
      · rw [hk] at e; exact .inl e.symm
      · rw [hk] at e
        have h9 : k = w3.heap.size := by simpa using e
        exact .inr (by omega)
    have ss4 := (ss3.app OO.out (fs_lt hs3) hch4 ho4 hl4 0 rfl).less (Cs := [(b6, [v4], 28), (bx, [.pointer (some ⟨p, 0, none⟩)], 23)]) (List.sublist_append_left ([(b6, [v4], 28), (bx, [.pointer (some ⟨p, 0, none⟩)], 23)] : List Bo) [(c7, [.int .i64 xk, .int .i64 xn], 26)])
    have k4 : Kd wD.heap.size w (w4.setCell ⟨b6, 0, none⟩ v4) := by
      have k1 : Kd wD.heap.size w w3 := Kd.of_chg hc3 hs (fun h => h) (fun h => h)
      obtain ⟨o1, _, _, o4, _⟩ := h.off
      have k2 : Kd wD.heap.size w3 w4 := Kd.of_chg hch4 hs3 (fun e => o4 _ e.symm (.inl rfl)) (fun e => o4 _ e.symm (.inr rfl))
      have hs4 : wD.heap.size + 1 < w4.heap.size := by have := hch4.size; omega
      refine (k1.trans k2).trans (Kd.of_chg ((Chg.refl (fun k => k = b6) _).setCell (p := ⟨b6, 0, none⟩) (.inl rfl) _) hs4 (fun e => ?_) (fun e => ?_))
      · exact o1 _ (List.mem_of_getElem? (i := 0) rfl) (.inl e.symm)
      · exact o1 _ (List.mem_of_getElem? (i := 0) rfl) (.inr e.symm)
    have hB4 := (h.dy.at 0 rfl).keep ((hc3.mono (fun _ _ h => h.elim)).trans hch4 (fun i hi => .inl hi)) (fun e => (h.dy.of b6 (.inr (.inr ⟨_, List.mem_of_getElem? (i := 0) rfl, rfl⟩))).2.2.2 e.symm)
    have g8 : w4.cell? ⟨b6, 0, none⟩ = some lv := hB4.cell 0
    have g9 : w4.frozen? ⟨b6, 0, none⟩ = false := hB4.fr 0
    obtain ⟨a4, c4, hf4⟩ := ho4.form
    subst hlf
    rw [List.length_append, List.length_singleton] at hf4
    subst hf4
    have R4 : Hid _ := hr4
    have W3 : Hid _ := hw3
    have S4 : Hid _ := ss4
    have K4 : Hid _ := k4
    have OT : Hid _ := ho
    have CC : Hid _ := hcc
    clear h ho hcc hw3 hc3 hB3 th3 ss3 hr4 ho4 hch4 hv4 hl4 ss4 k4 hB4
    gi_wp2_with (gi_at_builtin; rw [← W3.out]; refine wpListIn_app2 rfl (.tmp 19) (.tmp 21) rfl rfl rfl R4.out ?_)
    refine ⟨K4.out, H.length, hm, v, H, _, out ++ [(xk, xn)], c', S4.out, rfl, hHl, by simp; omega, ?_, CC.out⟩
    rw [List.append_assoc]
    exact OT.out
  case done =>
    rintro w ⟨v, lv, h⟩ hD
    have e8 : w.cell? ⟨b6, 0, none⟩ = some lv := (h.dy.at 0 rfl).cell 0
    obtain ⟨la, lc, hlf⟩ := h.own.form
    subst hlf
    have H2 : Hid _ := h
    have HD : Hid _ := hD
    clear h hD
    go_wp2_with fail
    refine leaves_marks [wD.heap.size] _ (fun d hd => by have h9 : d = wD.heap.size := by simpa using hd
                                                         rw [h9]; exact HD.out) (by simp) (fun w' hw' => ?_)
    obtain ⟨_, _, _, o4, o5⟩ := H2.out.off
    have hw2 : Chg (fun k => k = wD.heap.size) w w' := hw'.mono (fun i _ hi => by simpa using hi)
    refine ⟨.slice la tot.length lc, results_tmp (t := 4) (fn := Try.f20) rfl _ _ _, _, rfl, ?_, fun k hk => H2.out.ll k hk, ?_, ?_⟩
    · rw [← HTO.out]
      exact H2.out.own.keep hw2 (fun k hk e => o4 k hk (.inl e))
    · rw [← HTC.out]
      exact OO.out.keep H2.out.ic hw2 (fun k hk hs => LO.out k (o5 k (.inl hk)) hs)
    · exact H2.out.dy.ch.trans hw2 (fun i hi => .inr (o5 i (.inl hi)))
  case stop =>
    rintro c w h _
    exact h.elim

end Go.Proofs.Ytpkcabbfblhekaa
