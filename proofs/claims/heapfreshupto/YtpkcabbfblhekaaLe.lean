/-
  The walk of Least.
-/
import Derived.Test.YtpkcabbfblhekaaLeB
namespace Go.Proofs.Ytpkcabbfblhekaa
open Go.RowKit Go.Shelf
attribute [local go_sem] Oper.semAt_some

set_option maxRecDepth 100000 in
set_option maxHeartbeats 4000000 in
theorem least_any {W : World} {f : Value} {S : Nat → Prop} {I : Nat → World → Prop} {od : E → E → Int} {one : Nat} (O : Od f S I od one) (h1 : one ≤ 1) (hf : ∀ cs, f ≠ .agg cs) {s : Value} {L : List (Int × Int)} (hL : Ths W s L) (hs : ∀ k, L ≠ [] → s.ownBlock = some k → ¬ S k)
    (n : Int) (kk c : Nat) (hk : (kk : Int) = max (min n L.length) 0) (hl : L.length ≤ 1048576) (hI : I c W) (hc : c ≤ 1125899906842624) :
    Calls Try.prog 21 #[s, .int .i64 n, f] W fun e w' => ∃ v, e = .returned v ∧ OwnT w' v (leastL od L kk) ∧ (∀ k, v.ownBlock = some k → W.heap.size ≤ k) ∧ (∃ c', c' ≤ c + L.length * (2 * dg kk + 1) + kk * (2 * dg kk) ∧ I c' w') ∧ Chg S W w' := by
  obtain ⟨sa, sc, rfl⟩ := hL.form
  have OO : Hid _ := O
  have HL : Hid (Ths _ _ _) := hL
  have HS : Hid _ := hs
  have HI : Hid _ := hI
  have HF : Hid _ := hf
  have hlow : ∀ k, W.heap.size ≤ k → ¬ S k := fun k hk h => by have := O.low hI h; omega
  have LO : Hid _ := hlow
  clear O hL hs hI hlow hf
  refine callsIn_wide.1 (callsIn_of_wp_marks (n := 0) Try.func21 rfl trivial (wpIn_wide.2 ?_))
  simp only [Try.ntmps21, List.size_toArray, List.length_cons, List.length_nil, Nat.reduceAdd, Nat.reduceSub, Array.replicate_succ, Array.replicate_zero, List.push_toArray, List.append_toArray, List.nil_append, List.cons_append]
  by_cases h0 : min n L.length < 1
  · have hk0 : kk = 0 := by omega
    subst hk0
    have fin : ∀ w' : World, Chg (fun _ => False) W w' → ∃ v, Ending.returned (Value.slice none 0 0) = Ending.returned v ∧ OwnT w' v (leastL od L 0) ∧ (∀ k, v.ownBlock = some k → W.heap.size ≤ k) ∧ (∃ c', c' ≤ c + L.length * (2 * dg 0 + 1) ∧ I c' w') ∧ Chg S W w' := fun w' k =>
      ⟨_, rfl, OwnT.nil _, fun k hk => by simp [Value.ownBlock] at hk, ⟨c, by omega, OO.out.keep HI.out k (fun _ h => h.elim)⟩, k.mono (fun _ _ h => h.elim)⟩
    have FIN : Hid _ := fin
    clear fin hk
    have hz : c + L.length * (2 * dg 0 + 1) + 0 * (2 * dg 0) = c + L.length * (2 * dg 0 + 1) := by omega
    rw [hz]
    clear hz
    by_cases hnl : n ≤ L.length
    · have e0 : min n (L.length : Int) = n := by omega
      go_wp2_with fail
      exact ⟨.slice none 0 0, results_tmp (t := 6) (fn := Try.f21) rfl _ _ _, FIN.out _ ((Chg.refl _ _).alloc _)⟩
    · have e0 : min n (L.length : Int) = L.length := by omega
      go_wp2_with fail
      exact ⟨.slice none 0 0, results_tmp (t := 6) (fn := Try.f21) rfl _ _ _, FIN.out _ ((Chg.refl _ _).alloc _)⟩
  · by_cases hnl : n ≤ L.length
    · obtain rfl : n = (kk : Int) := by omega
      have hk1 : 0 < kk := by omega
      have hk1' : ¬ ((kk : Int) < 1) := by omega
      have hkl : kk ≤ L.length := by omega
      have e0 : min (kk : Int) (L.length : Int) = kk := by omega
      clear h0 hk
      have hmk := make_T (W.alloc (.cells #[.int .i64 kk] 3)) kk kk (Nat.le_refl _) (by omega)
      have hcA : Chg (fun _ => False) W (W.alloc (.cells #[.int .i64 kk] 3)) := (Chg.refl _ _).alloc _
      have hown0 := OwnT.made (W.alloc (.cells #[.int .i64 kk] 3)) kk (by omega)
      obtain ⟨w3, hw3⟩ : ∃ w3, w3 = ((W.alloc (.cells #[.int .i64 kk] 3)).alloc (.cells (madeCells #[.int .i64 0, .int .i64 0] (kk * 2)) 26)).alloc (.cells #[.slice (some ⟨W.heap.size + 1, 0, none⟩) kk kk] 28) := ⟨_, rfl⟩
      have hc3 : Chg (fun _ => False) W w3 := by rw [hw3]; exact (((Chg.refl _ _).alloc _).alloc _).alloc _
      have b4 : Blk w3 W.heap.size [.int .i64 kk] 3 := by rw [hw3]; exact ((Blk.made W [.int .i64 kk] 3).alloc _).alloc _
      have b7 : Blk w3 (W.heap.size + 1 + 1) [.slice (some ⟨W.heap.size + 1, 0, none⟩) kk kk] 28 := by
        rw [hw3]
        have := Blk.made ((W.alloc (.cells #[.int .i64 kk] 3)).alloc (.cells (madeCells #[.int .i64 0, .int .i64 0] (kk * 2)) 26)) [.slice (some ⟨W.heap.size + 1, 0, none⟩) kk kk] 28
        rwa [World.size_alloc, World.size_alloc] at this
      rw [World.size_alloc] at hown0
      have own3 : OwnT w3 (.slice (some ⟨W.heap.size + 1, 0, none⟩) kk kk) (List.replicate kk (0, 0)) := by rw [hw3]; exact hown0.keep ((Chg.refl (fun _ => False) _).alloc _) (fun _ _ h => h)
      have hg3 : (Value.slice (some ⟨W.heap.size + 1, 0, none⟩) kk kk).ownBlock = some (W.heap.size + 1) := rfl
      have LBA : Hid _ := V.lb_any OO.out h1 (Ths.keep HL.out hc3 (fun _ _ h => h)) HS.out HF.out kk c hk1 (by omega) hl (OO.out.keep HI.out hc3 (fun _ h => h.elim)) hc
      have ST : Hid (∀ w4 v4, V.LB w3 w4 (w3.heap.size + 1) w3.heap.size kk (c + L.length * (2 * dg kk + 1)) f v4 S I (V.lbF od kk L 0 [] 0).1 (V.lbF od kk L 0 [] 0).2 → V.SV S I W w4 [] [(W.heap.size, [.int .i64 kk], 3), (W.heap.size + 1 + 1, [.slice (some ⟨W.heap.size + 1, 0, none⟩) kk kk], 28)] (w3.heap.size + 1) w3.heap.size f v4 (V.lbF od kk L 0 [] 0).1 (V.lbF od kk L 0 [] 0).2 (.slice (some ⟨W.heap.size + 1, 0, none⟩) kk kk) (List.replicate kk (0, 0)) (c + L.length * (2 * dg kk + 1))) := fun w4 v4 lb =>
        sv_start OO.out HI.out hc3 lb (fun x hx => by
          simp only [List.mem_cons, List.not_mem_nil, or_false] at hx
          rcases hx with rfl | rfl
          · exact b4
          · exact b7) (by simp; omega) (fun x hx => by
          simp only [List.mem_cons, List.not_mem_nil, or_false] at hx
          rcases hx with rfl | rfl
          · exact Nat.le_refl _
          · show W.heap.size ≤ W.heap.size + 1 + 1; omega) own3 (fun k hk => by rw [hg3] at hk; have := Option.some.inj hk; omega) (fun x hx e => by
          simp only [List.mem_cons, List.not_mem_nil, or_false] at hx
          rw [hg3] at e
          have e' := Option.some.inj e
          rcases hx with rfl | rfl
          · have : W.heap.size + 1 = W.heap.size := e'; omega
          · have : W.heap.size + 1 = W.heap.size + 1 + 1 := e'; omega)
      have W3 : Hid _ := hw3
      clear hcA hown0 hw3 hc3 b4 b7 own3 hg3
      go_wp2_with fail
      rw [← W3.out]
      refine Calls.mono LBA.out ?_
      rintro e w4 ⟨v4, rfl, lb4⟩
      have sv5 := (ST.out w4 v4 lb4).box OO.out [.pointer (some ⟨w3.heap.size + 1, 0, none⟩)] 71 (by simp)
      simp only [List.cons_append, List.nil_append] at sv5
      have DR : Hid _ := V.drain_any (w3.heap.size + 1) w4
      have SV5 : Hid _ := sv5
      clear sv5 lb4 LBA ST W3 hmk
      go_wp2_with fail
      refine Calls.mono DR.out ?_
      rintro e w6 ⟨rfl, h6⟩
      subst h6
      clear DR
      go_wp2_with fail
      generalize hpp : w3.heap.size + 1 = p at SV5 ⊢
      generalize hqq : w3.heap.size = q at SV5 ⊢
      generalize hbx : w4.heap.size = bx at SV5 ⊢
      generalize hb7 : W.heap.size + 1 + 1 = b7 at SV5 ⊢
      generalize hgg : W.heap.size + 1 = g at SV5 ⊢
      generalize hb4 : W.heap.size = b4 at SV5 ⊢
      generalize hwD : w4.alloc (.cells #[.pointer (some ⟨p, 0, none⟩)] 71) = wD at SV5 ⊢
      obtain ⟨od', hod⟩ : ∃ od', od' = V.odF (V.odBk od) := ⟨_, rfl⟩
      obtain ⟨H0, hH0⟩ : ∃ H0, H0 = (V.lbF od kk L 0 [] 0).1 := ⟨_, rfl⟩
      obtain ⟨came, hcame⟩ : ∃ came, came = (V.lbF od kk L 0 [] 0).2 := ⟨_, rfl⟩
      obtain ⟨fin, hfin⟩ : ∃ fin, fin = leastL od L kk := ⟨_, rfl⟩
      obtain ⟨tc, htc⟩ : ∃ tc, tc = c + L.length * (2 * dg kk + 1) + (V.drF od' kk H0).2 := ⟨_, rfl⟩
      have hlen0 : H0.length = kk := by rw [hH0, lbF_len od kk L 0 [] 0 (by simp)]; simp; try omega
      have hfin2 : ((V.drF od' kk H0).1.map th2).reverse = fin := by rw [hfin, hod, hH0]; rfl
      have hq4 := dg_le 21 kk (by omega)
      have hq5 : L.length * (2 * dg kk + 1) ≤ 1048576 * 43 := Nat.mul_le_mul hl (by omega)
      have hq3 := V.drF_cost od' kk kk H0 hlen0 (Nat.le_refl _)
      have hq6 : kk * (2 * dg kk) ≤ 1048576 * 42 := Nat.mul_le_mul (by omega) (by omega)
      have htcb : tc ≤ 2251799813685248 := by omega
      have htcc : tc ≤ c + L.length * (2 * dg kk + 1) + kk * (2 * dg kk) := by omega
      rw [← hH0, ← hcame] at SV5
      have SV6 : Hid _ := SV5.out.open
      have LNS : Hid _ := hlen0
      have HTC : Hid _ := htc
      have HTL : Hid _ := htcc
      have HFI : Hid _ := hfin
      have HF2 : Hid _ := hfin2
      have HOD : Hid _ := hod
      clear hH0 hcame hfin htc hlen0 hfin2 hq4 hq5 hq3 hq6 SV5 hpp hqq hbx hb7 hgg hb4 hwD htcc hod
      refine wp_rangeD (α := Int × Int × Int) (V.drn_any bx p) rfl (enters_of Try.func52 (by kernel_rfl) rfl) rfl
        (fun m w => ∃ (v : Value) (H : List V.E) (out : List (Int × Int)) (c' : Nat), V.SV S I W w [wD.heap.size, wD.heap.size + 1] [(b4, [.int .i64 H.length], 3), (b7, [.slice (some ⟨g, 0, none⟩) kk kk], 28), (bx, [.pointer (some ⟨p, 0, none⟩)], 71)] p q f v H came (.slice (some ⟨g, 0, none⟩) kk kk) out c' ∧ m = H.length ∧ H.length ≤ kk ∧ out.length = kk ∧ ((V.drF od' H.length H).1.map th2).reverse ++ out.drop H.length = fin ∧ c' + (V.drF od' H.length H).2 = tc)
        (fun m x w => ∃ (v : Value) (H : List V.E) (out : List (Int × Int)) (c' : Nat), V.SV S I W w [wD.heap.size, wD.heap.size + 1] [(b4, [.int .i64 ((H.length : Int) + 1)], 3), (b7, [.slice (some ⟨g, 0, none⟩) kk kk], 28), (bx, [.pointer (some ⟨p, 0, none⟩)], 71)] p q f v H came (.slice (some ⟨g, 0, none⟩) kk kk) out c' ∧ H.length < m ∧ H.length < kk ∧ out.length = kk ∧ ((V.drF od' H.length H).1.map th2).reverse ++ th2 x :: out.drop (H.length + 1) = fin ∧ c' + (V.drF od' H.length H).2 = tc)
        (fun m x b w => ∃ c8 : Nat, b = { tmps := #[.slice sa L.length sc, .int .i64 (kk : Int), f, undef, .pointer (some ⟨b4, 0, none⟩), undef, .slice none 0 0, .pointer (some ⟨b7, 0, none⟩), .pointer (some ⟨c8, 0, none⟩), .int .i64 (kk : Int), .slice sa L.length sc, .int .i64 L.length, .int .i64 kk, .int .i64 kk, .bool false, .int .i64 kk, .slice (some ⟨g, 0, none⟩) kk kk, .slice sa L.length sc, .int .i64 kk, f, .pointer (some ⟨p, 0, none⟩), .func (.func 52) #[] #[.pointer (some ⟨bx, 0, none⟩)], .agg #[.int .i64 x.1, .int .i64 x.2.1, .int .i64 x.2.2], undef, undef, undef, undef, undef, undef, undef, undef], defers := [] } ∧
          ∃ (v : Value) (H : List V.E) (out : List (Int × Int)) (c' : Nat), V.SV S I W w [wD.heap.size, wD.heap.size + 1] [(b4, [.int .i64 ((H.length : Int) + 1)], 3), (b7, [.slice (some ⟨g, 0, none⟩) kk kk], 28), (bx, [.pointer (some ⟨p, 0, none⟩)], 71), (c8, [.int .i64 x.1, .int .i64 x.2.1, .int .i64 x.2.2], 63)] p q f v H came (.slice (some ⟨g, 0, none⟩) kk kk) out c' ∧ H.length < m ∧ H.length < kk ∧ out.length = kk ∧ ((V.drF od' H.length H).1.map th2).reverse ++ th2 x :: out.drop (H.length + 1) = fin ∧ c' + (V.drF od' H.length H).2 = tc)
        (fun w => ∃ v : Value, V.SV S I W w [wD.heap.size, wD.heap.size + 1] [(b4, [.int .i64 (0 : Nat)], 3), (b7, [.slice (some ⟨g, 0, none⟩) kk kk], 28), (bx, [.pointer (some ⟨p, 0, none⟩)], 71)] p q f v [] came (.slice (some ⟨g, 0, none⟩) kk kk) fin tc)
        (fun _ _ => False)
        (fun m A B hc ⟨v, H, out, c', h, r⟩ => ⟨v, H, out, c', h.st OO.out hc, r⟩)
        (fun m x A B hc ⟨v, H, out, c', h, r⟩ => ⟨v, H, out, c', h.st OO.out hc, r⟩)
        (fun m x b A B hc ⟨c8, eb, v, H, out, c', h, r⟩ => ⟨c8, eb, v, H, out, c', h.st OO.out hc, r⟩)
        (fun A B hc ⟨v, h⟩ => ⟨v, h.st OO.out hc⟩)
        (fun _ _ _ _ h => h)
        (fun m w ⟨v, H, out, c', h, _⟩ => (h.dy.at 2 rfl).cell 0) _ ⟨_, H0, _, _, by rw [LNS.out]; exact SV6.out, rfl, by rw [LNS.out]; exact Nat.le_refl _, by simp, by rw [LNS.out]; simpa using HF2.out, by rw [LNS.out, HTC.out]⟩ ?pop ?assign ?body ?done ?stop
      case pop =>
        rintro m w ⟨v, H, out, c', h, rfl, hHl, hol, ho, hcc⟩ hs
        refine (h.pop OO.out h1 hs (by omega) (by omega)).mono ?_
        rw [← HOD.out]
        rintro e w' ⟨kd, ⟨x, rfl, v', m, hm, hx, ss⟩ | ⟨x, rfl, rfl, ss⟩⟩
        · have hpl : (V.popF od' H).1.length = m := by rw [V.popF_len]; omega
          have hle : (H.length : Int) = ((V.popF od' H).1.length : Int) + 1 := by rw [hpl]; omega
          rw [hle] at ss
          refine ⟨kd, .inl ⟨x, rfl, v', _, out, _, ss, by omega, by omega, hol, ?_, ?_⟩⟩
          · rw [hpl, ← ho, hm, hx]
            show _ = ((th2 (V.nth H 0).th :: (V.drF od' m (V.popF od' H).1).1.map th2)).reverse ++ _
            rw [List.reverse_cons, List.append_assoc]
            rfl
          · rw [hpl, ← hcc, hm]
            show _ = c' + ((V.popF od' H).2 + (V.drF od' m (V.popF od' H).1).2)
            omega
        · have ho' : out = fin := by rw [← ho]; simp [V.drF]
          have hcc' : c' = tc := by rw [← hcc]; simp [V.drF]
          subst ho'
          subst hcc'
          exact ⟨kd, .inr ⟨x, rfl, v, ss⟩⟩
      case assign =>
        rintro l m x w ⟨v, H, out, c', h, r⟩ hs
        have H2 : Hid _ := h
        have HR : Hid _ := r
        clear h r
        unfold V.two
        gi_wp2
        have h2 := H2.out.box OO.out [.int .i64 x.1, .int .i64 x.2.1, .int .i64 x.2.2] 63 (fs_lt hs)
        exact ⟨Kd.of_chg ((Chg.refl (fun _ => False) _).alloc _) hs (fun h => h) (fun h => h), _, rfl, v, H, out, c', h2, HR.out⟩
      case body =>
        rintro l m ⟨xk, xn, xi⟩ b w ⟨c8, rfl, v, H, out, c', h, hm, hHl, hol, ho, hcc⟩ hs
        have a0 : w.cell? ⟨b4, 0, none⟩ = some (.int .i64 ((H.length : Int) + 1)) := (h.dy.at 0 rfl).cell 0
        have a1 : w.frozen? ⟨b4, 0, none⟩ = false := (h.dy.at 0 rfl).fr 0
        have s1 := h.store OO.out 0 (o := 0) rfl (.int .i64 H.length)
        simp only [List.set_cons_zero] at s1
        have k1 : Kd wD.heap.size w (w.setCell ⟨b4, 0, none⟩ (.int .i64 H.length)) := by
          obtain ⟨o1, _, _, _, _⟩ := h.off
          refine Kd.of_chg ((Chg.refl (fun k => k = b4) _).setCell (p := ⟨b4, 0, none⟩) (.inl rfl) _) hs (fun e => ?_) (fun e => ?_)
          · exact o1 _ (List.mem_of_getElem? (i := 0) rfl) (.inl e.symm)
          · exact o1 _ (List.mem_of_getElem? (i := 0) rfl) (.inr e.symm)
        have hs1 : wD.heap.size + 1 < (w.setCell ⟨b4, 0, none⟩ (.int .i64 H.length)).heap.size := by simpa using hs
        generalize hw1 : w.setCell ⟨b4, 0, none⟩ (.int .i64 H.length) = w1 at s1 k1 hs1
        have x0 : w1.cell? ⟨c8, 0, none⟩ = some (.int .i64 xk) := (s1.dy.at 3 rfl).cell 0
        have x1 : w1.cell? ⟨c8, 1, none⟩ = some (.int .i64 xn) := (s1.dy.at 3 rfl).cell 1
        have n1 : w1.cell? ⟨b4, 0, none⟩ = some (.int .i64 H.length) := (s1.dy.at 0 rfl).cell 0
        have l1 : w1.cell? ⟨b7, 0, none⟩ = some (.slice (some ⟨g, 0, none⟩) kk kk) := (s1.dy.at 1 rfl).cell 0
        have s1' : V.SV S I W w1 [wD.heap.size, wD.heap.size + 1] [(b4, [.int .i64 H.length], 3), (b7, [.slice (some ⟨g, 0, none⟩) kk kk], 28), (bx, [.pointer (some ⟨p, 0, none⟩)], 71), (c8, [.int .i64 xk, .int .i64 xn, .int .i64 xi], 63)] p q f v H came (.slice (some ⟨g, 0, none⟩) out.length kk) out c' := by rw [hol]; exact s1
        obtain ⟨gb, gc, hgv, _, _, hcel⟩ := s1'.own.at (i := H.length) (by omega)
        injection hgv with hgv hz1 hz2
        injection hgv with hgv
        injection hgv with hgv hz3 hz4
        clear hz1 hz2 hz3 hz4
        subst hgv
        obtain ⟨y0, y1⟩ := hcel H.length (by omega)
        rw [Nat.zero_add] at y0 y1
        have f0 := s1'.own.frz (H.length * 2)
        have f1 := s1'.own.frz (H.length * 2 + 1)
        obtain ⟨s2, kg⟩ := s1'.put OO.out H.length (by omega) (xk, xn)
        have k2 : Kd wD.heap.size w ((w1.setCell ⟨g, H.length * 2, none⟩ (.int .i64 xk)).setCell ⟨g, H.length * 2 + 1, none⟩ (.int .i64 xn)) := by
          obtain ⟨_, _, _, o4, _⟩ := s1'.off
          exact k1.trans (Kd.of_chg kg hs1 (fun e => o4 g rfl (.inl e.symm)) (fun e => o4 g rfl (.inr e.symm)))
        have hHi : (H.length : Int) < (kk : Int) := by omega
        rw [hol] at s2
        have W1 : Hid _ := hw1
        have S2 : Hid _ := s2.less (Cs := [(b4, [.int .i64 H.length], 3), (b7, [.slice (some ⟨g, 0, none⟩) kk kk], 28), (bx, [.pointer (some ⟨p, 0, none⟩)], 71)]) (List.sublist_append_left ([(b4, [.int .i64 H.length], 3), (b7, [.slice (some ⟨g, 0, none⟩) kk kk], 28), (bx, [.pointer (some ⟨p, 0, none⟩)], 71)] : List Bo) [(c8, [.int .i64 xk, .int .i64 xn, .int .i64 xi], 63)])
        have K2 : Hid _ := k2
        have OT : Hid _ := ho
        have CC : Hid _ := hcc
        have OL : Hid _ := hol
        clear h ho hcc s1 k1 hw1 s1' hcel s2 kg k2 hol
        gi_wp2_with (rw [W1.out])
        refine ⟨K2.out, H.length, hm, v, H, out.set H.length (xk, xn), c', S2.out, rfl, by omega, by rw [List.length_set]; exact OL.out, ?_, CC.out⟩
        exact fill_step (by rw [OL.out]; exact hHl) OT.out
      case done =>
        rintro w ⟨v, h⟩ hD
        have e8 : w.cell? ⟨b7, 0, none⟩ = some (.slice (some ⟨g, 0, none⟩) kk kk) := (h.dy.at 1 rfl).cell 0
        have H2 : Hid _ := h
        have HD : Hid _ := hD
        clear h hD
        go_wp2_with fail
        refine leaves_marks [wD.heap.size] _ (fun d hd => by have h9 : d = wD.heap.size := by simpa using hd
                                                             rw [h9]; exact HD.out) (by simp) (fun w' hw' => ?_)
        obtain ⟨_, _, _, o4, o5⟩ := H2.out.off
        have hw2 : Chg (fun k => k = wD.heap.size) w w' := hw'.mono (fun i _ hi => by simpa using hi)
        obtain ⟨⟨c0, i1, i2⟩, _⟩ := H2.out.ic
        refine ⟨.slice (some ⟨g, 0, none⟩) kk kk, results_tmp (t := 6) (fn := Try.f21) rfl _ _ _, _, rfl, ?_, fun k hk => H2.out.ll k hk, ⟨c0, Nat.le_trans i1 HTL.out, OO.out.keep i2 hw2 (fun k hk hs => LO.out k (o5 k (.inl hk)) hs)⟩, H2.out.dy.ch.trans hw2 (fun i hi => .inr (o5 i (.inl hi)))⟩
        rw [← HFI.out]
        exact H2.out.own.keep hw2 (fun k hk e => o4 k hk (.inl e))
      case stop =>
        rintro c w h _
        exact h.elim
    · obtain rfl : kk = L.length := by omega
      have hk1 : 0 < L.length := by omega
      have hk1' : ¬ ((L.length : Int) < 1) := by omega
      have hkl : L.length ≤ L.length := Nat.le_refl _
      have e0 : min n (L.length : Int) = L.length := by omega
      clear h0 hk
      have hmk := make_T (W.alloc (.cells #[.int .i64 L.length] 3)) L.length L.length (Nat.le_refl _) (by omega)
      have hcA : Chg (fun _ => False) W (W.alloc (.cells #[.int .i64 L.length] 3)) := (Chg.refl _ _).alloc _
      have hown0 := OwnT.made (W.alloc (.cells #[.int .i64 L.length] 3)) L.length (by omega)
      obtain ⟨w3, hw3⟩ : ∃ w3, w3 = ((W.alloc (.cells #[.int .i64 L.length] 3)).alloc (.cells (madeCells #[.int .i64 0, .int .i64 0] (L.length * 2)) 26)).alloc (.cells #[.slice (some ⟨W.heap.size + 1, 0, none⟩) L.length L.length] 28) := ⟨_, rfl⟩
      have hc3 : Chg (fun _ => False) W w3 := by rw [hw3]; exact (((Chg.refl _ _).alloc _).alloc _).alloc _
      have b4 : Blk w3 W.heap.size [.int .i64 L.length] 3 := by rw [hw3]; exact ((Blk.made W [.int .i64 L.length] 3).alloc _).alloc _
      have b7 : Blk w3 (W.heap.size + 1 + 1) [.slice (some ⟨W.heap.size + 1, 0, none⟩) L.length L.length] 28 := by
        rw [hw3]
        have := Blk.made ((W.alloc (.cells #[.int .i64 L.length] 3)).alloc (.cells (madeCells #[.int .i64 0, .int .i64 0] (L.length * 2)) 26)) [.slice (some ⟨W.heap.size + 1, 0, none⟩) L.length L.length] 28
        rwa [World.size_alloc, World.size_alloc] at this
      rw [World.size_alloc] at hown0
      have own3 : OwnT w3 (.slice (some ⟨W.heap.size + 1, 0, none⟩) L.length L.length) (List.replicate L.length (0, 0)) := by rw [hw3]; exact hown0.keep ((Chg.refl (fun _ => False) _).alloc _) (fun _ _ h => h)
      have hg3 : (Value.slice (some ⟨W.heap.size + 1, 0, none⟩) L.length L.length).ownBlock = some (W.heap.size + 1) := rfl
      have LBA : Hid _ := V.lb_any OO.out h1 (Ths.keep HL.out hc3 (fun _ _ h => h)) HS.out HF.out L.length c hk1 (by omega) hl (OO.out.keep HI.out hc3 (fun _ h => h.elim)) hc
      have ST : Hid (∀ w4 v4, V.LB w3 w4 (w3.heap.size + 1) w3.heap.size L.length (c + L.length * (2 * dg L.length + 1)) f v4 S I (V.lbF od L.length L 0 [] 0).1 (V.lbF od L.length L 0 [] 0).2 → V.SV S I W w4 [] [(W.heap.size, [.int .i64 L.length], 3), (W.heap.size + 1 + 1, [.slice (some ⟨W.heap.size + 1, 0, none⟩) L.length L.length], 28)] (w3.heap.size + 1) w3.heap.size f v4 (V.lbF od L.length L 0 [] 0).1 (V.lbF od L.length L 0 [] 0).2 (.slice (some ⟨W.heap.size + 1, 0, none⟩) L.length L.length) (List.replicate L.length (0, 0)) (c + L.length * (2 * dg L.length + 1))) := fun w4 v4 lb =>
        sv_start OO.out HI.out hc3 lb (fun x hx => by
          simp only [List.mem_cons, List.not_mem_nil, or_false] at hx
          rcases hx with rfl | rfl
          · exact b4
          · exact b7) (by simp; omega) (fun x hx => by
          simp only [List.mem_cons, List.not_mem_nil, or_false] at hx
          rcases hx with rfl | rfl
          · exact Nat.le_refl _
          · show W.heap.size ≤ W.heap.size + 1 + 1; omega) own3 (fun k hk => by rw [hg3] at hk; have := Option.some.inj hk; omega) (fun x hx e => by
          simp only [List.mem_cons, List.not_mem_nil, or_false] at hx
          rw [hg3] at e
          have e' := Option.some.inj e
          rcases hx with rfl | rfl
          · have : W.heap.size + 1 = W.heap.size := e'; omega
          · have : W.heap.size + 1 = W.heap.size + 1 + 1 := e'; omega)
      have W3 : Hid _ := hw3
      clear hcA hown0 hw3 hc3 b4 b7 own3 hg3
      go_wp2_with fail
      rw [← W3.out]
      refine Calls.mono LBA.out ?_
      rintro e w4 ⟨v4, rfl, lb4⟩
      have sv5 := (ST.out w4 v4 lb4).box OO.out [.pointer (some ⟨w3.heap.size + 1, 0, none⟩)] 71 (by simp)
      simp only [List.cons_append, List.nil_append] at sv5
      have DR : Hid _ := V.drain_any (w3.heap.size + 1) w4
      have SV5 : Hid _ := sv5
      clear sv5 lb4 LBA ST W3 hmk
      go_wp2_with fail
      refine Calls.mono DR.out ?_
      rintro e w6 ⟨rfl, h6⟩
      subst h6
      clear DR
      go_wp2_with fail
      generalize hpp : w3.heap.size + 1 = p at SV5 ⊢
      generalize hqq : w3.heap.size = q at SV5 ⊢
      generalize hbx : w4.heap.size = bx at SV5 ⊢
      generalize hb7 : W.heap.size + 1 + 1 = b7 at SV5 ⊢
      generalize hgg : W.heap.size + 1 = g at SV5 ⊢
      generalize hb4 : W.heap.size = b4 at SV5 ⊢
      generalize hwD : w4.alloc (.cells #[.pointer (some ⟨p, 0, none⟩)] 71) = wD at SV5 ⊢
      obtain ⟨od', hod⟩ : ∃ od', od' = V.odF (V.odBk od) := ⟨_, rfl⟩
      obtain ⟨H0, hH0⟩ : ∃ H0, H0 = (V.lbF od L.length L 0 [] 0).1 := ⟨_, rfl⟩
      obtain ⟨came, hcame⟩ : ∃ came, came = (V.lbF od L.length L 0 [] 0).2 := ⟨_, rfl⟩
      obtain ⟨fin, hfin⟩ : ∃ fin, fin = leastL od L L.length := ⟨_, rfl⟩
      obtain ⟨tc, htc⟩ : ∃ tc, tc = c + L.length * (2 * dg L.length + 1) + (V.drF od' L.length H0).2 := ⟨_, rfl⟩
      have hlen0 : H0.length = L.length := by rw [hH0, lbF_len od L.length L 0 [] 0 (by simp)]; simp; try omega
      have hfin2 : ((V.drF od' L.length H0).1.map th2).reverse = fin := by rw [hfin, hod, hH0]; rfl
      have hq4 := dg_le 21 L.length (by omega)
      have hq5 : L.length * (2 * dg L.length + 1) ≤ 1048576 * 43 := Nat.mul_le_mul hl (by omega)
      have hq3 := V.drF_cost od' L.length L.length H0 hlen0 (Nat.le_refl _)
      have hq6 : L.length * (2 * dg L.length) ≤ 1048576 * 42 := Nat.mul_le_mul (by omega) (by omega)
      have htcb : tc ≤ 2251799813685248 := by omega
      have htcc : tc ≤ c + L.length * (2 * dg L.length + 1) + L.length * (2 * dg L.length) := by omega
      rw [← hH0, ← hcame] at SV5
      have SV6 : Hid _ := SV5.out.open
      have LNS : Hid _ := hlen0
      have HTC : Hid _ := htc
      have HTL : Hid _ := htcc
      have HFI : Hid _ := hfin
      have HF2 : Hid _ := hfin2
      have HOD : Hid _ := hod
      clear hH0 hcame hfin htc hlen0 hfin2 hq4 hq5 hq3 hq6 SV5 hpp hqq hbx hb7 hgg hb4 hwD htcc hod
      refine wp_rangeD (α := Int × Int × Int) (V.drn_any bx p) rfl (enters_of Try.func52 (by kernel_rfl) rfl) rfl
        (fun m w => ∃ (v : Value) (H : List V.E) (out : List (Int × Int)) (c' : Nat), V.SV S I W w [wD.heap.size, wD.heap.size + 1] [(b4, [.int .i64 H.length], 3), (b7, [.slice (some ⟨g, 0, none⟩) L.length L.length], 28), (bx, [.pointer (some ⟨p, 0, none⟩)], 71)] p q f v H came (.slice (some ⟨g, 0, none⟩) L.length L.length) out c' ∧ m = H.length ∧ H.length ≤ L.length ∧ out.length = L.length ∧ ((V.drF od' H.length H).1.map th2).reverse ++ out.drop H.length = fin ∧ c' + (V.drF od' H.length H).2 = tc)
        (fun m x w => ∃ (v : Value) (H : List V.E) (out : List (Int × Int)) (c' : Nat), V.SV S I W w [wD.heap.size, wD.heap.size + 1] [(b4, [.int .i64 ((H.length : Int) + 1)], 3), (b7, [.slice (some ⟨g, 0, none⟩) L.length L.length], 28), (bx, [.pointer (some ⟨p, 0, none⟩)], 71)] p q f v H came (.slice (some ⟨g, 0, none⟩) L.length L.length) out c' ∧ H.length < m ∧ H.length < L.length ∧ out.length = L.length ∧ ((V.drF od' H.length H).1.map th2).reverse ++ th2 x :: out.drop (H.length + 1) = fin ∧ c' + (V.drF od' H.length H).2 = tc)
        (fun m x b w => ∃ c8 : Nat, b = { tmps := #[.slice sa L.length sc, .int .i64 n, f, undef, .pointer (some ⟨b4, 0, none⟩), undef, .slice none 0 0, .pointer (some ⟨b7, 0, none⟩), .pointer (some ⟨c8, 0, none⟩), .int .i64 n, .slice sa L.length sc, .int .i64 L.length, .int .i64 L.length, .int .i64 L.length, .bool false, .int .i64 L.length, .slice (some ⟨g, 0, none⟩) L.length L.length, .slice sa L.length sc, .int .i64 L.length, f, .pointer (some ⟨p, 0, none⟩), .func (.func 52) #[] #[.pointer (some ⟨bx, 0, none⟩)], .agg #[.int .i64 x.1, .int .i64 x.2.1, .int .i64 x.2.2], undef, undef, undef, undef, undef, undef, undef, undef], defers := [] } ∧
          ∃ (v : Value) (H : List V.E) (out : List (Int × Int)) (c' : Nat), V.SV S I W w [wD.heap.size, wD.heap.size + 1] [(b4, [.int .i64 ((H.length : Int) + 1)], 3), (b7, [.slice (some ⟨g, 0, none⟩) L.length L.length], 28), (bx, [.pointer (some ⟨p, 0, none⟩)], 71), (c8, [.int .i64 x.1, .int .i64 x.2.1, .int .i64 x.2.2], 63)] p q f v H came (.slice (some ⟨g, 0, none⟩) L.length L.length) out c' ∧ H.length < m ∧ H.length < L.length ∧ out.length = L.length ∧ ((V.drF od' H.length H).1.map th2).reverse ++ th2 x :: out.drop (H.length + 1) = fin ∧ c' + (V.drF od' H.length H).2 = tc)
        (fun w => ∃ v : Value, V.SV S I W w [wD.heap.size, wD.heap.size + 1] [(b4, [.int .i64 (0 : Nat)], 3), (b7, [.slice (some ⟨g, 0, none⟩) L.length L.length], 28), (bx, [.pointer (some ⟨p, 0, none⟩)], 71)] p q f v [] came (.slice (some ⟨g, 0, none⟩) L.length L.length) fin tc)
        (fun _ _ => False)
        (fun m A B hc ⟨v, H, out, c', h, r⟩ => ⟨v, H, out, c', h.st OO.out hc, r⟩)
        (fun m x A B hc ⟨v, H, out, c', h, r⟩ => ⟨v, H, out, c', h.st OO.out hc, r⟩)
        (fun m x b A B hc ⟨c8, eb, v, H, out, c', h, r⟩ => ⟨c8, eb, v, H, out, c', h.st OO.out hc, r⟩)
        (fun A B hc ⟨v, h⟩ => ⟨v, h.st OO.out hc⟩)
        (fun _ _ _ _ h => h)
        (fun m w ⟨v, H, out, c', h, _⟩ => (h.dy.at 2 rfl).cell 0) _ ⟨_, H0, _, _, by rw [LNS.out]; exact SV6.out, rfl, by rw [LNS.out]; exact Nat.le_refl _, by simp, by rw [LNS.out]; simpa using HF2.out, by rw [LNS.out, HTC.out]⟩ ?pop ?assign ?body ?done ?stop
      case pop =>
        rintro m w ⟨v, H, out, c', h, rfl, hHl, hol, ho, hcc⟩ hs
        refine (h.pop OO.out h1 hs (by omega) (by omega)).mono ?_
        rw [← HOD.out]
        rintro e w' ⟨kd, ⟨x, rfl, v', m, hm, hx, ss⟩ | ⟨x, rfl, rfl, ss⟩⟩
        · have hpl : (V.popF od' H).1.length = m := by rw [V.popF_len]; omega
          have hle : (H.length : Int) = ((V.popF od' H).1.length : Int) + 1 := by rw [hpl]; omega
          rw [hle] at ss
          refine ⟨kd, .inl ⟨x, rfl, v', _, out, _, ss, by omega, by omega, hol, ?_, ?_⟩⟩
          · rw [hpl, ← ho, hm, hx]
            show _ = ((th2 (V.nth H 0).th :: (V.drF od' m (V.popF od' H).1).1.map th2)).reverse ++ _
            rw [List.reverse_cons, List.append_assoc]
            rfl
          · rw [hpl, ← hcc, hm]
            show _ = c' + ((V.popF od' H).2 + (V.drF od' m (V.popF od' H).1).2)
            omega
        · have ho' : out = fin := by rw [← ho]; simp [V.drF]
          have hcc' : c' = tc := by rw [← hcc]; simp [V.drF]
          subst ho'
          subst hcc'
          exact ⟨kd, .inr ⟨x, rfl, v, ss⟩⟩
      case assign =>
        rintro l m x w ⟨v, H, out, c', h, r⟩ hs
        have H2 : Hid _ := h
        have HR : Hid _ := r
        clear h r
        unfold V.two
        gi_wp2
        have h2 := H2.out.box OO.out [.int .i64 x.1, .int .i64 x.2.1, .int .i64 x.2.2] 63 (fs_lt hs)
        exact ⟨Kd.of_chg ((Chg.refl (fun _ => False) _).alloc _) hs (fun h => h) (fun h => h), _, rfl, v, H, out, c', h2, HR.out⟩
      case body =>
        rintro l m ⟨xk, xn, xi⟩ b w ⟨c8, rfl, v, H, out, c', h, hm, hHl, hol, ho, hcc⟩ hs
        have a0 : w.cell? ⟨b4, 0, none⟩ = some (.int .i64 ((H.length : Int) + 1)) := (h.dy.at 0 rfl).cell 0
        have a1 : w.frozen? ⟨b4, 0, none⟩ = false := (h.dy.at 0 rfl).fr 0
        have s1 := h.store OO.out 0 (o := 0) rfl (.int .i64 H.length)
        simp only [List.set_cons_zero] at s1
        have k1 : Kd wD.heap.size w (w.setCell ⟨b4, 0, none⟩ (.int .i64 H.length)) := by
          obtain ⟨o1, _, _, _, _⟩ := h.off
          refine Kd.of_chg ((Chg.refl (fun k => k = b4) _).setCell (p := ⟨b4, 0, none⟩) (.inl rfl) _) hs (fun e => ?_) (fun e => ?_)
          · exact o1 _ (List.mem_of_getElem? (i := 0) rfl) (.inl e.symm)
          · exact o1 _ (List.mem_of_getElem? (i := 0) rfl) (.inr e.symm)
        have hs1 : wD.heap.size + 1 < (w.setCell ⟨b4, 0, none⟩ (.int .i64 H.length)).heap.size := by simpa using hs
        generalize hw1 : w.setCell ⟨b4, 0, none⟩ (.int .i64 H.length) = w1 at s1 k1 hs1
        have x0 : w1.cell? ⟨c8, 0, none⟩ = some (.int .i64 xk) := (s1.dy.at 3 rfl).cell 0
        have x1 : w1.cell? ⟨c8, 1, none⟩ = some (.int .i64 xn) := (s1.dy.at 3 rfl).cell 1
        have n1 : w1.cell? ⟨b4, 0, none⟩ = some (.int .i64 H.length) := (s1.dy.at 0 rfl).cell 0
        have l1 : w1.cell? ⟨b7, 0, none⟩ = some (.slice (some ⟨g, 0, none⟩) L.length L.length) := (s1.dy.at 1 rfl).cell 0
        have s1' : V.SV S I W w1 [wD.heap.size, wD.heap.size + 1] [(b4, [.int .i64 H.length], 3), (b7, [.slice (some ⟨g, 0, none⟩) L.length L.length], 28), (bx, [.pointer (some ⟨p, 0, none⟩)], 71), (c8, [.int .i64 xk, .int .i64 xn, .int .i64 xi], 63)] p q f v H came (.slice (some ⟨g, 0, none⟩) out.length L.length) out c' := by rw [hol]; exact s1
        obtain ⟨gb, gc, hgv, _, _, hcel⟩ := s1'.own.at (i := H.length) (by omega)
        injection hgv with hgv hz1 hz2
        injection hgv with hgv
        injection hgv with hgv hz3 hz4
        clear hz1 hz2 hz3 hz4
        subst hgv
        obtain ⟨y0, y1⟩ := hcel H.length (by omega)
        rw [Nat.zero_add] at y0 y1
        have f0 := s1'.own.frz (H.length * 2)
        have f1 := s1'.own.frz (H.length * 2 + 1)
        obtain ⟨s2, kg⟩ := s1'.put OO.out H.length (by omega) (xk, xn)
        have k2 : Kd wD.heap.size w ((w1.setCell ⟨g, H.length * 2, none⟩ (.int .i64 xk)).setCell ⟨g, H.length * 2 + 1, none⟩ (.int .i64 xn)) := by
          obtain ⟨_, _, _, o4, _⟩ := s1'.off
          exact k1.trans (Kd.of_chg kg hs1 (fun e => o4 g rfl (.inl e.symm)) (fun e => o4 g rfl (.inr e.symm)))
        have hHi : (H.length : Int) < (L.length : Int) := by omega
        rw [hol] at s2
        have W1 : Hid _ := hw1
        have S2 : Hid _ := s2.less (Cs := [(b4, [.int .i64 H.length], 3), (b7, [.slice (some ⟨g, 0, none⟩) L.length L.length], 28), (bx, [.pointer (some ⟨p, 0, none⟩)], 71)]) (List.sublist_append_left ([(b4, [.int .i64 H.length], 3), (b7, [.slice (some ⟨g, 0, none⟩) L.length L.length], 28), (bx, [.pointer (some ⟨p, 0, none⟩)], 71)] : List Bo) [(c8, [.int .i64 xk, .int .i64 xn, .int .i64 xi], 63)])
        have K2 : Hid _ := k2
        have OT : Hid _ := ho
        have CC : Hid _ := hcc
        have OL : Hid _ := hol
        clear h ho hcc s1 k1 hw1 s1' hcel s2 kg k2 hol
        gi_wp2_with (rw [W1.out])
        refine ⟨K2.out, H.length, hm, v, H, out.set H.length (xk, xn), c', S2.out, rfl, by omega, by rw [List.length_set]; exact OL.out, ?_, CC.out⟩
        exact fill_step (by rw [OL.out]; exact hHl) OT.out
      case done =>
        rintro w ⟨v, h⟩ hD
        have e8 : w.cell? ⟨b7, 0, none⟩ = some (.slice (some ⟨g, 0, none⟩) L.length L.length) := (h.dy.at 1 rfl).cell 0
        have H2 : Hid _ := h
        have HD : Hid _ := hD
        clear h hD
        go_wp2_with fail
        refine leaves_marks [wD.heap.size] _ (fun d hd => by have h9 : d = wD.heap.size := by simpa using hd
                                                             rw [h9]; exact HD.out) (by simp) (fun w' hw' => ?_)
        obtain ⟨_, _, _, o4, o5⟩ := H2.out.off
        have hw2 : Chg (fun k => k = wD.heap.size) w w' := hw'.mono (fun i _ hi => by simpa using hi)
        obtain ⟨⟨c0, i1, i2⟩, _⟩ := H2.out.ic
        refine ⟨.slice (some ⟨g, 0, none⟩) L.length L.length, results_tmp (t := 6) (fn := Try.f21) rfl _ _ _, _, rfl, ?_, fun k hk => H2.out.ll k hk, ⟨c0, Nat.le_trans i1 HTL.out, OO.out.keep i2 hw2 (fun k hk hs => LO.out k (o5 k (.inl hk)) hs)⟩, H2.out.dy.ch.trans hw2 (fun i hi => .inr (o5 i (.inl hi)))⟩
        rw [← HFI.out]
        exact H2.out.own.keep hw2 (fun k hk e => o4 k hk (.inl e))
      case stop =>
        rintro c w h _
        exact h.elim

end Go.Proofs.Ytpkcabbfblhekaa
