/-
  Pop.
-/
import Derived.Test.YtpkcabbfblhekaaVPop
import Derived.Deep.CutRange
namespace Go.Proofs.Ytpkcabbfblhekaa.V
open Go.RowKit

theorem sets3' (w : World) (g o : Nat) (e : E) : w.setCells g o e.cells = (((w.setCell ⟨g, o, none⟩ (.int .i64 e.k)).setCell ⟨g, o + 1, none⟩ (.int .i64 e.n)).setCell ⟨g, o + 2, none⟩ (.int .i64 e.i)).setCell ⟨g, o + 3, none⟩ (.int .i64 e.num) := rfl

theorem Hp.put {w : World} {p : Nat} {f : Value} {g n cap : Nat} {H : List E} {sp : List Value} {came : Nat} (h : Hp w p f g n cap H sp came) {i : Nat} (hi : i < n) (e : E) :
    Hp ((((w.setCell ⟨g, i * 4, none⟩ (.int .i64 e.k)).setCell ⟨g, i * 4 + 1, none⟩ (.int .i64 e.n)).setCell ⟨g, i * 4 + 2, none⟩ (.int .i64 e.i)).setCell ⟨g, i * 4 + 3, none⟩ (.int .i64 e.num)) p f g n cap (H.set i e) sp came ∧
      Chg (fun k => k = g) w ((((w.setCell ⟨g, i * 4, none⟩ (.int .i64 e.k)).setCell ⟨g, i * 4 + 1, none⟩ (.int .i64 e.n)).setCell ⟨g, i * 4 + 2, none⟩ (.int .i64 e.i)).setCell ⟨g, i * 4 + 3, none⟩ (.int .i64 e.num)) := by
  have hl : (rowE H ++ sp).length = cap * 4 := by rw [List.length_append, rowE_len, h.len, h.spl]
  have hcap : n ≤ cap := by have := h.spl; omega
  obtain ⟨b1, k1⟩ := Blk.setCells e.cells (i * 4) w _ h.row (by rw [hl, E.cells_len]; omega)
  rw [rowE_set H sp i _ (by rw [h.len]; exact hi)] at b1
  rw [sets3'] at b1 k1
  exact ⟨⟨h.blk.keep k1 (fun e => h.ne e.symm), b1, by rw [List.length_set, h.len], h.spl, h.ne, h.cl⟩, k1⟩

set_option maxRecDepth 100000 in
theorem pop_none {w : World} {p : Nat} {f v : Value} {came : Nat} (h : Hq w p f v [] came) :
    Calls Try.prog 53 #[.pointer (some ⟨p, 0, none⟩)] w fun e w' => e = .returned (.tuple #[two (0, 0, 0), .bool false]) ∧ Chg (fun _ => False) w w' := by
  have hk := h.keep ((Chg.refl (fun _ => False) w).alloc (.cells #[.int .i64 0, .int .i64 0, .int .i64 0] 63)) (fun h => h) (fun _ _ h => h)
  have HP : Hid _ := peek_none hk
  clear h hk
  unfold two at HP ⊢
  go_enter Try.func53, Try.ntmps53
  go_wp2_with (go_at_call 48; refine Calls.mono HP.out ?_; rintro e w2 ⟨rfl, ch2⟩; have C2 : Hid _ := ch2; have sz2 := ch2.size; have k2 : w2.cell? ⟨w.heap.size, 0, none⟩ = some (.int .i64 0) := ((Blk.made w [.int .i64 0, .int .i64 0, .int .i64 0] 63).keep ch2 (fun h => h)).cell 0; have k3 : w2.cell? ⟨w.heap.size, 1, none⟩ = some (.int .i64 0) := ((Blk.made w [.int .i64 0, .int .i64 0, .int .i64 0] 63).keep ch2 (fun h => h)).cell 1;  have k4 : w2.cell? ⟨w.heap.size, 2, none⟩ = some (.int .i64 0) := ((Blk.made w [.int .i64 0, .int .i64 0, .int .i64 0] 63).keep ch2 (fun h => h)).cell 2; have z4 := ((Blk.made w [.int .i64 0, .int .i64 0, .int .i64 0] 63).keep ch2 (fun h => h)).fr 2; have z2 := ((Blk.made w [.int .i64 0, .int .i64 0, .int .i64 0] 63).keep ch2 (fun h => h)).fr 0; have z3 := ((Blk.made w [.int .i64 0, .int .i64 0, .int .i64 0] 63).keep ch2 (fun h => h)).fr 1; have lt2 : w.heap.size < w2.heap.size := ((Blk.made w [.int .i64 0, .int .i64 0, .int .i64 0] 63).keep ch2 (fun h => h)).lt; clear ch2)
  refine bodyPost_ret (results_row2 (t := 63) rfl _ _ w.heap.size [.int .i64 0, .int .i64 0, .int .i64 0] _ _ rfl ?_ Try.underlying63 rfl sz26 rfl) rfl ?_
  · exact ((((((Blk.made w [.int .i64 0, .int .i64 0, .int .i64 0] 63).keep C2.out (fun h => h)).set 0 (.int .i64 0)).set 1 (.int .i64 0)).set 2 (.int .i64 0)).alloc _)
  · have h0 : Chg (fun _ => False) w w2 := ((Chg.refl (fun _ => False) w).alloc _).trans C2.out (fun _ h => h.elim)
    exact ⟨rfl, (((h0.setCell (p := ⟨w.heap.size, 0, none⟩) (.inr (Nat.le_refl _)) _).setCell (p := ⟨w.heap.size, 1, none⟩) (.inr (Nat.le_refl _)) _).setCell (p := ⟨w.heap.size, 2, none⟩) (.inr (Nat.le_refl _)) _).alloc _⟩

set_option maxRecDepth 100000 in
set_option maxHeartbeats 2000000 in
theorem pop_some {w : World} {p : Nat} {f : Value} {g n cap : Nat} {H : List E} {sp : List Value} {came : Nat} {S : Nat → Prop} {I : Nat → World → Prop} {od : E → E → Int} {one : Nat} (O : Od f S I od one)
    (h : Hp w p f g n cap H sp came) (hp : ¬ S p) (hg : ¬ S g) (c m : Nat) (hm : n = m + 1) (hn : n ≤ 1099511627776) (hI : I c w) (hc : c + 2 * n + 2 < 4611686018427387904) (h1 : one ≤ 1) :
    Calls Try.prog 53 #[.pointer (some ⟨p, 0, none⟩)] w fun e w' => e = .returned (.tuple #[two (nth H 0).th, .bool true]) ∧
      (∃ v, Hq w' p f v (popF od H).1 came ∧ (∀ k, v.ownBlock = some k → k = g ∨ w.heap.size ≤ k)) ∧ I (c + one * (popF od H).2) w' ∧ Chg (fun k => k = p ∨ k = g ∨ S k) w w' := by
  subst hm
  obtain ⟨a, ha⟩ : ∃ a, (nth H 0).th = a := ⟨_, rfl⟩
  have hlen : Hid (H.length = m + 1) := h.len
  obtain ⟨w1, hw1⟩ : ∃ w1, w1 = w.alloc (.cells #[.int .i64 0, .int .i64 0, .int .i64 0] 63) := ⟨_, rfl⟩
  have hc1 : Chg (fun _ => False) w w1 := by rw [hw1]; exact (Chg.refl _ _).alloc _
  have hR1 : Blk w1 w.heap.size [.int .i64 0, .int .i64 0, .int .i64 0] 63 := by rw [hw1]; exact Blk.made w [.int .i64 0, .int .i64 0, .int .i64 0] 63
  have hk := h.keep hc1 (fun h => h) (fun h => h)
  have PK := peek_some hk (by omega)
  rw [ha] at PK
  obtain ⟨ak, an, ai⟩ := a
  have HP : Hid _ := PK
  have HK : Hid _ := hk
  have HI : Hid (I c w1) := O.keep hI hc1 (fun _ h => h.elim)
  have OO : Hid _ := O
  have hne : g ≠ p := h.ne
  have hltp : p < w.heap.size := h.blk.lt
  have hltg : g < w.heap.size := h.row.lt
  have hSw : ¬ S w.heap.size := fun hs => Nat.lt_irrefl _ (O.low hI hs)
  have NP : Hid _ := hp
  have NG : Hid _ := hg
  have HS : Hid _ := hSw
  have HA : Hid _ := ha
  have C1 : Hid _ := hc1
  have R1 : Hid _ := hR1
  have W1 : Hid _ := hw1
  clear PK hk O hI hp hg ha hc1 hR1 h hSw hw1
  unfold two at HP ⊢
  rw [HA.out]
  go_enter Try.func53, Try.ntmps53
  go_wp2_with fail
  rw [← W1.out]
  refine Calls.mono HP.out ?_
  rintro e w2 ⟨rfl, ch2⟩
  have HK2 := Hp.keep HK.out ch2 (fun h => h) (fun h => h)
  have R2 := Blk.keep R1.out ch2 (fun h => h)
  have C2 : Hid (Chg (fun _ => False) w w2) := C1.out.trans ch2 (fun _ h => h.elim)
  have I2 : Hid (I c w2) := OO.out.keep HI.out ch2 (fun _ h => h.elim)
  have HSF : Hid (¬ S w2.heap.size) := fun hs => Nat.lt_irrefl _ (OO.out.low I2.out hs)
  have lt2 : w.heap.size < w2.heap.size := R2.lt
  have ltp2 : p < w2.heap.size := by omega
  have ltg2 : g < w2.heap.size := by omega
  have q1 : w2.cell? ⟨p, 1, none⟩ = some (.slice (some ⟨g, 0, none⟩) (m + 1) cap) := HK2.blk.cell 1
  have H2 : Hid _ := HK2
  have RR : Hid _ := R2
  clear ch2 HK2 R2 HP HK C1 R1 W1 HI
  go_upto_region 5 with fail
  -- the last thing goes to the first place
  obtain ⟨w3, hw3⟩ : ∃ w3, w3 = w2.alloc (.cells #[.int .i64 ak, .int .i64 an, .int .i64 ai] 63) := ⟨_, rfl⟩
  rw [← hw3]
  have hc3 : Chg (fun _ => False) w2 w3 := by rw [hw3]; exact (Chg.refl _ _).alloc _
  have hF3 : Blk w3 w2.heap.size [.int .i64 ak, .int .i64 an, .int .i64 ai] 63 := by rw [hw3]; exact Blk.made w2 [.int .i64 ak, .int .i64 an, .int .i64 ai] 63
  have hH3 := Hp.keep H2.out hc3 (fun h => h) (fun h => h)
  have hR3 := Blk.keep RR.out hc3 (fun h => h)
  have I3 : Hid (I c w3) := OO.out.keep I2.out hc3 (fun _ h => h.elim)
  have C3 : Hid (Chg (fun k => k = p ∨ k = g ∨ S k) w w3) := (C2.out.trans hc3 (fun _ h => h.elim)).mono (fun _ _ h => h.elim)
  have q3 : w3.cell? ⟨p, 1, none⟩ = some (.slice (some ⟨g, 0, none⟩) (m + 1) cap) := hH3.blk.cell 1
  obtain ⟨b, hb⟩ : ∃ b, nth H m = b := ⟨_, rfl⟩
  obtain ⟨x0, x1, x2, x3⟩ := rowE_at H sp m (by rw [hlen.out]; omega)
  obtain ⟨y0, y1, y2, y3⟩ := rowE_at H sp 0 (by rw [hlen.out]; omega)
  rw [← hH3.row.cell] at x0 x1 x2 x3 y0 y1 y2 y3
  rw [hb] at x0 x1 x2 x3
  rw [Nat.zero_mul] at y0
  rw [Nat.zero_mul, Nat.zero_add] at y1 y2 y3
  have f0 := hH3.row.fr 0
  have f1 := hH3.row.fr 1
  have f2 := hH3.row.fr 2
  have f3 := hH3.row.fr 3
  obtain ⟨hH4, hc4⟩ := Hp.put hH3.drew (Nat.succ_pos m) b
  simp only [Nat.zero_mul, Nat.zero_add, setCell_drewV'] at hH4 hc4
  have H4 : Hid _ := hH4
  have C4 : Hid _ := hc4
  have F3 : Hid _ := hF3
  have R3 : Hid _ := hR3
  have HB : Hid _ := hb
  clear hH4 hc4 hH3 hF3 hR3 hc3 hw3 H2 RR I2 C2 q1 hb
  go_region
  obtain ⟨w4, hw4⟩ : ∃ w4, w4 = ((((w3.setCell ⟨g, 0, none⟩ (.int .i64 b.k)).setCell ⟨g, 1, none⟩ (.int .i64 b.n)).setCell ⟨g, 2, none⟩ (.int .i64 b.i)).setCell ⟨g, 3, none⟩ (.int .i64 b.num)).drew := ⟨_, rfl⟩
  rw [← hw4]
  rw [← hw4] at H4 C4
  have hH4 := H4.out
  have hC4 : Chg (fun k => k = g) w3 w4 := ((Chg.refl _ w3).drew).trans C4.out (fun _ h => .inl h)
  have hl4 : (H.set 0 b).length = m + 1 := by rw [List.length_set]; exact hlen.out
  have I4 : Hid (I c w4) := OO.out.keep I3.out hC4 (fun k hk hs => NG.out (hk ▸ hs))
  have CC4 : Hid (Chg (fun k => k = p ∨ k = g ∨ S k) w w4) := C3.out.trans hC4 (fun _ h => .inl (.inr (.inl h)))
  have F4 : Hid _ := Blk.keep F3.out hC4 (fun e => by omega)
  have R4 : Hid _ := Blk.keep R3.out hC4 (fun e => by omega)
  obtain ⟨u0, u1, u2, u3⟩ := rowE_at (H.set 0 b) sp m (by rw [hl4]; omega)
  rw [← hH4.row.cell] at u0 u1 u2 u3
  have g0 := hH4.row.fr (m * 4)
  have g1 := hH4.row.fr (m * 4 + 1)
  have g2 := hH4.row.fr (m * 4 + 2)
  have g3 := hH4.row.fr (m * 4 + 3)
  have p4 : w4.cell? ⟨p, 1, none⟩ = some (.slice (some ⟨g, 0, none⟩) (m + 1) cap) := hH4.blk.cell 1
  obtain ⟨hH5, hc5⟩ := Hp.put hH4 (Nat.lt_succ_self m) zE
  have H5 : Hid _ := hH5
  have C5 : Hid _ := hc5
  obtain ⟨u, hu⟩ : ∃ u, nth (H.set 0 b) m = u := ⟨_, rfl⟩
  rw [hu] at u0 u1 u2 u3
  have hmc : (m : Int) ≤ (cap : Int) := by have := hH4.spl; omega
  have HL : Hid _ := hl4
  clear hH4 hC4 hH5 hc5 x0 x1 x2 x3 y0 y1 y2 y3 f0 f1 f2 f3 q3 hw4 hu H4 C4 F3 R3 C3 I3 hl4
  go_upto_region 7 with fail
  obtain ⟨w5, hw5⟩ : ∃ w5, w5 = ((((w4.setCell ⟨g, m * 4, none⟩ (.int .i64 0)).setCell ⟨g, m * 4 + 1, none⟩ (.int .i64 0)).setCell ⟨g, m * 4 + 2, none⟩ (.int .i64 0)).setCell ⟨g, m * 4 + 3, none⟩ (.int .i64 0)) := ⟨_, rfl⟩
  rw [← hw5]
  have hH5 : Hp w5 p f g (m + 1) cap ((H.set 0 b).set m zE) sp came := by rw [hw5]; exact H5.out
  have hc5 : Chg (fun k => k = g) w4 w5 := by rw [hw5]; exact C5.out
  have p5 : w5.cell? ⟨p, 1, none⟩ = some (.slice (some ⟨g, 0, none⟩) (m + 1) cap) := hH5.blk.cell 1
  have z5 := hH5.blk.fr 1
  have I5 : Hid (I c w5) := OO.out.keep I4.out hc5 (fun k hk hs => NG.out (hk ▸ hs))
  have CC5 : Hid (Chg (fun k => k = p ∨ k = g ∨ S k) w w5) := CC4.out.trans hc5 (fun _ h => .inl (.inr (.inl h)))
  have F5 : Hid _ := Blk.keep F4.out hc5 (fun e => by omega)
  have R5 : Hid _ := Blk.keep R4.out hc5 (fun e => by omega)
  have K5 : Hid _ := hH5
  clear hH5 hc5 hw5 H5 C5 I4 CC4 F4 R4 u0 u1 u2 u3 g0 g1 g2 g3 p4
  go_wp2_with fail
  obtain ⟨w6, hw6⟩ : ∃ w6, w6 = w5.setCell ⟨p, 1, none⟩ (.slice (some ⟨g, 0, none⟩) m cap) := ⟨_, rfl⟩
  rw [← hw6]
  have hc6 : Chg (fun k => k = p) w5 w6 := by rw [hw6]; exact (Chg.refl (fun k => k = p) _).setCell (p := ⟨p, 1, none⟩) (.inl rfl) _
  have hH6 : Hp w6 p f g m cap (popT H m) (zE.cells ++ sp) came := by
    have k := K5.out
    refine ⟨?_, ?_, ?_, ?_, k.ne, k.cl⟩
    · rw [hw6]; exact k.blk.set 1 _
    · have := k.row.keep hc6 k.ne
      rw [rowE_last (H.set 0 b) sp m HL.out] at this
      unfold popT
      rw [HB.out]
      exact this
    · unfold popT
      rw [List.length_take, List.length_set, hlen.out]; omega
    · have := k.spl
      rw [List.length_append, E.cells_len]; omega
  have SK := sink_any OO.out hH6 NP.out NG.out c (by omega) (OO.out.keep I5.out hc6 (fun k hk hs => NP.out (hk ▸ hs))) (by omega) h1
  have S6 : Hid _ := SK
  have CC6 : Hid (Chg (fun k => k = p ∨ k = g ∨ S k) w w6) := CC5.out.trans hc6 (fun _ h => .inl (.inl h))
  have F6 : Hid _ := Blk.keep F5.out hc6 (fun e => by omega)
  have R6 : Hid _ := Blk.keep R5.out hc6 (fun e => by omega)
  clear SK hH6 hc6 hw6 K5 CC5 F5 R5 p5 z5 I5
  refine Calls.mono S6.out ?_
  rintro e w7 ⟨rfl, hH7, hI7, hc7⟩
  have hSF := HSF.out
  have F7 : Hid _ := Blk.keep F6.out hc7 (fun e => by rcases e with e | e; omega; exact hSF e)
  have R7 : Hid _ := Blk.keep R6.out hc7 (fun e => by rcases e with e | e; omega; exact HS.out e)
  have CC7 : Hid (Chg (fun k => k = p ∨ k = g ∨ S k) w w7) := CC6.out.trans hc7 (fun _ h => .inl (.inr h))
  have H7 : Hid _ := hH7
  have I7 : Hid _ := hI7
  have SH : Hid _ := shrink_any hH7 (by omega)
  have hsz7 : w.heap.size < w7.heap.size := Blk.lt R7.out
  clear hH7 hI7 hc7 hSF S6 CC6 F6 R6
  go_wp2_with fail
  refine Calls.mono SH.out ?_
  rintro e w8 ⟨rfl, ⟨v, hv1, hv2⟩, hc8⟩
  have V1 : Hid _ := hv1
  have V2 : Hid _ := hv2
  have F8 := Blk.keep F7.out hc8 (fun e => by omega)
  have R8 := Blk.keep R7.out hc8 (fun e => by omega)
  have CC8 : Hid (Chg (fun k => k = p ∨ k = g ∨ S k) w w8) := CC7.out.trans hc8 (fun _ h => .inl (.inl h))
  have I8 : Hid _ := OO.out.keep I7.out hc8 (fun k hk hs => NP.out (hk ▸ hs))
  have n0 : w8.cell? ⟨w2.heap.size, 0, none⟩ = some (.int .i64 ak) := F8.cell 0
  have n1 : w8.cell? ⟨w2.heap.size, 1, none⟩ = some (.int .i64 an) := F8.cell 1
  have n2 : w8.cell? ⟨w2.heap.size, 2, none⟩ = some (.int .i64 ai) := F8.cell 2
  have r0 : w8.cell? ⟨w.heap.size, 0, none⟩ = some (.int .i64 0) := R8.cell 0
  have r1 : w8.cell? ⟨w.heap.size, 1, none⟩ = some (.int .i64 0) := R8.cell 1
  have r2 : w8.cell? ⟨w.heap.size, 2, none⟩ = some (.int .i64 0) := R8.cell 2
  have z0 := R8.fr 0
  have z1 := R8.fr 1
  have z2 := R8.fr 2
  have RB : Hid _ := R8
  clear hv1 hv2 hc8 F8 R8 F7 R7 SH CC7 I7 H7
  go_wp2_with fail
  refine bodyPost_ret (results_row2 (t := 63) rfl _ _ w.heap.size [.int .i64 ak, .int .i64 an, .int .i64 ai] _ _ rfl ?_ Try.underlying63 rfl sz26 rfl) rfl ?_
  · exact ((RB.out.set 0 (.int .i64 ak)).set 1 (.int .i64 an)).set 2 (.int .i64 ai)
  · have hcR : Chg (fun k => k = w.heap.size) w8 (((w8.setCell ⟨w.heap.size, 0, none⟩ (.int .i64 ak)).setCell ⟨w.heap.size, 1, none⟩ (.int .i64 an)).setCell ⟨w.heap.size, 2, none⟩ (.int .i64 ai)) := (((Chg.refl (fun k => k = w.heap.size) _).setCell (p := ⟨w.heap.size, 0, none⟩) (.inl rfl) _).setCell (p := ⟨w.heap.size, 1, none⟩) (.inl rfl) _).setCell (p := ⟨w.heap.size, 2, none⟩) (.inl rfl) _
    have hpF : popF od H = sinkF od m 0 (popT H m) := by unfold popF; rw [hlen.out]; rfl
    rw [hpF]
    refine ⟨rfl, ⟨v, Hq.keep V1.out hcR (fun e => by omega) (fun k hk e => ?_), fun k hk => ?_⟩, OO.out.keep I8.out hcR (fun k hk hs => HS.out (hk ▸ hs)), CC8.out.trans hcR (fun k hk => .inr (by omega))⟩
    · rcases V2.out k hk with h9 | h9 <;> omega
    · rcases V2.out k hk with e | e
      · exact .inl e
      · exact .inr (by omega)

end Go.Proofs.Ytpkcabbfblhekaa.V
