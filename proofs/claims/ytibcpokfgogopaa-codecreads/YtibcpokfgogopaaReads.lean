/-
  The walk of CodecReads.
-/
import Derived.Test.YtibcpokfgogopaaTakes
import Derived.Test.YtibcpokfgogopaaOpen
import Derived.BigFrame
namespace Go.Proofs.Ytibcpokfgogopaa
open Go.RowKit

/-- Two pairs of readers, all of their own. -/
structure Four (w wr : World) (B p1 q1 p2 q2 : Nat) (t1 x1 t2 x2 : Value) (A C : List Int) (a1 a2 : Nat) (e1 e2 : Int) : Prop where
  bel : Below B w wr
  d1 : Duo wr p1 q1 t1 x1 A a1 e1
  d2 : Duo wr p2 q2 t2 x2 C a2 e2

structure Place (B p1 q1 p2 q2 : Nat) (t1 x1 t2 x2 : Value) (A C : List Int) : Prop where
  hp1 : B ≤ p1
  hq1 : B ≤ q1
  hp2 : B ≤ p2
  hq2 : B ≤ q2
  n12 : p1 ≠ p2
  m12 : p1 ≠ q2
  k12 : q1 ≠ p2
  l12 : q1 ≠ q2
  t1n : ∀ k, t1.ownBlock = some k → (k ≠ p2 ∧ k ≠ q2) ∨ A = []
  x1n : ∀ k, x1.ownBlock = some k → (k ≠ p2 ∧ k ≠ q2) ∨ A = []
  t2n : ∀ k, t2.ownBlock = some k → (k ≠ p1 ∧ k ≠ q1) ∨ C = []
  x2n : ∀ k, x2.ownBlock = some k → (k ≠ p1 ∧ k ≠ q1) ∨ C = []

theorem Four.one {w wr w' : World} {B p1 q1 p2 q2 : Nat} {t1 x1 t2 x2 : Value} {A C : List Int} {a1 a2 : Nat} {e1 e2 : Int} (h : Four w wr B p1 q1 p2 q2 t1 x1 t2 x2 A C a1 a2 e1 e2) (pl : Place B p1 q1 p2 q2 t1 x1 t2 x2 A C) (hB : B ≤ wr.heap.size) (d : DP wr w' p1 q1 t1 x1 A) : ∃ a e, Four w w' B p1 q1 p2 q2 t1 x1 t2 x2 A C a a2 e e2 := by
  obtain ⟨a, e, d, c⟩ := d
  refine ⟨a, e, h.bel.trans (c.below hB ?_), d, h.d2.keep c ?_ ?_ ?_ ?_⟩
  · rintro k (rfl | rfl)
    · exact pl.hp1
    · exact pl.hq1
  · rintro (x | x)
    · exact pl.n12 x.symm
    · exact pl.k12 x.symm
  · rintro (x | x)
    · exact pl.m12 x.symm
    · exact pl.l12 x.symm
  · exact fun k hk => (pl.t2n k hk).imp (fun h x => by rcases x with x | x; exact h.1 x; exact h.2 x) id
  · exact fun k hk => (pl.x2n k hk).imp (fun h x => by rcases x with x | x; exact h.1 x; exact h.2 x) id
theorem Four.two {w wr w' : World} {B p1 q1 p2 q2 : Nat} {t1 x1 t2 x2 : Value} {A C : List Int} {a1 a2 : Nat} {e1 e2 : Int} (h : Four w wr B p1 q1 p2 q2 t1 x1 t2 x2 A C a1 a2 e1 e2) (pl : Place B p1 q1 p2 q2 t1 x1 t2 x2 A C) (hB : B ≤ wr.heap.size) (d : DP wr w' p2 q2 t2 x2 C) : ∃ a e, Four w w' B p1 q1 p2 q2 t1 x1 t2 x2 A C a1 a e1 e := by
  obtain ⟨a, e, d, c⟩ := d
  refine ⟨a, e, h.bel.trans (c.below hB ?_), h.d1.keep c ?_ ?_ ?_ ?_, d⟩
  · rintro k (rfl | rfl)
    · exact pl.hp2
    · exact pl.hq2
  · rintro (x | x)
    · exact pl.n12 x
    · exact pl.m12 x
  · rintro (x | x)
    · exact pl.k12 x
    · exact pl.l12 x
  · exact fun k hk => (pl.t1n k hk).imp (fun h x => by rcases x with x | x; exact h.1 x; exact h.2 x) id
  · exact fun k hk => (pl.x1n k hk).imp (fun h x => by rcases x with x | x; exact h.1 x; exact h.2 x) id
theorem Four.keep0 {w wr w' : World} {B p1 q1 p2 q2 : Nat} {t1 x1 t2 x2 : Value} {A C : List Int} {a1 a2 : Nat} {e1 e2 : Int} (h : Four w wr B p1 q1 p2 q2 t1 x1 t2 x2 A C a1 a2 e1 e2) (hB : B ≤ wr.heap.size) (b : Below wr.heap.size wr w') : Four w w' B p1 q1 p2 q2 t1 x1 t2 x2 A C a1 a2 e1 e2 :=
  ⟨h.bel.trans (b.mono hB), h.d1.keep0 b, h.d2.keep0 b⟩

theorem wpList_load_mid_if {ops : Array Oper} {rest : List Oper} {op : Oper} {a : Act} {w : World} {Q : Exit → Act → World → Prop} (hw : Region.wanted op (yielded ops a.tmps) = true) (ty : TypeId) (x : Operand) (ho : op.op = .load ty x)
    (b o : Nat) (hx : a.eval x = .pointer (some ⟨b, o, none⟩)) (cs : List Value) (d : TypeDesc) (hc : w.rangeAt b o cs)
    (hu : Try.prog.underlying ty = some d) (hd : d.isRow = true) (hi : (Try.prog.info? ty).map (·.size) = some cs.length)
    (h : wpList Try.prog ops Q rest (a.put op.dst (.agg cs.toArray)) w) : wpList Try.prog ops Q (op :: rest) a w :=
  BigFrame.wpList_want hw fun _ hK => wp_load_mid ty x ho b o hx cs d hc hu hd hi (hK _ _ h)
theorem range_new (w : World) (cs : List Value) (t : TypeId) : (w.alloc (.cells cs.toArray t)).rangeAt w.heap.size 0 cs := fun j v hv => by
  rw [Nat.zero_add, cell_of_row _ _ j _ t _ (heap_alloc_new _ _)]; simpa using hv

/-- A script, with the numbers' bounds. -/
structure Scr2 (w : World) (a : Option Addr) (N : Nat) (st : Nat → St) : Prop where
  row : ∀ i, i < N → ∃ g o, a = some ⟨g, o, none⟩ ∧ w.rangeAt g (o + i * 38) (st i).cells
  src : ∀ i, i < N → Src w (st i).b (st i).l
  hz : ∀ i, i < N → (st i).z.length = 32
  hn : ∀ i, i < N → (st i).n < 18446744073709551616
  m1 : ∀ i, i < N → -9223372036854775808 ≤ (st i).m ∧ (st i).m ≤ 9223372036854775807
  len : N ≤ 140737488355328


set_option maxRecDepth 100000 in
set_option maxHeartbeats 4000000 in
theorem reads_any {w : World} {sa sb : Value} {A C : List Int} {a : Option Addr} {N c : Nat} {st : Nat → St} (ha : Src w sa A) (hb : Src w sb C) (hA : Byts A) (hC : Byts C) (hcA : ∃ a c, sa = .slice a A.length c ∧ A.length ≤ c ∧ c ≤ 9223372036854775807) (hcC : ∃ a c, sb = .slice a C.length c ∧ C.length ≤ c ∧ c ≤ 9223372036854775807) (hlA : A.length ≤ 140737488351232) (hlC : C.length ≤ 140737488351232) (hs : Scr2 w a N st)
    (hba : ∀ k, sa.ownBlock = some k → k < w.heap.size) (hbb : ∀ k, sb.ownBlock = some k → k < w.heap.size) :
    Calls Try.prog 5 #[sa, sb, .slice a N c] w fun e w' => e = .returned (.bool true) ∧ Below w.heap.size w w' := by
  have HS : Hid _ := hs
  have hN := hs.len
  have SA : Hid _ := ha
  have SB : Hid _ := hb
  have HA : Hid _ := hA
  have HC : Hid _ := hC
  have HBA : Hid _ := hba
  have HBB : Hid _ := hbb
  have CA : Hid _ := hcA
  have CC : Hid _ := hcC
  obtain ⟨b0, d0, hv, _, _⟩ := hcA
  obtain ⟨b1, d1, hv1, _, _⟩ := hcC
  subst hv hv1
  clear hs ha hb hA hC hba hbb
  go_enter Try.func5, Try.ntmps5
  go_wp2_with fail
  refine (roomy_any SA.out (by omega)).mono ?_
  rintro e w1 ⟨ad, c1, rfl, M1⟩
  obtain ⟨M, hM⟩ : ∃ M, M = A.length + 2 := ⟨_, rfl⟩
  rw [← hM] at M1 ⊢
  obtain ⟨g, eg⟩ := Own.addr M1.1 (by simp)
  injection eg with eg
  subst eg
  have hgl := M1.2.2 g rfl
  have hMb : M ≤ 140737488351300 := by omega
  have HM1 : Hid _ := M1
  have HMq : Hid _ := hM
  have G1 : Hid _ := Own.front M1.1 c1 (by simp)
  clear M1 hM
  go_wp2_with fail
  refine (newReader_any G1.out HA.out (by omega)).mono ?_
  rintro e w2 ⟨p1, t1, rfl, r1, o1, bl1, hp1, ht1⟩
  have R1 : Hid _ := r1
  have O1 : Hid _ := o1
  have B1 : Hid _ := bl1
  have T1 : Hid _ := ht1
  have SB2 : Hid _ := Src.kept0 (Src.kept0 SB.out HM1.out.2.1) bl1
  have hsz1 := HM1.out.2.1.size
  have hsz2 := bl1.size
  clear r1 o1 bl1 ht1
  go_wp2_with fail
  refine (copy_any SB2.out (by omega)).mono ?_
  rintro e w3 ⟨v3, rfl, M3⟩
  obtain ⟨a3, c3, hv3⟩ := Own.form M3.1
  subst hv3
  have HM3 : Hid _ := M3
  have hsz3 := M3.2.1.size
  clear M3
  go_wp2_with fail
  refine (newReader_any (Own.src HM3.out.1) HC.out (by omega)).mono ?_
  rintro e w4 ⟨p2, t2, rfl, r2, o2, bl2, hp2, ht2⟩
  have R2 : Hid _ := r2
  have O2 : Hid _ := o2
  have T2 : Hid _ := ht2
  have B2 : Hid _ := bl2
  have hsz4 := bl2.size
  clear r2 o2 bl2 ht2
  go_wp2_with fail
  have O4 : Hid _ := Own.kept (Own.kept (Own.kept HM1.out.1 (Chg.of_below B1.out (fun _ => False)) (fun _ _ h => h)) (Chg.of_below HM3.out.2.1 (fun _ => False)) (fun _ _ h => h)) (Chg.of_below B2.out (fun _ => False)) (fun _ _ h => h)
  have hbel4 : Below w.heap.size w w4 := ((HM1.out.2.1.trans (B1.out.mono hsz1)).trans (HM3.out.2.1.mono (by omega))).trans (B2.out.mono (by omega))
  have HB4 : Hid _ := hbel4
  have hg1 : g < w1.heap.size := Own.lt HM1.out.1 rfl
  have hp1l : p1 < w2.heap.size := RS.lt R1.out
  have hp2l : p2 < w4.heap.size := RS.lt R2.out
  have R14 : Hid _ := RS.keep0 (RS.keep0 R1.out HM3.out.2.1) B2.out
  clear hbel4
  refine (untouched_M HMq.out (Src.kept0 SA.out HB4.out) O4.out (by omega)).mono ?_
  rintro e w5 ⟨rfl, nd, rfl⟩
  go_wp2_with fail
  go_loopw [42] (fun i wx => ∃ j : Nat, j ≤ M ∧ i = .int .i64 j ∧ Own wx (.slice (some ⟨g, 0, none⟩) M c1) (fil (A ++ [165, 90]) 153 j) ∧ Chg (fun b => b = g) w4 wx) (fun i _ => M - (intOf i).toNat)
  case atStart => exact ⟨0, Nat.zero_le _, rfl, O4.out, drewN_chg _ _ _⟩
  case round =>
    obtain ⟨j, hj, rfl, hown, hch⟩ := hrel
    have hlen : (A ++ [165, 90]).length = M := by rw [HMq.out]; simp
    have hfl : (fil (A ++ [165, 90]) 153 j).length = M := by rw [fil_len _ _ _ (by omega), hlen]
    by_cases hjl : j < M
    · obtain ⟨⟨xj, hcj⟩, hfj⟩ : (∃ x, wr.cell? ⟨g, j, none⟩ = some (.int .u8 x)) ∧ wr.frozen? ⟨g, j, none⟩ = false := ⟨⟨_, (Own.cellAt hown j (by omega)).1⟩, (Own.cellAt hown j (by omega)).2⟩
      have Q1 : Hid _ := Own.store hown j 153
      have Q2 : Hid _ := hch.setCell (p := ⟨g, j, none⟩) (.inl rfl) (.int .u8 153)
      have Q3 : Hid _ := fil_set (A ++ [165, 90]) 153 j (by omega)
      clear hown hch hlen hfl
      go_wp2_with fail
      go_roundw
      case rel => exact ⟨j + 1, by omega, by go_num, by rw [← Q3.out]; exact Q1.out, Q2.out⟩
      case measure => simp [intOf]; omega
    · rename World => w6
      have hsz6 := hch.size
      obtain ⟨sa, hsa⟩ : ∃ sa, sa = Value.slice b0 A.length d0 := ⟨_, rfl⟩
      obtain ⟨sb, hsb⟩ : ∃ sb, sb = Value.slice b1 C.length d1 := ⟨_, rfl⟩
      have hF : Four w ((w6.alloc (.cells #[.slice b0 A.length d0, .int .i64 0, .int .i64 0] 64)).alloc (.cells #[.slice b1 C.length d1, .int .i64 0, .int .i64 0] 64)) w.heap.size p1 w6.heap.size p2 (w6.heap.size + 1) t1 (.slice b0 A.length d0) t2 (.slice b1 C.length d1) A C 0 0 0 0 := by
        have bel6 : Below w.heap.size w w6 := HB4.out.trans (hch.below (by omega) (fun k e => by omega))
        have bel7 : Below w.heap.size w ((w6.alloc (.cells #[.slice b0 A.length d0, .int .i64 0, .int .i64 0] 64)).alloc (.cells #[.slice b1 C.length d1, .int .i64 0, .int .i64 0] 64)) := (bel6.alloc bel6.size _).alloc (by simp; have := bel6.size; omega) _
        have b67 : Below w6.heap.size w6 ((w6.alloc (.cells #[.slice b0 A.length d0, .int .i64 0, .int .i64 0] 64)).alloc (.cells #[.slice b1 C.length d1, .int .i64 0, .int .i64 0] 64)) := ((Below.refl _ _).alloc (Nat.le_refl _) _).alloc (by simp) _
        refine ⟨bel7, ⟨RS.keep0 (RS.keep R14.out hch (by omega) (fun k hk e => by have := T1.out k hk; omega)) b67, ⟨?_, Src.kept0 SA.out bel7, fun e => by have := HBA.out _ e; have := bel6.size; omega, Nat.zero_le _, by omega, HA.out, CA.out⟩, by omega, fun k hk => ?_, fun k hk => ?_⟩, ⟨RS.keep0 (RS.keep R2.out hch (by omega) (fun k hk e => by have := T2.out k hk; omega)) b67, ⟨?_, Src.kept0 SB.out bel7, fun e => by have := HBB.out _ e; have := bel6.size; omega, Nat.zero_le _, by omega, HC.out, CC.out⟩, by omega, fun k hk => ?_, fun k hk => ?_⟩⟩
        · rw [Below.heap_alloc _ _ _ (by simp)]; exact heap_alloc_new _ _
        · have := Own.lt O1.out hk; omega
        · have := HBA.out k hk; omega
        · have := heap_alloc_new (w6.alloc (.cells #[.slice b0 A.length d0, .int .i64 0, .int .i64 0] 64)) (.cells #[.slice b1 C.length d1, .int .i64 0, .int .i64 0] 64)
          simpa using this
        · have := Own.lt O2.out hk; omega
        · have := HBB.out k hk; omega
      have hPl : Place w.heap.size p1 w6.heap.size p2 (w6.heap.size + 1) t1 (.slice b0 A.length d0) t2 (.slice b1 C.length d1) A C :=
        ⟨by omega, by omega, by omega, by omega, by omega, by omega, by omega, by omega, fun k hk => .inl (by have := T1.out k hk; have := Own.lt O1.out hk; omega), fun k hk => .inl (by have := HBA.out k hk; omega), fun k hk => .inl (by have := T2.out k hk; have := Own.lt O2.out hk; omega), fun k hk => .inl (by have := HBB.out k hk; omega)⟩
      have HF : Hid _ := hF
      have PL : Hid _ := hPl
      clear hF hPl hown hch hlen hfl hsa hsb sa sb
      go_wp2_with fail
      go_loopw [57] (fun i wx => ∃ k : Nat, k ≤ N ∧ i = .int .i64 k ∧ w6.heap.size + 2 ≤ wx.heap.size ∧ ∃ a1 a2 e1 e2, Four w wx w.heap.size p1 w6.heap.size p2 (w6.heap.size + 1) t1 (.slice b0 A.length d0) t2 (.slice b1 C.length d1) A C a1 a2 e1 e2) (fun i _ => N - (intOf i).toNat)
      case atStart => exact ⟨0, Nat.zero_le _, rfl, by simp, 0, 0, 0, 0, HF.out⟩
      case round =>
        rename World => w7
        obtain ⟨k, hk, rfl, hsz7, a1, a2, e1, e2, hf⟩ := hrel
        by_cases hlt : k < N
        · obtain ⟨sg, so, rfl, hrow⟩ := Scr2.row HS.out k hlt
          have hrow1 : Hid _ := rangeAt_chg hrow hf.bel
          have hz := Scr2.hz HS.out k hlt
          have hn := Scr2.hn HS.out k hlt
          have hmm := Scr2.m1 HS.out k hlt
          have hsrc := Scr2.src HS.out k hlt
          have HF7 : Hid _ := hf
          clear hrow hf
          generalize st k = s at *
          obtain ⟨kind, who, n, m, b, l, z, nth⟩ := s
          simp only [St.cells] at *
          obtain ⟨hm1, hm2⟩ := hmm
          obtain ⟨a0, c0, hb2⟩ := Src.form hsrc
          subst hb2
          have HF8 : Hid _ := Four.keep0 HF7.out (by omega) ((Below.refl _ _).alloc (Nat.le_refl _) (.cells (stp kind who n m (.slice a0 l.length c0) z nth).toArray 35))
          obtain ⟨hc0, hc1, _, _, _, _, _⟩ := stp_cell w7 kind who n m (.slice a0 l.length c0) z nth 35 hz
          have hrn := range_new w7 (stp kind who n m (.slice a0 l.length c0) z nth) 35
          have HRN : Hid _ := hrn
          clear hrn hsrc
          by_cases hw : who = 0
          · subst hw
            go_wp2_with (first | (refine wpList_load_mid rfl 35 (.tmp 59) rfl sg (so + k * 38) rfl (stp kind 0 n m (.slice a0 l.length c0) z nth) _ hrow1.out Try.underlying35 rfl (by rw [Try.sz35, stp_len _ _ _ _ _ _ _ hz]) ?_) | (refine wpList_store_new rfl 35 (.tmp 15) (.tmp 60) rfl (stp kind 0 n m (.slice a0 l.length c0) z nth) rfl rfl (by rw [Try.sz35, stp_len _ _ _ _ _ _ _ hz]) (by rw [stp_len _ _ _ _ _ _ _ hz]; rfl) stp_one ?_) | (refine wpList_load_mid rfl 35 (.tmp 15) rfl w7.heap.size 0 rfl (stp kind 0 n m (.slice a0 l.length c0) z nth) _ HRN.out Try.underlying35 rfl (by rw [Try.sz35, stp_len _ _ _ _ _ _ _ hz]) ?_))
            refine (takes_any HF8.out.d1 (by simp; omega) (by simp; omega) kind 0 n m _ z nth hz hn (by omega) hm1 hm2).mono ?_
            rintro e w8 ⟨rfl, D8⟩
            have hsz8 : w7.heap.size + 1 ≤ w8.heap.size := by obtain ⟨_, _, _, c8⟩ := D8; have := c8.size; simpa using this
            have F9 : Hid _ := Four.one HF8.out PL.out (by simp; omega) D8
            clear D8
            go_wp2_with fail
            go_roundw
            case rel =>
              obtain ⟨aa, ee, F⟩ := F9.out
              exact ⟨k + 1, by omega, by go_num, by omega, _, _, _, _, F⟩
            case measure => simp [intOf]; omega
          · go_wp2_with (first | (refine wpList_load_mid rfl 35 (.tmp 59) rfl sg (so + k * 38) rfl (stp kind who n m (.slice a0 l.length c0) z nth) _ hrow1.out Try.underlying35 rfl (by rw [Try.sz35, stp_len _ _ _ _ _ _ _ hz]) ?_) | (refine wpList_store_new rfl 35 (.tmp 15) (.tmp 60) rfl (stp kind who n m (.slice a0 l.length c0) z nth) rfl rfl (by rw [Try.sz35, stp_len _ _ _ _ _ _ _ hz]) (by rw [stp_len _ _ _ _ _ _ _ hz]; rfl) stp_one ?_) | (refine wpList_load_mid rfl 35 (.tmp 15) rfl w7.heap.size 0 rfl (stp kind who n m (.slice a0 l.length c0) z nth) _ HRN.out Try.underlying35 rfl (by rw [Try.sz35, stp_len _ _ _ _ _ _ _ hz]) ?_))
            refine (takes_any HF8.out.d2 (by simp; omega) (by simp; omega) kind who n m _ z nth hz hn (by omega) hm1 hm2).mono ?_
            rintro e w8 ⟨rfl, D8⟩
            have hsz8 : w7.heap.size + 1 ≤ w8.heap.size := by obtain ⟨_, _, _, c8⟩ := D8; have := c8.size; simpa using this
            have F9 : Hid _ := Four.two HF8.out PL.out (by simp; omega) D8
            clear D8
            go_wp2_with fail
            go_roundw
            case rel =>
              obtain ⟨aa, ee, F⟩ := F9.out
              exact ⟨k + 1, by omega, by go_num, by omega, _, _, _, _, F⟩
            case measure => simp [intOf]; omega
        · have HF7 : Hid _ := hf
          clear hf
          have hz9 : (List.replicate 32 (0 : Int)).length = 32 := by simp
          have HF8 : Hid _ := Four.keep0 HF7.out (by omega) ((Below.refl _ _).alloc (Nat.le_refl _) (.cells (stp 9 0 0 0 (.slice none 0 0) (List.replicate 32 0) 0).toArray 35))
          have HRN : Hid _ := range_new w7 (stp 9 0 0 0 (.slice none 0 0) (List.replicate 32 0) 0) 35
          go_wp2_with (first | (refine wpList_store_new rfl 35 (.tmp 17) (.tmp 75) rfl (stp 9 0 0 0 (.slice none 0 0) (List.replicate 32 0) 0) rfl rfl (by rw [Try.sz35, stp_len _ _ _ _ _ _ _ hz9]) (by rw [stp_len _ _ _ _ _ _ _ hz9]; rfl) stp_one ?_) | (refine wpList_load_mid rfl 35 (.tmp 17) rfl w7.heap.size 0 rfl (stp 9 0 0 0 (.slice none 0 0) (List.replicate 32 0) 0) _ HRN.out Try.underlying35 rfl (by rw [Try.sz35, stp_len _ _ _ _ _ _ _ hz9]) ?_))
          refine (takes_any HF8.out.d1 (by simp; omega) (by simp; omega) 9 0 0 0 (.slice none 0 0) (List.replicate 32 0) 0 hz9 (by omega) (by omega) (by omega) (by omega)).mono ?_
          rintro e w8 ⟨rfl, D8⟩
          have hsz8 : w7.heap.size + 1 ≤ w8.heap.size := by obtain ⟨_, _, _, c8⟩ := D8; have := c8.size; simpa using this
          have hr8 : w8.rangeAt w7.heap.size 0 (stp 9 0 0 0 (.slice none 0 0) (List.replicate 32 0) 0) := fun j v hv => by
            obtain ⟨_, _, _, c8⟩ := D8
            exact c8.cell_some (HRN.out j v hv) (by show ¬ (w7.heap.size = p1 ∨ w7.heap.size = w6.heap.size); omega)
          have HR8 : Hid _ := hr8
          obtain ⟨aa, ee, F9⟩ := Four.one HF8.out PL.out (by simp; omega) D8
          have HF9 : Hid _ := F9
          clear D8 F9 hr8
          go_wp2_with (first | (refine wpList_load_mid_if (by rfl) 35 (.tmp 17) rfl w7.heap.size 0 rfl (stp 9 0 0 0 (.slice none 0 0) (List.replicate 32 0) 0) _ HR8.out Try.underlying35 rfl (by rw [Try.sz35, stp_len _ _ _ _ _ _ _ hz9]) ?_))
          refine (takes_any HF9.out.d2 (by omega) (by omega) 9 0 0 0 (.slice none 0 0) (List.replicate 32 0) 0 hz9 (by omega) (by omega) (by omega) (by omega)).mono ?_
          rintro e w10 ⟨rfl, D10⟩
          obtain ⟨ab, eb, F10⟩ := Four.two HF9.out PL.out (by omega) D10
          have HB10 : Hid _ := F10.bel
          clear D10 F10
          go_wp2_with fail
          go_ret
          exact ⟨rfl, HB10.out⟩
end Go.Proofs.Ytibcpokfgogopaa
