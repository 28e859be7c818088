/-
  SegmentOpens, walked.
-/
import Derived.Test.YtnfcmpffihmnmaaShB
import Derived.LaidEqlPtr
namespace Go.Proofs.Ytnfcmpffihmnmaa
open Go.RowKit

/-- Records appended to an empty list just made: they may be written. -/
theorem app_own {w : World} {ty sz sl by_ n c : Nat} {Z : Value} {f : Nat → List Value} {Av : Nat → Prop} {A : Option Addr} (hu : Try.prog.underlying sl = some (.slice ty)) (hi0 : (Try.prog.info? ty).map (fun i => (i.zero, i.size, i.bytes)) = some (some Z, sz, by_)) (hZ : Z.cells.size = sz) (hp : 0 < sz)
    (hf : ∀ i, (f i).length = sz) (h1 : ∀ i, ∀ u ∈ f i, u.oneCell' = true) (hr : RowsIn w Av A n sz f) (hb : n * by_ ≤ 140737488355328) (hb2 : n ≤ 9223372036854775807) {b B : Nat} (h : OL w (.slice (some ⟨b, 0, none⟩) 0 0) ty sz (fun _ => []) 0) (hbB : B ≤ b) (hB : B ≤ w.heap.size) (ty2 : TypeId) :
    ∃ g cc w' cs, (Builtin.append_ #[sl, sl] ty2 #[.slice (some ⟨b, 0, none⟩) 0 0, .slice A n c]).run Try.prog w = .ok (.slice (some ⟨g, 0, none⟩) n cc) w' ∧ NL w' B (some ⟨g, 0, none⟩) n sz f ∧ Chg (fun g => g = b) w w' ∧ Blk w' g cs ty ∧ n * sz ≤ cs.length ∧ B ≤ g := by
  obtain ⟨v', w', r1, r2, r3, r4⟩ := OL.app (c := c) hu hi0 hZ hp h hf h1 hr hb hb2 ty2
  have : ∃ g, v'.ownBlock = some g ∧ B ≤ g := by
    rcases r4 with e | e
    · exact ⟨b, e, hbB⟩
    · exact ⟨_, e, hB⟩
  obtain ⟨g, hg, hgB⟩ := this
  obtain ⟨A', c', e', hr'⟩ := r2.rows hf
  rcases r2.2 with ⟨e, _⟩ | ⟨g', cap, cur, e, _, hgg, q1, q2, q3, q4⟩
  · rw [e] at hg; cases hg
  · rw [e] at hg
    cases hg
    rw [e] at e'
    cases e'
    refine ⟨g', c', w', cur.toList, by rw [← e]; exact r1, ⟨hr'.mono (fun q hq => ?_), g', rfl, hgB⟩, r3, ⟨hgg⟩, ?_, hgB⟩
    · rw [e] at hq
      cases hq
      exact hgB
    · rw [Array.length_toList, q3]
      exact Nat.mul_le_mul_right _ q1

theorem Try.p31 : Try.prog.underlying 31 = some (.pointer 93) := by kernel_rfl
theorem eqp (a : Addr) (w : World) : (binOp .eql 31 (.pointer (some a)) (.pointer (some a))).run Try.prog w = .ok (.bool true) w := by
  have h : (Try.prog.info? 93).isSome = true := by kernel_rfl
  obtain ⟨j, hj⟩ := Option.isSome_iff_exists.1 h
  exact run_eql_ptr_same w a Try.p31 hj

/-- A set-up's cells. -/
def suC (s z sp S : Int) (A : Option Addr) (n c : Nat) : List Value := [.int .i64 s, .int .i64 z, .int .i64 sp, .int .u64 S, .slice A n c]

structure I64 (x : Int) : Prop where
  r : -9223372036854775808 ≤ x ∧ x ≤ 9223372036854775807

/-- What begin answers. -/
structure BgA (w w' : World) (e : Ending) : Prop where
  ex : ∃ P, e = .returned (.tuple #[.pointer P, .bool true]) ∧ Chg (fun _ => False) w w'

theorem opE_zero {s z sp S : Int} {ms : Nat → Mk} {n : Nat} (h : opE s z sp S ms n = 0) : (2 ≤ sp ∧ sp ≤ 1024) ∧ ¬ cnt s sp < 2 ∧ StP s z sp S ms n := by
  by_cases h1 : 2 ≤ sp ∧ sp ≤ 1024
  · by_cases h2 : cnt s sp < 2
    · rw [opE_size h1 h2] at h
      omega
    · by_cases h3 : StP s z sp S ms n
      · exact ⟨h1, h2, h3⟩
      · rw [opE_marks h1 h2 h3] at h
        omega
  · rw [opE_span (by omega)] at h
    omega
theorem Dk.lt {w : World} {p : Nat} {s z : Int} (h : Dk w p s z) : p < w.heap.size := World.block_lt_of_cell? _ _ h.s

set_option maxRecDepth 100000 in
set_option maxHeartbeats 4000000 in
theorem begin_any {w : World} {A : Option Addr} {n c : Nat} {ms : Nat → Mk} {sp s z S : Int} (hr : RowsIn w (fun g => g < w.heap.size) A n 2 (mF ms)) (hm : ∀ i, i < n → 0 ≤ (ms i).se) (hn : n * 16 ≤ 140737488355328)
    (hsp : I64 sp) :
    Calls Try.prog 4 #[.agg (suC s z sp S A n c).toArray] w fun e w' => BgA w w' e := by
  obtain ⟨X, hX⟩ : ∃ X, X = w.heap.size := ⟨_, rfl⟩
  obtain ⟨W, hW⟩ : ∃ W, W = w.alloc (.cells (suC s z sp S A n c).toArray 25) := ⟨_, rfl⟩
  have cW : Chg (fun _ => False) w W := by rw [hW]; exact (Chg.refl _ _).alloc _
  have bX : Blk W X (suC s z sp S A n c) 25 := by rw [hW, hX]; exact Blk.made _ _ _
  have CW : Hid _ := cW
  have BX : Hid _ := bX
  have RW : Hid (RowsIn W (fun g => g < X) A n 2 (mF ms)) := (hr.kept cW (fun _ _ e => e)).mono (fun _ e => by rw [hX]; exact e)
  have xl : X < W.heap.size := bX.lt
  have k0 : W.cell? ⟨X, 0, none⟩ = some (.int .i64 s) := bX.cell 0
  have k1 : W.cell? ⟨X, 1, none⟩ = some (.int .i64 z) := bX.cell 1
  clear hr cW bX
  by_cases ok : okDisk s z
  · have NW : Hid _ := new_yes (w := W) s z ok
    have OKD : Hid _ := ok
    have NX : Hid (∀ w, _) := fun w => xnew_yes (w := w) s z ok
    clear ok
    go_enter Try.func4, Try.ntmps4
    go_upto_region 1 with fail
    rw [← hX, ← hW]
    clear hX hW
    go_upto_region 2 with (go_at_call 7; refine Calls.mono NW.out ?_; rintro e w1 ⟨p1, rfl, hd, hp, hch⟩; have D1 : Hid _ := hd; have C1 : Hid _ := hch; have x0 : w1.cell? ⟨X, 0, none⟩ = some (.int .i64 s) := (BX.out.keep hch (fun e => e)).cell 0; have x1 : w1.cell? ⟨X, 1, none⟩ = some (.int .i64 z) := (BX.out.keep hch (fun e => e)).cell 1; clear hd hch)
    clear k0 k1
    go_upto_region 7 with (go_at_call 8; refine Calls.mono (NX.out _) ?_; rintro e w2 ⟨p2, rfl, hd, hp2, hch⟩; have D2 : Hid _ := hd; have C2 : Hid _ := hch; clear hd hch)
    clear x0 x1
    have c02 : Chg (fun _ => False) W w2 := C1.out.trans C2.out (fun _ e => e.elim)
    have C02 : Hid _ := c02
    have x4 : w2.cell? ⟨X, 4, none⟩ = some (.slice A n c) := (BX.out.keep c02 (fun e => e)).cell 4
    have x4' : (w2.alloc (.cells #[] 45)).cell? ⟨X, 4, none⟩ = some (.slice A n c) := ((BX.out.keep c02 (fun e => e)).alloc _).cell 4
    have D1' : Hid (Dk w2 p1 s z) := D1.out.kept C2.out (fun e => e)
    obtain ⟨W3, hW3⟩ : ∃ W, W = w2.alloc (.cells #[] 45) := ⟨_, rfl⟩
    have c3 : Chg (fun _ => False) w2 W3 := by rw [hW3]; exact (Chg.refl _ _).alloc _
    have c03 : Chg (fun _ => False) W W3 := c02.trans c3 (fun _ e => e.elim)
    obtain ⟨g, cc, W4, cs, r1, r2, r3, r4, r5, r6⟩ := app_own (w := W3) (c := c) (B := w2.heap.size) (b := w2.heap.size) Try.underlying23 info45 rfl (by decide) (mF_len ms) (mF_one ms) (RowsIn.kept RW.out c03 (fun _ _ e => e)) hn (by omega) (by rw [hW3]; exact OL.empty w2) (Nat.le_refl _) c3.size 23
    have c24 : Chg (fun _ => False) w2 W4 := c3.trans r3 (fun i e => .inr (by omega))
    have C24 : Hid _ := c24
    have R1 : Hid _ := r1
    rw [hW3] at R1
    have NL4 : Hid (NL W4 w2.heap.size (some ⟨g, 0, none⟩) n 2 (mF ms) ∧ Blk W4 g cs 45 ∧ n * 2 ≤ cs.length) := ⟨r2, r4, r5⟩
    have s2 : W.heap.size ≤ w2.heap.size := c02.size
    have y2 : W4.cell? ⟨X, 2, none⟩ = some (.int .i64 sp) := ((BX.out.keep c02 (fun e => e)).keep c24 (fun e => e)).cell 2
    have y3 : W4.cell? ⟨X, 3, none⟩ = some (.int .u64 S) := ((BX.out.keep c02 (fun e => e)).keep c24 (fun e => e)).cell 3
    clear c02 c03 c3 r1 r2 r3 r4 r5 c24 D1
    go_upto_region 8 with (refine wpList_appG (sl := 23) rfl (.tmp 34) (.tmp 36) rfl (v := .slice (some ⟨w2.heap.size, 0, none⟩) 0 0) (u := .slice A n c) (v' := .slice (some ⟨g, 0, none⟩) n cc) (w' := W4) rfl rfl R1.out ?_)
    clear hW3 x4 x4'
    have hb := fits_b OKD.out.1
    have hs1 : 1 ≤ s ∧ s ≤ 65536 := ⟨OKD.out.2.1, OKD.out.2.2.1⟩
    obtain ⟨E, hE⟩ : ∃ E, E = opE s z sp S ms n := ⟨_, rfl⟩
    have OP1 : Hid _ := open_any (c := cc) NL4.out.1.1 hm (by omega) S (D1'.out.kept C24.out (fun e => e)) hb hs1 hsp.r
    have OP2 : Hid (∀ w5, Chg (fun _ => False) W4 w5 → _) := fun w5 (h : Chg (fun _ => False) W4 w5) => xopen_any (w := w5) (c := c) (RowsIn.kept RW.out ((C02.out.trans C24.out (fun _ e => e.elim)).trans h (fun _ e => e.elim)) (fun _ _ e => e)) hm (by omega) S ((D2.out.kept C24.out (fun e => e)).kept h (fun e => e)) hb hs1 hsp.r
    rw [← hE] at OP1 OP2
    have HE : Hid _ := hE
    have B4 : Hid (Blk W4 X (suC s z sp S A n c) 25) := (BX.out.keep C02.out (fun e => e)).keep C24.out (fun e => e)
    clear hE hb hs1
    go_upto_region 9 with (go_at_call 9; refine Calls.mono OP1.out ?_; rintro e w5 ⟨P1, rfl, hch, hno, hyes⟩; have C5 : Hid _ := hch; have NO1 : Hid _ := hno; have YES1 : Hid _ := hyes; have z2 : w5.cell? ⟨X, 2, none⟩ = some (.int .i64 sp) := (B4.out.keep hch (fun e => e)).cell 2; have z3 : w5.cell? ⟨X, 3, none⟩ = some (.int .u64 S) := (B4.out.keep hch (fun e => e)).cell 3; have z4 : w5.cell? ⟨X, 4, none⟩ = some (.slice A n c) := (B4.out.keep hch (fun e => e)).cell 4; clear hch hno hyes)
    clear y2 y3
    go_upto_region 10 with (go_at_call 10; refine Calls.mono (OP2.out _ C5.out) ?_; rintro e w6 ⟨P2, rfl, hch, hno, hyes⟩; have C6 : Hid _ := hch; have NO2 : Hid _ := hno; have YES2 : Hid _ := hyes; clear hch hno hyes)
    clear z2 z3 z4 OP1 OP2
    go_wp2_with fail
    go_loopw [61] (fun i wr => ∃ j : Nat, j ≤ n ∧ i = .int .i64 j ∧ Hid (Chg (fun k => k = g) w6 wr ∧ ∃ cs, Blk wr g cs 45 ∧ n * 2 ≤ cs.length)) (fun i _ => n - (intOf i).toNat)
    case atStart => exact ⟨0, Nat.zero_le _, rfl, Chg.refl _ _, cs, (NL4.out.2.1.keep C5.out (fun e => e)).keep C6.out (fun e => e), NL4.out.2.2⟩
    case round =>
      obtain ⟨j, hj, rfl, hid⟩ := hrel
      by_cases hlt : j < n
      · obtain ⟨ch, cs', bk, len⟩ := hid.out
        have hix : ∀ w, (Instr.indexAt 23 (.slice (some ⟨g, 0, none⟩) n cc) (.int .i64 j)).run Try.prog w = .ok (.pointer (some ⟨g, j * 2, none⟩)) w := fun w => by
          have := ix_at Try.underlying23 Try.elem23 Try.so45 (A := some ⟨g, 0, none⟩) (c := cc) rfl hlt w
          rwa [Nat.zero_add] at this
        have BK : Hid _ := bk
        have CH : Hid _ := ch
        have LN : Hid _ := len
        clear hid bk ch len
        go_wp2_with (refine wpList_store_part rfl 45 (.tmp 67) (.tmp 66) rfl g (j * 2) [.int .u64 77, .int .i64 1] rfl rfl BK.out (by have := LN.out; simp; omega) (Try.mkSz ⟨77, 1⟩) (Mk.one ⟨77, 1⟩) ?_; intro wB hw8 hc8; have BB : Hid _ := hw8; have CB : Hid _ := hc8; clear hw8 hc8)
        go_roundw
        case rel => exact ⟨j + 1, by omega, by go_num, CH.out.trans CB.out (fun _ e => .inl e), _, BB.out, by have := LN.out; simp [splice]; omega⟩
        case measure => simp [intOf]; omega
      · have e : j = n := by omega
        have ch := hid.out.1
        have s24 := C24.out.size
        have s5 := C5.out.size
        have s6 := C6.out.size
        have sW := CW.out.size
        have gl := NL4.out.2.1.lt
        have c46 : Chg (fun _ => False) W4 w6 := C5.out.trans C6.out (fun _ e => e.elim)
        have tot : Chg (fun _ => False) w wr := ((((CW.out.trans C02.out (fun _ e => e.elim)).trans C24.out (fun _ e => e.elim)).trans c46 (fun _ e => e.elim))).trans ch (fun i e => .inr (by omega))
        have TOT : Hid _ := tot
        by_cases hE0 : E = 0
        · obtain ⟨q, hq1, hqB, A1, cc1, H1, hc1, bq, na, nh⟩ := YES1.out hE0
          obtain ⟨r, hr1, hrB, A2, cc2, H2, hc2, br, nb, ng⟩ := YES2.out hE0
          obtain ⟨z1, z2, z3⟩ := opE_zero (HE.out.symm.trans hE0)
          have hs1 : 1 ≤ s ∧ s ≤ 65536 := ⟨OKD.out.2.1, OKD.out.2.2.1⟩
          have nn : 2 ≤ n ∧ n ≤ 65536 := by
            have := (cnt_b hs1.2 z1.1).2
            have := z3.1
            omega
          have lb : LgB sp s z := ⟨z1, fits_b OKD.out.1, hs1⟩
          subst hq1
          subst hr1
          obtain ⟨ga, rfl, _⟩ := na.2
          obtain ⟨gh, rfl, _⟩ := nh.2
          obtain ⟨gb, rfl, _⟩ := nb.2
          obtain ⟨gg, rfl, _⟩ := ng.2
          have bq2 := (bq.keep C6.out (fun e => e)).keep ch (show ¬ q = g by omega)
          have br2 := br.keep ch (show ¬ r = g by omega)
          have na2 := NL.kept (NL.kept na C6.out (fun _ _ e => e)) ch (fun k hk => by omega)
          have nh2 := NL.kept (NL.kept nh C6.out (fun _ _ e => e)) ch (fun k hk => by omega)
          have nb2 := NL.kept nb ch (fun k hk => by omega)
          have ng2 := NL.kept ng ch (fun k hk => by omega)
          have l1 := D1'.out.lt
          have l2 := D2.out.lt
          have d1 := ((D1'.out.kept C24.out (fun e => e)).kept c46 (fun e => e)).kept ch (show ¬ p1 = g by omega)
          have d2 := ((D2.out.kept C24.out (fun e => e)).kept c46 (fun e => e)).kept ch (show ¬ p2 = g by omega)
          have ALL : Hid (∀ V, Chg (fun _ => False) wr V → Blk V q (lgC p1 sp (some ⟨ga, 0, none⟩) n cc1 S (curF ms n).1 (some ⟨gh, 0, none⟩) hc1) 67 ∧ Blk V r (rlC p2 sp S (some ⟨gb, 0, none⟩) n cc2 (some ⟨gg, 0, none⟩) hc2) 73 ∧ NL V W4.heap.size (some ⟨ga, 0, none⟩) n 2 (mF ms) ∧ NL V W4.heap.size (some ⟨gh, 0, none⟩) n 1 bF ∧ NL V w5.heap.size (some ⟨gb, 0, none⟩) n 2 (mF ms) ∧ NL V w5.heap.size (some ⟨gg, 0, none⟩) n 1 bF ∧ Lg V q p1 sp s z ∧ Lg V r p2 sp s z) := fun V k =>
            ⟨bq2.keep k (fun e => e), br2.keep k (fun e => e), NL.kept na2 k (fun _ _ e => e), NL.kept nh2 k (fun _ _ e => e), NL.kept nb2 k (fun _ _ e => e), NL.kept ng2 k (fun _ _ e => e),
              ⟨(bq2.keep k (fun e => e)).cell 0, (bq2.keep k (fun e => e)).cell 1, d1.kept k (fun e => e)⟩, ⟨(br2.keep k (fun e => e)).cell 0, (br2.keep k (fun e => e)).cell 1, d2.kept k (fun e => e)⟩⟩
          have LB : Hid _ := lb
          have m1 := lb.m.1
          have m2 := lb.m.2
          subst hE0
          clear hid YES1 YES2 NO1 NO2 HE z1 z2 z3 bq br na nh nb ng bq2 br2 na2 nh2 nb2 ng2 d1 d2 l1 l2 tot ch c46 lb
          have T12 : Hid (∀ o, _) := fun o => tail_any (w := wr.alloc o) (ALL.out _ ((Chg.refl _ _).alloc o)).1 (ALL.out _ ((Chg.refl _ _).alloc o)).2.2.1.1 (ALL.out _ ((Chg.refl _ _).alloc o)).2.2.2.1.1 nn.2
          have T13 : Hid (∀ V, Chg (fun _ => False) wr V → _) := fun V k => state_any (w := V) (ALL.out V k).2.1 (ALL.out V k).2.2.2.2.1.1 (ALL.out V k).2.2.2.2.2.1.1 nn
          have T14 : Hid (∀ V, Chg (fun _ => False) wr V → _) := fun V k => lsize_any (w := V) (ALL.out V k).2.2.2.2.2.2.1 LB.out
          have T15 : Hid (∀ V, Chg (fun _ => False) wr V → _) := fun V k => xlsize_any (w := V) (ALL.out V k).2.2.2.2.2.2.2 LB.out
          have T16 : Hid (∀ V, Chg (fun _ => False) wr V → _) := fun V k => ldisk_any (w := V) (ALL.out V k).2.2.2.2.2.2.1
          have n2 := nn.2
          have EQP := eqp ⟨p1, 0, none⟩
          clear ALL nn
          go_wp2_with (first
            | (go_at_call 12; refine Calls.mono (T12.out _) ?_; rintro e w7 ⟨A3, cc3, H3, hc3, rfl, t1, t2, t3⟩; have C7 : Hid (Chg (fun _ => False) wr w7) := ((Chg.refl _ _).alloc _).trans t3 (fun _ e => e.elim); have N3 : Hid _ := And.intro t1.1 t2.1; clear t1 t2 t3)
            | (go_at_call 13; refine Calls.mono (T13.out _ C7.out) ?_; rintro e w8 ⟨A4, cc4, H4, hc4, rfl, t1, t2, t3⟩; have C8 : Hid (Chg (fun _ => False) wr w8) := C7.out.trans t3 (fun _ e => e.elim); have N4 : Hid _ := And.intro t1.1 t2.1; have N3' : Hid _ := And.intro (RowsIn.kept N3.out.1 t3 (fun _ _ e => e)) (RowsIn.kept N3.out.2 t3 (fun _ _ e => e)); clear t1 t2 t3)
            | (go_at_call 11; refine Calls.mono (sameT_any N3'.out.1 N4.out.1 N3'.out.2 N4.out.2 n2) ?_; rintro e w9 ⟨rfl, t3⟩; have C9 : Hid (Chg (fun _ => False) wr w9) := C8.out.trans t3 (fun _ e => e.elim); clear t3)
            | (go_at_call 14; refine Calls.mono (T14.out _ C9.out) ?_; rintro e w10 ⟨rfl, m, hm10⟩; have C10 : Hid (Chg (fun _ => False) wr w10) := by rw [hm10]; exact ⟨C9.out.os, C9.out.tape, C9.out.output, C9.out.size, C9.out.block⟩
               clear hm10)
            | (go_at_call 15; refine Calls.mono (T15.out _ C10.out) ?_; rintro e w11 ⟨rfl, m, hm11⟩; have C11 : Hid (Chg (fun _ => False) wr w11) := by rw [hm11]; exact ⟨C10.out.os, C10.out.tape, C10.out.output, C10.out.size, C10.out.block⟩
               clear hm11)
            | (go_at_call 16; refine Calls.mono (T16.out _ C11.out) ?_; rintro e w12 ⟨rfl, hw12⟩; replace hw12 := hw12.symm; subst hw12))
          refine bodyPost_ret (results_tt rfl _ _) rfl ?_
          exact ⟨_, rfl, TOT.out.trans C11.out (fun _ e => e.elim)⟩
        · have p1 := NO1.out hE0
          have p2 := NO2.out hE0
          subst p1
          subst p2
          clear hid YES1 YES2 NO1 NO2 HE tot ch c46
          have hb0 : (E != 0) = true := by simp [hE0]
          go_wp2_with fail
          refine bodyPost_ret (results_tt rfl _ _) rfl ?_
          exact ⟨none, rfl, TOT.out⟩
  · have NW : Hid _ := new_no (w := W) s z ok
    have NX : Hid _ := xnew_no (w := W) s z ok
    clear ok
    go_enter Try.func4, Try.ntmps4
    go_upto_region 1 with fail
    rw [← hX, ← hW]
    clear hX hW
    go_wp2_with (first | (go_at_call 7; refine Calls.mono NW.out ?_; rintro e w1 ⟨rfl, hw1⟩; subst hw1) | (go_at_call 8; refine Calls.mono NX.out ?_; rintro e w1 ⟨rfl, hw1⟩; subst hw1))
    refine bodyPost_ret (results_tt rfl _ _) rfl ?_
    exact ⟨none, rfl, CW.out⟩

theorem Try.suSz : (Try.prog.info? 25).map (·.size) = some 5 := by kernel_rfl
set_option maxRecDepth 100000 in
set_option maxHeartbeats 1000000 in
theorem opens_any {w : World} {A : Option Addr} {n c : Nat} {ms : Nat → Mk} {sp s z S a b : Int} (hr : RowsIn w (fun g => g < w.heap.size) A n 2 (mF ms)) (hm : ∀ i, i < n → 0 ≤ (ms i).se) (hn : n * 16 ≤ 140737488355328)
    (hsp : I64 sp) (ha : I64 a) (hb : I64 b) :
    Calls Try.prog 3 #[.agg (suC s z sp S A n c).toArray, .int .i64 a, .int .i64 b] w fun e w' => e = .returned (.bool true) ∧ Below w.heap.size w w' := by
  obtain ⟨X, hX⟩ : ∃ X, X = w.heap.size := ⟨_, rfl⟩
  obtain ⟨W, hW⟩ : ∃ W, W = w.alloc (.cells (suC s z sp S A n c).toArray 25) := ⟨_, rfl⟩
  have cW : Chg (fun _ => False) w W := by rw [hW]; exact (Chg.refl _ _).alloc _
  have bX : Blk W X (suC s z sp S A n c) 25 := by rw [hW, hX]; exact Blk.made _ _ _
  have CW : Hid _ := cW
  have BX : Hid _ := bX
  have BG : Hid _ := begin_any (w := W) (s := s) (z := z) (S := S) (c := c) ((hr.kept cW (fun _ _ e => e)).mono (fun _ e => Nat.lt_of_lt_of_le e cW.size)) hm hn hsp
  have C5 : Hid (∀ w, Calls Try.prog 5 #[.int .i64 a, .int .i64 b] w fun e w' => e = .returned (.int .i64 (cnt a b)) ∧ w' = w) := fun w => count_any a b ha.r hb.r
  have C6 : Hid (∀ w, Calls Try.prog 6 #[.int .i64 a, .int .i64 b] w fun e w' => e = .returned (.int .i64 (cnt a b)) ∧ w' = w) := fun w => xcount_any a b ha.r hb.r
  obtain ⟨M, hM⟩ : ∃ M, M = cnt a b := ⟨_, rfl⟩
  rw [← hM] at C5 C6
  clear hr hm hn hsp ha hb cW bX hM
  go_enter Try.func3, Try.ntmps3
  go_upto_region 1 with fail
  rw [← hX, ← hW]
  clear hX hW
  go_wp2_with (first
    | refine wpList_load_part rfl 25 (.tmp 3) rfl X 0 (suC s z sp S A n c) rfl BX.out rfl Try.underlying25 rfl Try.suSz ?_
    | (go_at_call 4; refine Calls.mono BG.out ?_; rintro e w1 ⟨P, rfl, hch⟩; have CH : Hid _ := hch; clear hch)
    | (go_at_call 5; refine Calls.mono (C5.out _) ?_; rintro e w2 ⟨rfl, hw2⟩; replace hw2 := hw2.symm; subst hw2)
    | (go_at_call 6; refine Calls.mono (C6.out _) ?_; rintro e w2 ⟨rfl, hw2⟩; replace hw2 := hw2.symm; subst hw2))
  go_ret
  exact ⟨rfl, (CW.out.trans CH.out (fun _ e => e.elim)).below (Nat.le_refl _) (fun _ e => e.elim)⟩
end Go.Proofs.Ytnfcmpffihmnmaa
