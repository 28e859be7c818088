/-
  DiskMakes, whole.
-/
import Derived.Test.YtibcpokfgogopabDisk2
import Derived.Test.YtibcpokfgogopabRefD
namespace Go.Proofs.Ytibcpokfgogopab
open Go.RowKit

set_option maxRecDepth 100000 in
set_option maxHeartbeats 2000000 in
theorem makes_no {w : World} (s z : Int) (h : ¬ okDisk s z) :
    Calls Try.prog 7 #[.int .i64 s, .int .i64 z] w fun e w' => e = .returned (.bool true) ∧ Below w.heap.size w w' := by
  have H1 : Hid _ := new_no (w := w) s z h
  have H2 : Hid _ := xnew_no (w := w) s z h
  clear h
  go_enter Try.func7, Try.ntmps7
  go_wp2_with (first | (go_at_call 18; refine Calls.mono H1.out ?_; rintro e w9 ⟨rfl, h9⟩; subst h9) | (go_at_call 26; refine Calls.mono H2.out ?_; rintro e w9 ⟨rfl, h9⟩; subst h9))
  go_ret
  exact ⟨rfl, Below.refl _ _⟩

/-- The two disks and the list while they are asked. -/
structure ST (w wr : World) (p m c q L : Nat) (s : Int) (n : Nat) : Prop where
  dk : ∃ rd, DK wr p s n m c rd 0
  ref : ∃ rd, Rw wr q (rdk s n rd) 34
  row : Rw wr L #[.int .i64 0, .int .i64 (s - 1), .int .i64 s, .int .i64 (-1)] 62
  bel : Below w.heap.size w wr
/-- Where they lie. -/
structure PL (w : World) (p m c q L : Nat) : Prop where
  hp : w.heap.size ≤ p
  hm : m < q
  hc : c < q
  pq : p < q
  qL : q < L

section
variable {w wr w' : World} {p m c q L : Nat} {s : Int} {n : Nat}
theorem Rw.chg {cs : Array Value} {t : TypeId} {g : Nat} {S : Nat → Prop} (h : Rw wr g cs t) (k : Chg S wr w') (hn : ¬ S g) : Rw w' g cs t := ⟨k.heap_some h.eq hn⟩
theorem DK.chg {rd fl z : Int} {S : Nat → Prop} (h : DK wr p s z m c rd fl) (k : Chg S wr w') (hp : ¬ S p) (hm : ¬ S m) (hc : ¬ S c) : DK w' p s z m c rd fl :=
  ⟨k.heap_some h.blk hp, k.heap_some h.mm hm, k.heap_some h.mc hc, h.pm, h.pc⟩
theorem bel_chg (h : Below w.heap.size w wr) {g : Nat} (k : Chg (fun i => i = g) wr w') (hg : w.heap.size ≤ g) : Below w.heap.size w w' :=
  h.trans (k.below h.size (fun i e => by omega))
theorem ST.ofDisk (P : PL w p m c q L) (h : ST w wr p m c q L s n) (k : Chg (fun i => i = p) wr w') (hd : ∃ rd, DK w' p s n m c rd 0) : ST w w' p m c q L s n :=
  ⟨hd, h.ref.imp fun _ r => Rw.chg r k (by have := P.pq; omega), Rw.chg h.row k (by have := P.pq; have := P.qL; omega), bel_chg h.bel k P.hp⟩
theorem ST.ofRef (P : PL w p m c q L) (h : ST w wr p m c q L s n) (k : Chg (fun i => i = q) wr w') (hr : ∃ rd, Rw w' q (rdk s n rd) 34) : ST w w' p m c q L s n :=
  ⟨h.dk.imp fun _ d => DK.chg d k (by have := P.pq; omega) (by have := P.hm; omega) (by have := P.hc; omega), hr, Rw.chg h.row k (by have := P.qL; omega), bel_chg h.bel k (by have := P.hp; have := P.pq; omega)⟩
theorem ST.drewN (h : ST w wr p m c q L s n) (j : Nat) : ST w (wr.drewN j) p m c q L s n :=
  ⟨h.dk.imp fun _ d => ⟨d.blk, d.mm, d.mc, d.pm, d.pc⟩, h.ref.imp fun _ r => ⟨r.eq⟩, ⟨h.row.eq⟩, ⟨h.bel.os, h.bel.tape, h.bel.output, h.bel.size, h.bel.block⟩⟩
end

set_option maxRecDepth 100000 in
set_option maxHeartbeats 4000000 in
theorem makes_yes {w : World} (s : Int) (n : Nat) (h : okDisk s n) :
    Calls Try.prog 7 #[.int .i64 s, .int .i64 n] w fun e w' => e = .returned (.bool true) ∧ Below w.heap.size w w' := by
  have H1 : Hid _ := new_yes (w := w) s n h
  have H2 : Hid (∀ w1, Calls Try.prog 26 #[.int .i64 s, .int .i64 n] w1 fun e w' => e = .returned (.tuple #[.pointer (some ⟨w1.heap.size, 0, none⟩), .int .i64 0]) ∧ Rw w' w1.heap.size (rdk s n 0) 34 ∧ Below w1.heap.size w1 w') := fun w1 => xnew_yes s n h
  have hs1 : 1 ≤ s := h.2.1
  have hs2 : s ≤ 65536 := h.2.2.1
  have hn : n ≤ 4096 := by have := (fits_b h.1).2; omega
  clear h
  go_enter Try.func7, Try.ntmps7
  go_wp2_with (go_at_call 18; refine Calls.mono H1.out ?_; rintro e w1 ⟨rfl, d1, b1⟩; have D1 : Hid _ := d1; have B1 : Hid _ := b1; clear d1 b1)
  refine Calls.mono (H2.out _) ?_
  rintro e w2 ⟨rfl, r2, b2⟩
  have hlt1 : w.heap.size + 2 < w1.heap.size := DK.lt D1.out
  have hlt2 : w1.heap.size < w2.heap.size := Rw.lt r2
  obtain ⟨w3, hw3⟩ : ∃ w3, w3 = w2.alloc (.cells #[.int .i64 0, .int .i64 (s - 1), .int .i64 s, .int .i64 (-1)] 62) := ⟨_, rfl⟩
  have hb3 : Below w2.heap.size w2 w3 := by rw [hw3]; exact (Below.refl _ _).alloc (Nat.le_refl _) _
  have S3 : Hid (ST w w3 (w.heap.size + 2) w.heap.size (w.heap.size + 1) w1.heap.size w2.heap.size s n) :=
    ⟨⟨0, (DK.keep (DK.keep D1.out b2) hb3)⟩, ⟨0, Rw.keep r2 hb3⟩, by rw [hw3]; exact ⟨heap_alloc_new _ _⟩, (B1.out.trans (b2.mono B1.out.size)).trans (hb3.mono (by omega))⟩
  have P : PL w (w.heap.size + 2) w.heap.size (w.heap.size + 1) w1.heap.size w2.heap.size := ⟨by omega, by omega, by omega, by omega, by omega⟩
  have PP : Hid _ := P
  clear r2 b2 hb3 P D1 B1 H1 H2
  go_wp2_with fail
  rw [← hw3]
  clear hw3
  go_loopw [10] (fun x wr => ∃ k : Nat, k ≤ 4 ∧ x = .int .i64 k ∧ ST w wr (w.heap.size + 2) w.heap.size (w.heap.size + 1) w1.heap.size w2.heap.size s n) (fun x _ => 4 - (intOf x).toNat)
  case atStart => exact ⟨0, by omega, rfl, S3.out⟩
  case round =>
    obtain ⟨k, hk, rfl, hst⟩ := hrel
    by_cases hlt : k < 4
    · obtain ⟨x, hx, hx1, hx2⟩ : ∃ x : Int, (∀ v, Rw v w2.heap.size #[.int .i64 0, .int .i64 (s - 1), .int .i64 s, .int .i64 (-1)] 62 → v.cell? ⟨w2.heap.size, k, none⟩ = some (.int .i64 x)) ∧ -1 ≤ x ∧ x ≤ 65536 := by
        match k, hlt with
        | 0, _ => exact ⟨0, fun v h => Rw.cell h 0, by omega, by omega⟩
        | 1, _ => exact ⟨s - 1, fun v h => Rw.cell h 1, by omega, by omega⟩
        | 2, _ => exact ⟨s, fun v h => Rw.cell h 2, by omega, by omega⟩
        | 3, _ => exact ⟨-1, fun v h => Rw.cell h 3, by omega, by omega⟩
      have HX : Hid _ := hx
      have hx0 := hx wr hst.row
      have T0 : Hid _ := hst
      clear hx hst
      have hql : w1.heap.size < wr.heap.size := by have := Rw.lt T0.out.row; omega
      by_cases hin : 0 ≤ x ∧ x < s
      · go_wp2_with fail
        obtain ⟨rd, hd⟩ := T0.out.dk
        refine Calls.mono (read_yes hd hn x hin.1 hin.2 hs2) ?_
        rintro e wa ⟨v, rfl, dk', ch, g, rfl, hg, rg⟩
        have T1 : Hid (ST w wa (w.heap.size + 2) w.heap.size (w.heap.size + 1) w1.heap.size w2.heap.size s n) := ST.ofDisk PP.out T0.out ch dk'
        have hxa := HX.out wa T1.out.row
        have RG : Hid _ := rg
        have hga : w1.heap.size < wa.heap.size := by have := ch.size; omega
        clear hd dk' ch rg hx0
        go_wp2_with fail
        obtain ⟨rd2, hr2⟩ := T1.out.ref
        refine Calls.mono (xread_yes hr2 hn x hin.1 hin.2) ?_
        rintro e wb ⟨v2, rfl, rf', ch2, g2, rfl, hg2, rg2⟩
        have T2 : Hid (ST w wb (w.heap.size + 2) w.heap.size (w.heap.size + 1) w1.heap.size w2.heap.size s n) := ST.ofRef PP.out T1.out ch2 rf'
        have RG2 : Hid _ := rg2
        have RG1 : Hid _ := Rw.chg RG.out ch2 (by omega)
        clear hr2 rf' ch2 rg2 hxa
        go_wp2_with fail
        refine Calls.mono (same_zer RG1.out RG2.out hn) ?_
        rintro e wc ⟨rfl, j, rfl⟩
        have T3 : Hid _ := ST.drewN T2.out j
        go_wp2_with fail
        go_roundw
        case rel => exact ⟨k + 1, by omega, by go_num, T3.out⟩
        case measure => simp [intOf]; omega
      · go_wp2_with fail
        obtain ⟨rd, hd⟩ := T0.out.dk
        refine Calls.mono (read_no hd x hin) ?_
        rintro e wa ⟨rfl, h9⟩
        subst h9
        clear hd
        go_wp2_with fail
        obtain ⟨rd2, hr2⟩ := T0.out.ref
        refine Calls.mono (xread_no hr2 x hin) ?_
        rintro e wb ⟨rfl, h9⟩
        subst h9
        clear hr2
        go_wp2_with fail
        refine Calls.mono same_nil ?_
        rintro e wc ⟨rfl, h9⟩
        subst h9
        go_wp2_with fail
        go_roundw
        case rel => exact ⟨k + 1, by omega, by go_num, T0.out⟩
        case measure => simp [intOf]; omega
    · have T0 : Hid _ := hst
      clear hst
      obtain ⟨rd, hd⟩ := T0.out.dk
      have HD : Hid _ := hd
      clear hd
      go_wp2_with (first | (go_at_call 14; refine Calls.mono (sectors_any HD.out) ?_; rintro e w9 ⟨rfl, h9⟩; subst h9) | (go_at_call 15; refine Calls.mono (size_any HD.out) ?_; rintro e w9 ⟨rfl, h9⟩; subst h9))
      refine Calls.mono (off_any HD.out) ?_
      rintro e wa ⟨rfl, d1, ch1⟩
      have D1 : Hid _ := d1
      have B1 : Hid (Below w.heap.size w wa) := bel_chg T0.out.bel ch1 (by omega)
      clear d1 ch1 T0 HD
      go_wp2_with fail
      refine Calls.mono (pending_any D1.out) ?_
      rintro e wb ⟨a, rfl, d2, ch2⟩
      have D2 : Hid _ := d2
      have B2 : Hid (Below w.heap.size w wb) := bel_chg B1.out ch2 (by omega)
      clear d2 ch2 D1 B1
      go_wp2_with fail
      refine Calls.mono (flush_any D2.out) ?_
      rintro e wc ⟨rfl, ch3⟩
      have B3 : Hid (Below w.heap.size w wc) := bel_chg B2.out ch3 (by omega)
      clear ch3 D2 B2
      go_wp2_with fail
      go_ret
      exact ⟨rfl, B3.out⟩
end Go.Proofs.Ytibcpokfgogopab
