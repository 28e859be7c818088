/-
  The walk of DiskFuses.
-/
import Derived.Test.YtjliibiohgcaeaaPack
import Derived.Deep.RegionWith
namespace Go.Proofs.Ytjliibiohgcaeaa
open Go.RowKit Go.RwLone

theorem on1 : bnE (-1) false = 0 := by simp [bnE]
theorem on2 : bnF (-1) false = -1 := by simp [bnF]
theorem on3 : bnO (-1) false = false := by simp [bnO]
/-- Behind i calls of n. -/
def FS (n i f : Int) (o : Bool) : Prop := (n < 0 ∧ f = -1 ∧ o = false) ∨ (0 ≤ n ∧ i ≤ n ∧ f = n - i ∧ o = false) ∨ (0 ≤ n ∧ n < i ∧ f = 0 ∧ o = true)

theorem FS.start (n : Int) : FS n 0 (max n (-1)) false := by
  unfold FS
  by_cases h : n < 0
  · exact .inl ⟨h, by omega, rfl⟩
  · exact .inr (.inl ⟨by omega, by omega, by omega, rfl⟩)
theorem FS.bd {n i f : Int} {o : Bool} (h : FS n i f o) (hi : 0 ≤ i) (hn : n ≤ 9223372036854775807) : -1 ≤ f ∧ f ≤ 9223372036854775807 := by
  rcases h with ⟨_, h, _⟩ | ⟨_, _, h, _⟩ | ⟨_, _, h, _⟩ <;> omega
theorem FS.gone {n i f : Int} {o : Bool} (h : FS n i f o) (hg : 0 ≤ n ∧ n ≤ i) : bnE f o = 32 ∧ bnO f o = true ∧ FS n (i + 1) (bnF f o) true := by
  have hx : o = true ∨ f = 0 := by
    rcases h with ⟨h, _⟩ | ⟨_, h1, h2, _⟩ | ⟨_, _, _, h⟩
    · omega
    · exact .inr (by omega)
    · exact .inl h
  have hf : f = 0 := by
    rcases h with ⟨h, _⟩ | ⟨_, h1, h2, _⟩ | ⟨_, _, h, _⟩ <;> omega
  unfold bnE bnO bnF
  rw [if_pos hx, if_pos hx]
  exact ⟨rfl, by simp [hf], .inr (.inr ⟨hg.1, by omega, hf, rfl⟩)⟩
theorem FS.on {n i f : Int} {o : Bool} (h : FS n i f o) (hg : ¬ (0 ≤ n ∧ n ≤ i)) : bnE f o = 0 ∧ bnO f o = false ∧ FS n (i + 1) (bnF f o) false := by
  have ho : o = false := by
    rcases h with ⟨_, _, h⟩ | ⟨_, _, _, h⟩ | ⟨h1, h2, _, _⟩
    · exact h
    · exact h
    · exact absurd ⟨h1, by omega⟩ hg
  subst ho
  have hf : f ≠ 0 := by
    rcases h with ⟨_, h, _⟩ | ⟨_, _, h, _⟩ | ⟨_, _, _, h⟩
    · omega
    · omega
    · cases h
  have hx : ¬ (false = true ∨ f = 0) := by simp [hf]
  unfold bnE bnO bnF
  rw [if_neg hx, if_neg hx]
  refine ⟨rfl, by simp [hf], ?_⟩
  rcases h with ⟨h, h1, _⟩ | ⟨h1, h2, h3, _⟩ | ⟨_, _, _, h⟩
  · exact .inl ⟨h, by simp [h1], rfl⟩
  · exact .inr (.inl ⟨h1, by omega, by rw [if_neg (by omega)]; omega, rfl⟩)
  · cases h

theorem src_row {w : World} {g z : Nat} {l : List Int} (h : Rw w g (bs l).toArray 5) (hl : l.length = z) : Src w (.slice (some ⟨g, 0, none⟩) z z) l := by
  subst hl
  refine .inr ⟨⟨g, 0, none⟩, l.length, rfl, fun j u hu => ⟨rfl, ?_⟩⟩
  rw [Nat.zero_add, h.cell, List.getElem?_toArray]
  exact hu

/-- A slice of bools. -/
structure Bls (w : World) (a : Option Addr) (N : Nat) : Prop where
  row : ∀ i, i < N → ∃ g o bl, a = some ⟨g, o, none⟩ ∧ w.cell? ⟨g, o + i, none⟩ = some (.bool bl)

set_option maxRecDepth 100000 in
set_option maxHeartbeats 4000000 in
theorem fuses_any {W : World} (s z n : Int) (hn1 : -9223372036854775808 ≤ n) (hn2 : n ≤ 9223372036854775807) {a : Option Addr} {N cap : Nat} (hs : Bls W a N) (hN : N ≤ 1048572) :
    Calls Try.prog 5 #[.int .i64 s, .int .i64 z, .int .i64 n, .slice a N cap] W fun e w' => e = .returned (.bool true) ∧ Below W.heap.size W w' := by
  have HS : Hid _ := hs
  have BA : Hid _ := base_any (w := W) s z
  clear hs
  go_enter Try.func5, Try.ntmps5
  go_wp2_with fail
  refine Calls.mono BA.out ?_
  rintro e w9 ⟨⟨S', z', rfl, hS1, hS2, hz⟩, h9⟩
  subst h9
  obtain ⟨S, rfl⟩ : ∃ S : Nat, S' = S := ⟨S'.toNat, by omega⟩
  obtain ⟨Z, rfl⟩ : ∃ Z : Nat, z' = Z := ⟨z'.toNat, by omega⟩
  have hok : okDisk S Z := by
    refine ⟨by unfold fits; omega, by omega, by omega, ?_⟩
    rcases hz with h | h | h <;> rw [h] <;> omega
  have NY : Hid _ := new_yes (w := W) S Z hok
  clear BA hok
  go_wp2_with fail
  refine Calls.mono NY.out ?_
  rintro e w1 ⟨rfl, dk1, bl1⟩
  obtain ⟨B, hB⟩ : ∃ B, B = W.heap.size := ⟨_, rfl⟩
  have fd1 : FD w1 B (W.heap.size + 2) S Z 0 (-1) false := FD.made dk1 (by omega) (by omega) (by omega) (by omega)
  obtain ⟨p, hp⟩ : ∃ p, p = W.heap.size + 2 := ⟨_, rfl⟩
  rw [← hp] at fd1 ⊢
  have FU : Hid _ := FD.fuse fd1 (by have := bl1.size; omega) n hn1 hn2
  rw [← hB] at bl1
  have B1 : Hid _ := bl1
  clear NY dk1 fd1 bl1 hp
  go_wp2_with fail
  refine Calls.mono FU.out ?_
  rintro e w2 ⟨rfl, bl2, fd2⟩
  have B2 : Hid (Below B W w2) := B1.out.trans bl2
  have F2 : Hid _ := fd2
  have hBW : Hid (B ≤ W.heap.size) := by show B ≤ _; omega
  clear FU B1 bl2 fd2
  go_wp2_with fail
  go_loopg [13] (N + 1) (fun gk si wr => ∃ i : Nat, si = .int .i64 i ∧ i ≤ N ∧ N < gk + i ∧ Hid (Below B W wr ∧ ∃ f o, FD wr B p S Z i f o ∧ FS n i f o))
  case atStart => exact ⟨0, rfl, by omega, by omega, B2.out, _, _, F2.out, FS.start n⟩
  case round =>
    obtain ⟨i, rfl, hi, hgk, hid⟩ := hrel
    clear F2 B2
    obtain ⟨bel, f, o, fd, fs⟩ := hid.out
    clear hid
    have hBr : B ≤ wr.heap.size := Nat.le_trans hBW.out bel.size
    by_cases hiN : i = N
    · subst hiN
      have CR : Hid _ := FD.crash fd hBr (by omega) (by omega) 0
      have BE : Hid _ := bel
      clear fd fs bel
      go_wp2_with fail
      refine Calls.mono CR.out ?_
      rintro e w4 ⟨rfl, bl4, fd4⟩
      have bw4 : Below B W w4 := BE.out.trans bl4
      have RD : Hid _ := FD.read_on fd4 (Nat.le_trans hBW.out bw4.size) 0 (by omega) (by omega) (by omega) (by omega)
      have BE4 : Hid _ := bw4
      clear CR bl4 fd4 bw4 BE
      go_wp2_with fail
      refine Calls.mono RD.out ?_
      rintro e w5 ⟨gg, rfl, bl5, fd5⟩
      have bw5 : Below B W w5 := BE4.out.trans bl5
      have OF : Hid _ := FD.off fd5 (Nat.le_trans hBW.out bw5.size)
      have BE5 : Hid _ := bw5
      clear RD bl5 fd5 bw5 BE4
      go_wp2_with fail
      refine Calls.mono OF.out ?_
      rintro e w6 ⟨rfl, bl6, fd6⟩
      have bw6 : Below B W w6 := BE5.out.trans bl6
      have FL0 := FD.flush fd6 (Nat.le_trans hBW.out bw6.size) (by omega) (by omega) (by omega) (by omega)
      rw [on1, on2, on3] at FL0
      have FL : Hid _ := FL0
      have BE6 : Hid _ := bw6
      clear OF bl6 fd6 bw6 BE5 FL0
      go_wp2_with fail
      refine Calls.mono FL.out ?_
      rintro e w7 ⟨rfl, bl7, fd7⟩
      have bw7 : Below B W w7 := BE6.out.trans bl7
      have BE7 : Hid _ := bw7
      have FD7 : Hid _ := fd7
      have hmk := run_mk Z (by omega)
      clear FL bl7 fd7 bw7 BE6
      go_wp2_with fail
      have hch : Chg (fun _ => False) w7 (w7.alloc (.cells (zer Z).toArray 5)) := (Chg.refl _ _).alloc _
      have hrw : Rw (w7.alloc (.cells (zer Z).toArray 5)) w7.heap.size (bs (zs Z)).toArray 5 := ⟨by rw [bs_zs]; exact heap_alloc_new _ _⟩
      have hpl := FD7.out.lt
      have WY := (FD7.out.more hch).write (Nat.le_trans hBW.out (Nat.le_trans BE7.out.size hch.size)) (l := zs Z) (ab := some ⟨w7.heap.size, 0, none⟩) (cb := Z) (src_row hrw (by simp [zs])) (by simp [zs]) (by omega) (by omega) 0 (by omega) (by omega) (by omega) (by omega) (by omega) (by simp [Value.ownBlock]; omega)
      rw [on1] at WY
      refine Calls.mono WY ?_
      rintro e w8 ⟨rfl, bl8, fd8⟩
      have bw8 : Below W.heap.size W w8 := by rw [← hB]; exact (BE7.out.trans (hch.below (Nat.le_trans hBW.out BE7.out.size) (fun _ h => h.elim))).trans bl8
      have BE8 : Hid _ := bw8
      clear WY bw8 bl8 fd8 FD7 BE7 hch hrw hmk hpl
      go_wp2_with fail
      go_ret
      exact ⟨rfl, BE8.out⟩
    · have hil : (i : Int) < (N : Int) := by omega
      obtain ⟨g, off, bl, rfl, hc⟩ := HS.out.row i (by omega)
      have hgW : g < W.heap.size := World.block_lt_of_cell? _ _ hc
      have d0 : wr.cell? ⟨g, off + i, none⟩ = some (.bool bl) := (World.cell?_of_block (a := ⟨g, off + i, none⟩) (bel.block g (by omega))).trans hc
      have BE : Hid _ := bel
      have FDh : Hid _ := fd
      have FSh : Hid _ := fs
      clear hc bel fd fs
      by_cases hg : 0 ≤ n ∧ n ≤ i
      · have hg1 : 0 ≤ n := hg.1
        have hg2 : n ≤ (i : Int) := hg.2
        obtain ⟨f9, fs9, e1, hfd⟩ : ∃ f9, FS n (i + 1) f9 true ∧ bnE f o = 32 ∧ bnF f o = f9 ∧ bnO f o = true := ⟨_, (FS.gone FSh.out hg).2.2, (FS.gone FSh.out hg).1, rfl, (FS.gone FSh.out hg).2.1⟩
        obtain ⟨e2, e3⟩ := hfd
        have hbd := FS.bd FSh.out (by omega) hn2
        have hi1 : ((i + 1 : Nat) : Int) = (i : Int) + 1 := by omega
        have FS9 : Hid (FS n ((i + 1 : Nat) : Int) f9 true) := by show FS n _ _ _; rw [hi1]; exact fs9
        clear fs9 hi1
        cases bl with
        | true =>
          have FL0 := FDh.out.flush hBr (by omega) (by omega) hbd.1 hbd.2
          rw [e1, e2, e3] at FL0
          have FL : Hid _ := FL0
          clear FL0 e1 e2 e3
          go_wp2_with fail
          refine Calls.mono FL.out ?_
          rintro e w4 ⟨rfl, bl4, fd4⟩
          have bw4 : Below B W w4 := BE.out.trans bl4
          have OF : Hid _ := FD.off (fd4.mono (Nat.le_succ i)) (Nat.le_trans hBW.out bw4.size)
          have BE4 : Hid _ := bw4
          clear FL FDh FSh BE bl4 bw4 fd4
          go_wp2_with fail
          refine Calls.mono OF.out ?_
          rintro e w5 ⟨rfl, bl5, fd5⟩
          have bw5 : Below B W w5 := BE4.out.trans bl5
          have RD : Hid _ := FD.read_off fd5 (Nat.le_trans hBW.out bw5.size) 0 (by omega) (by omega)
          have BE5 : Hid _ := bw5
          clear OF bl5 fd5 bw5 BE4
          go_wp2_with fail
          refine Calls.mono RD.out ?_
          rintro e w6 ⟨rfl, bl6, fd6⟩
          have BE6 : Hid (Below B W w6) := BE5.out.trans bl6
          have FD6 : Hid _ := fd6
          clear RD bl6 fd6 BE5
          go_wp2_with fail
          go_roundg (N - i)
          case measure => omega
          case rel => exact ⟨i + 1, by go_num, by omega, by omega, BE6.out, _, _, FD6.out, FS9.out⟩
        | false =>
          have hS0 : ((S : Int) == 0) = false := by simp; omega
          obtain ⟨r, hr, hrS⟩ : ∃ r : Nat, (i : Int).tmod (S : Int) = (r : Int) ∧ r < S := ⟨i % S, by rw [Int.tmod_eq_emod_of_nonneg (by omega)]; rfl, Nat.mod_lt _ (by omega)⟩
          obtain ⟨fl, hfl, hfl2⟩ : ∃ fl : Int, IntKind.u8.wrap (i : Int) = fl ∧ 0 ≤ fl ∧ fl ≤ 255 := ⟨_, rfl, by simp [IntKind.wrap, IntKind.bits, IntKind.signed]; omega⟩
          have WR : Hid _ := fun wq => written_fit (w := wq) (Z : Int) 0 0 0 fl 0 0 0 (.slice none 0 0) 0 Z (by omega) (by omega) (by omega) (by omega) hfl2
          have WX : Hid (∀ w3 gw, Rw w3 gw (bs (wrB fl Z)).toArray 5 → wr.drew.heap.size ≤ gw → Below wr.drew.heap.size wr.drew w3 → Calls Try.prog 19 #[.pointer (some ⟨p, 0, none⟩), .int .i64 r, .slice (some ⟨gw, 0, none⟩) Z Z] w3 fun e w' => e = .returned (.int .i64 32) ∧ Below B W w' ∧ FD w' B p S Z (i + 1) f9 true) := fun w3 gw r3 hg3 b3 => by
            have hc3 : Chg (fun _ => False) wr w3 := ((Chg.refl (fun _ => False) wr).drew).trans (Chg.of_below b3 (fun _ => False)) (fun _ h => h.elim)
            have h := (FDh.out.more hc3).write (Nat.le_trans hBr hc3.size) (l := wrB fl Z) (ab := some ⟨gw, 0, none⟩) (cb := Z) (src_row r3 (wrB_len _ _)) (wrB_len _ _) (by omega) (by omega) r hrS (by omega) (by omega) hbd.1 hbd.2 (by simp [Value.ownBlock]; have := FDh.out.lt; have h9 : wr.drew.heap.size = wr.heap.size := rfl; omega)
            rw [e1, e2, e3] at h
            exact h.mono (fun e w' ⟨h1, h2, h3⟩ => ⟨h1, (BE.out.trans (hc3.below hBr (fun _ h => h.elim))).trans h2, h3⟩)
          clear e1 e2 e3 hfl2
          go_wp2_with fail
          refine wp_region_held_drew (S := fun _ => True) (by kernel_rfl) trivial (fun hH => ?_)
          refine wpAnyH_take (i := 0) (v := .pointer (some ⟨p, 0, none⟩)) rfl (by kernel_rfl) (by kernel_rfl) (by kernel_rfl) (fun _ _ _ h => h) (Or.inl ⟨by rfl, fun _ _ => by go_simp⟩) hH ?_
          refine wpAnyH_take (i := 1) (v := .int .i64 i) rfl (by kernel_rfl) (by kernel_rfl) (by kernel_rfl) (fun _ _ _ h => h) (Or.inl ⟨by rfl, fun _ _ => by go_simp⟩) hH ?_
          refine wpAnyH_take (i := 2) (v := .int .i64 S) rfl (by kernel_rfl) (by kernel_rfl) (by kernel_rfl) (fun _ _ _ h => h) (Or.inl ⟨by rfl, fun _ _ => by go_simp⟩) hH ?_
          refine wpAnyH_take (i := 3) (v := .int .i64 r) rfl (by kernel_rfl) (by kernel_rfl) (by kernel_rfl) (fun _ _ _ h => h) (Or.inl ⟨by rfl, fun _ _ => by go_simp; omega⟩) hH ?_
          refine wpAnyH_take (i := 4) (v := .int .i64 Z) rfl (by kernel_rfl) (by kernel_rfl) (by kernel_rfl) (fun _ _ _ h => h) (Or.inl ⟨by rfl, fun _ _ => by go_simp⟩) hH ?_
          refine wpAnyH_take (i := 5) (v := .int .i64 i) rfl (by kernel_rfl) (by kernel_rfl) (by kernel_rfl) (fun _ _ _ h => h) (Or.inl ⟨by rfl, fun _ _ => by go_simp⟩) hH ?_
          refine wpAnyH_take (i := 6) (v := .int .u8 fl) rfl (by kernel_rfl) (by kernel_rfl) (by kernel_rfl) (fun _ _ _ h => h) (Or.inl ⟨by rfl, fun _ _ => by go_simp⟩) hH ?_
          refine wpAnyH_take (i := 7) (v := .agg (actC 0 0 0 fl 0 0 0 (.slice none 0 0) 0).toArray) rfl (by kernel_rfl) (by kernel_rfl) (by kernel_rfl) (fun _ _ _ h => h) (Or.inl ⟨by rfl, fun _ _ => by go_simp; rfl⟩) hH ?_
          refine wpAnyH_ready (rs := [8]) (by kernel_rfl) (by simp) ?_
          refine AllReadyH.cons rfl (fun K hK => ?_) AllReadyH.nil
          go_simp
          refine Calls.mono (WR.out _) ?_
          rintro e w3 ⟨gw, rfl, rw3, hg3, bel3⟩
          refine hK.out _ _ trivial (fun h1 => ?_)
          clear hK K hH
          refine wpAnyH_ready (rs := [9]) (by kernel_rfl) (by simp) ?_
          refine AllReadyH.cons rfl (fun K hK => ?_) AllReadyH.nil
          go_simp
          refine Calls.mono (WX.out _ _ rw3 hg3 bel3) ?_
          rintro e w4 ⟨rfl, bl4, fd4⟩
          have BE4 : Hid _ := bl4
          have FD4 : Hid _ := fd4
          refine hK.out _ _ trivial (fun h2 => ?_)
          clear hK K h1 rw3 hg3 bel3 bl4 fd4
          refine wpAnyH_take (i := 10) (v := .int .i64 32) rfl (by kernel_rfl) (by kernel_rfl) (by kernel_rfl) (fun _ _ _ h => h) (Or.inl ⟨by rfl, fun _ _ => by go_simp⟩) h2 ?_
          refine wpAnyH_done (by kernel_rfl) ?_ _
          have OF : Hid _ := FD.off FD4.out (Nat.le_trans hBW.out BE4.out.size)
          clear WR WX FD4 FDh FSh BE hr hfl hS0
          go_wp2_with fail
          refine Calls.mono OF.out ?_
          rintro e w5 ⟨rfl, bl5, fd5⟩
          have bw5 : Below B W w5 := BE4.out.trans bl5
          have RD : Hid _ := FD.read_off fd5 (Nat.le_trans hBW.out bw5.size) 0 (by omega) (by omega)
          have BE5 : Hid _ := bw5
          clear OF bl5 fd5 bw5 BE4
          go_wp2_with fail
          refine Calls.mono RD.out ?_
          rintro e w6 ⟨rfl, bl6, fd6⟩
          have BE6 : Hid (Below B W w6) := BE5.out.trans bl6
          have FD6 : Hid _ := fd6
          clear RD bl6 fd6 BE5
          go_wp2_with fail
          go_roundg (N - i)
          case measure => omega
          case rel => exact ⟨i + 1, by go_num, by omega, by omega, BE6.out, _, _, FD6.out, FS9.out⟩
      · rcases (show n < 0 ∨ (0 ≤ n ∧ (i : Int) < n) by omega) with hg1 | ⟨hg1, hg2⟩
        · obtain ⟨f9, fs9, e1, hfd⟩ : ∃ f9, FS n (i + 1) f9 false ∧ bnE f o = 0 ∧ bnF f o = f9 ∧ bnO f o = false := ⟨_, (FS.on FSh.out hg).2.2, (FS.on FSh.out hg).1, rfl, (FS.on FSh.out hg).2.1⟩
          obtain ⟨e2, e3⟩ := hfd
          have hbd := FS.bd FSh.out (by omega) hn2
          have hi1 : ((i + 1 : Nat) : Int) = (i : Int) + 1 := by omega
          have FS9 : Hid (FS n ((i + 1 : Nat) : Int) f9 false) := by show FS n _ _ _; rw [hi1]; exact fs9
          clear fs9 hi1
          cases bl with
          | true =>
            have FL0 := FDh.out.flush hBr (by omega) (by omega) hbd.1 hbd.2
            rw [e1, e2, e3] at FL0
            have FL : Hid _ := FL0
            clear FL0 e1 e2 e3
            go_wp2_with fail
            refine Calls.mono FL.out ?_
            rintro e w4 ⟨rfl, bl4, fd4⟩
            have bw4 : Below B W w4 := BE.out.trans bl4
            have OF : Hid _ := FD.off (fd4.mono (Nat.le_succ i)) (Nat.le_trans hBW.out bw4.size)
            have BE4 : Hid _ := bw4
            clear FL FDh FSh BE bl4 bw4 fd4
            go_wp2_with fail
            refine Calls.mono OF.out ?_
            rintro e w5 ⟨rfl, bl5, fd5⟩
            have bw5 : Below B W w5 := BE4.out.trans bl5
            have RD : Hid _ := FD.read_on fd5 (Nat.le_trans hBW.out bw5.size) 0 (by omega) (by omega) (by omega) (by omega)
            have BE5 : Hid _ := bw5
            clear OF bl5 fd5 bw5 BE4
            go_wp2_with fail
            refine Calls.mono RD.out ?_
            rintro e w6 ⟨gg, rfl, bl6, fd6⟩
            have BE6 : Hid (Below B W w6) := BE5.out.trans bl6
            have FD6 : Hid _ := fd6
            clear RD bl6 fd6 BE5
            go_wp2_with fail
            go_roundg (N - i)
            case measure => omega
            case rel => exact ⟨i + 1, by go_num, by omega, by omega, BE6.out, _, _, FD6.out, FS9.out⟩
          | false =>
            have hS0 : ((S : Int) == 0) = false := by simp; omega
            obtain ⟨r, hr, hrS⟩ : ∃ r : Nat, (i : Int).tmod (S : Int) = (r : Int) ∧ r < S := ⟨i % S, by rw [Int.tmod_eq_emod_of_nonneg (by omega)]; rfl, Nat.mod_lt _ (by omega)⟩
            obtain ⟨fl, hfl, hfl2⟩ : ∃ fl : Int, IntKind.u8.wrap (i : Int) = fl ∧ 0 ≤ fl ∧ fl ≤ 255 := ⟨_, rfl, by simp [IntKind.wrap, IntKind.bits, IntKind.signed]; omega⟩
            have WR : Hid _ := fun wq => written_fit (w := wq) (Z : Int) 0 0 0 fl 0 0 0 (.slice none 0 0) 0 Z (by omega) (by omega) (by omega) (by omega) hfl2
            have WX : Hid (∀ w3 gw, Rw w3 gw (bs (wrB fl Z)).toArray 5 → wr.drew.heap.size ≤ gw → Below wr.drew.heap.size wr.drew w3 → Calls Try.prog 19 #[.pointer (some ⟨p, 0, none⟩), .int .i64 r, .slice (some ⟨gw, 0, none⟩) Z Z] w3 fun e w' => e = .returned (.int .i64 0) ∧ Below B W w' ∧ FD w' B p S Z (i + 1) f9 false) := fun w3 gw r3 hg3 b3 => by
              have hc3 : Chg (fun _ => False) wr w3 := ((Chg.refl (fun _ => False) wr).drew).trans (Chg.of_below b3 (fun _ => False)) (fun _ h => h.elim)
              have h := (FDh.out.more hc3).write (Nat.le_trans hBr hc3.size) (l := wrB fl Z) (ab := some ⟨gw, 0, none⟩) (cb := Z) (src_row r3 (wrB_len _ _)) (wrB_len _ _) (by omega) (by omega) r hrS (by omega) (by omega) hbd.1 hbd.2 (by simp [Value.ownBlock]; have := FDh.out.lt; have h9 : wr.drew.heap.size = wr.heap.size := rfl; omega)
              rw [e1, e2, e3] at h
              exact h.mono (fun e w' ⟨h1, h2, h3⟩ => ⟨h1, (BE.out.trans (hc3.below hBr (fun _ h => h.elim))).trans h2, h3⟩)
            clear e1 e2 e3 hfl2
            go_wp2_with fail
            refine wp_region_held_drew (S := fun _ => True) (by kernel_rfl) trivial (fun hH => ?_)
            refine wpAnyH_take (i := 0) (v := .pointer (some ⟨p, 0, none⟩)) rfl (by kernel_rfl) (by kernel_rfl) (by kernel_rfl) (fun _ _ _ h => h) (Or.inl ⟨by rfl, fun _ _ => by go_simp⟩) hH ?_
            refine wpAnyH_take (i := 1) (v := .int .i64 i) rfl (by kernel_rfl) (by kernel_rfl) (by kernel_rfl) (fun _ _ _ h => h) (Or.inl ⟨by rfl, fun _ _ => by go_simp⟩) hH ?_
            refine wpAnyH_take (i := 2) (v := .int .i64 S) rfl (by kernel_rfl) (by kernel_rfl) (by kernel_rfl) (fun _ _ _ h => h) (Or.inl ⟨by rfl, fun _ _ => by go_simp⟩) hH ?_
            refine wpAnyH_take (i := 3) (v := .int .i64 r) rfl (by kernel_rfl) (by kernel_rfl) (by kernel_rfl) (fun _ _ _ h => h) (Or.inl ⟨by rfl, fun _ _ => by go_simp; omega⟩) hH ?_
            refine wpAnyH_take (i := 4) (v := .int .i64 Z) rfl (by kernel_rfl) (by kernel_rfl) (by kernel_rfl) (fun _ _ _ h => h) (Or.inl ⟨by rfl, fun _ _ => by go_simp⟩) hH ?_
            refine wpAnyH_take (i := 5) (v := .int .i64 i) rfl (by kernel_rfl) (by kernel_rfl) (by kernel_rfl) (fun _ _ _ h => h) (Or.inl ⟨by rfl, fun _ _ => by go_simp⟩) hH ?_
            refine wpAnyH_take (i := 6) (v := .int .u8 fl) rfl (by kernel_rfl) (by kernel_rfl) (by kernel_rfl) (fun _ _ _ h => h) (Or.inl ⟨by rfl, fun _ _ => by go_simp⟩) hH ?_
            refine wpAnyH_take (i := 7) (v := .agg (actC 0 0 0 fl 0 0 0 (.slice none 0 0) 0).toArray) rfl (by kernel_rfl) (by kernel_rfl) (by kernel_rfl) (fun _ _ _ h => h) (Or.inl ⟨by rfl, fun _ _ => by go_simp; rfl⟩) hH ?_
            refine wpAnyH_ready (rs := [8]) (by kernel_rfl) (by simp) ?_
            refine AllReadyH.cons rfl (fun K hK => ?_) AllReadyH.nil
            go_simp
            refine Calls.mono (WR.out _) ?_
            rintro e w3 ⟨gw, rfl, rw3, hg3, bel3⟩
            refine hK.out _ _ trivial (fun h1 => ?_)
            clear hK K hH
            refine wpAnyH_ready (rs := [9]) (by kernel_rfl) (by simp) ?_
            refine AllReadyH.cons rfl (fun K hK => ?_) AllReadyH.nil
            go_simp
            refine Calls.mono (WX.out _ _ rw3 hg3 bel3) ?_
            rintro e w4 ⟨rfl, bl4, fd4⟩
            have BE4 : Hid _ := bl4
            have FD4 : Hid _ := fd4
            refine hK.out _ _ trivial (fun h2 => ?_)
            clear hK K h1 rw3 hg3 bel3 bl4 fd4
            refine wpAnyH_take (i := 10) (v := .int .i64 0) rfl (by kernel_rfl) (by kernel_rfl) (by kernel_rfl) (fun _ _ _ h => h) (Or.inl ⟨by rfl, fun _ _ => by go_simp⟩) h2 ?_
            refine wpAnyH_done (by kernel_rfl) ?_ _
            have OF : Hid _ := FD.off FD4.out (Nat.le_trans hBW.out BE4.out.size)
            clear WR WX FD4 FDh FSh BE hr hfl hS0
            go_wp2_with fail
            refine Calls.mono OF.out ?_
            rintro e w5 ⟨rfl, bl5, fd5⟩
            have bw5 : Below B W w5 := BE4.out.trans bl5
            have RD : Hid _ := FD.read_on fd5 (Nat.le_trans hBW.out bw5.size) 0 (by omega) (by omega) (by omega) (by omega)
            have BE5 : Hid _ := bw5
            clear OF bl5 fd5 bw5 BE4
            go_wp2_with fail
            refine Calls.mono RD.out ?_
            rintro e w6 ⟨gg, rfl, bl6, fd6⟩
            have BE6 : Hid (Below B W w6) := BE5.out.trans bl6
            have FD6 : Hid _ := fd6
            clear RD bl6 fd6 BE5
            go_wp2_with fail
            go_roundg (N - i)
            case measure => omega
            case rel => exact ⟨i + 1, by go_num, by omega, by omega, BE6.out, _, _, FD6.out, FS9.out⟩
        · obtain ⟨f9, fs9, e1, hfd⟩ : ∃ f9, FS n (i + 1) f9 false ∧ bnE f o = 0 ∧ bnF f o = f9 ∧ bnO f o = false := ⟨_, (FS.on FSh.out hg).2.2, (FS.on FSh.out hg).1, rfl, (FS.on FSh.out hg).2.1⟩
          obtain ⟨e2, e3⟩ := hfd
          have hbd := FS.bd FSh.out (by omega) hn2
          have hi1 : ((i + 1 : Nat) : Int) = (i : Int) + 1 := by omega
          have FS9 : Hid (FS n ((i + 1 : Nat) : Int) f9 false) := by show FS n _ _ _; rw [hi1]; exact fs9
          clear fs9 hi1
          cases bl with
          | true =>
            have FL0 := FDh.out.flush hBr (by omega) (by omega) hbd.1 hbd.2
            rw [e1, e2, e3] at FL0
            have FL : Hid _ := FL0
            clear FL0 e1 e2 e3
            go_wp2_with fail
            refine Calls.mono FL.out ?_
            rintro e w4 ⟨rfl, bl4, fd4⟩
            have bw4 : Below B W w4 := BE.out.trans bl4
            have OF : Hid _ := FD.off (fd4.mono (Nat.le_succ i)) (Nat.le_trans hBW.out bw4.size)
            have BE4 : Hid _ := bw4
            clear FL FDh FSh BE bl4 bw4 fd4
            go_wp2_with fail
            refine Calls.mono OF.out ?_
            rintro e w5 ⟨rfl, bl5, fd5⟩
            have bw5 : Below B W w5 := BE4.out.trans bl5
            have RD : Hid _ := FD.read_on fd5 (Nat.le_trans hBW.out bw5.size) 0 (by omega) (by omega) (by omega) (by omega)
            have BE5 : Hid _ := bw5
            clear OF bl5 fd5 bw5 BE4
            go_wp2_with fail
            refine Calls.mono RD.out ?_
            rintro e w6 ⟨gg, rfl, bl6, fd6⟩
            have BE6 : Hid (Below B W w6) := BE5.out.trans bl6
            have FD6 : Hid _ := fd6
            clear RD bl6 fd6 BE5
            go_wp2_with fail
            go_roundg (N - i)
            case measure => omega
            case rel => exact ⟨i + 1, by go_num, by omega, by omega, BE6.out, _, _, FD6.out, FS9.out⟩
          | false =>
            have hS0 : ((S : Int) == 0) = false := by simp; omega
            obtain ⟨r, hr, hrS⟩ : ∃ r : Nat, (i : Int).tmod (S : Int) = (r : Int) ∧ r < S := ⟨i % S, by rw [Int.tmod_eq_emod_of_nonneg (by omega)]; rfl, Nat.mod_lt _ (by omega)⟩
            obtain ⟨fl, hfl, hfl2⟩ : ∃ fl : Int, IntKind.u8.wrap (i : Int) = fl ∧ 0 ≤ fl ∧ fl ≤ 255 := ⟨_, rfl, by simp [IntKind.wrap, IntKind.bits, IntKind.signed]; omega⟩
            have WR : Hid _ := fun wq => written_fit (w := wq) (Z : Int) 0 0 0 fl 0 0 0 (.slice none 0 0) 0 Z (by omega) (by omega) (by omega) (by omega) hfl2
            have WX : Hid (∀ w3 gw, Rw w3 gw (bs (wrB fl Z)).toArray 5 → wr.drew.heap.size ≤ gw → Below wr.drew.heap.size wr.drew w3 → Calls Try.prog 19 #[.pointer (some ⟨p, 0, none⟩), .int .i64 r, .slice (some ⟨gw, 0, none⟩) Z Z] w3 fun e w' => e = .returned (.int .i64 0) ∧ Below B W w' ∧ FD w' B p S Z (i + 1) f9 false) := fun w3 gw r3 hg3 b3 => by
              have hc3 : Chg (fun _ => False) wr w3 := ((Chg.refl (fun _ => False) wr).drew).trans (Chg.of_below b3 (fun _ => False)) (fun _ h => h.elim)
              have h := (FDh.out.more hc3).write (Nat.le_trans hBr hc3.size) (l := wrB fl Z) (ab := some ⟨gw, 0, none⟩) (cb := Z) (src_row r3 (wrB_len _ _)) (wrB_len _ _) (by omega) (by omega) r hrS (by omega) (by omega) hbd.1 hbd.2 (by simp [Value.ownBlock]; have := FDh.out.lt; have h9 : wr.drew.heap.size = wr.heap.size := rfl; omega)
              rw [e1, e2, e3] at h
              exact h.mono (fun e w' ⟨h1, h2, h3⟩ => ⟨h1, (BE.out.trans (hc3.below hBr (fun _ h => h.elim))).trans h2, h3⟩)
            clear e1 e2 e3 hfl2
            go_wp2_with fail
            refine wp_region_held_drew (S := fun _ => True) (by kernel_rfl) trivial (fun hH => ?_)
            refine wpAnyH_take (i := 0) (v := .pointer (some ⟨p, 0, none⟩)) rfl (by kernel_rfl) (by kernel_rfl) (by kernel_rfl) (fun _ _ _ h => h) (Or.inl ⟨by rfl, fun _ _ => by go_simp⟩) hH ?_
            refine wpAnyH_take (i := 1) (v := .int .i64 i) rfl (by kernel_rfl) (by kernel_rfl) (by kernel_rfl) (fun _ _ _ h => h) (Or.inl ⟨by rfl, fun _ _ => by go_simp⟩) hH ?_
            refine wpAnyH_take (i := 2) (v := .int .i64 S) rfl (by kernel_rfl) (by kernel_rfl) (by kernel_rfl) (fun _ _ _ h => h) (Or.inl ⟨by rfl, fun _ _ => by go_simp⟩) hH ?_
            refine wpAnyH_take (i := 3) (v := .int .i64 r) rfl (by kernel_rfl) (by kernel_rfl) (by kernel_rfl) (fun _ _ _ h => h) (Or.inl ⟨by rfl, fun _ _ => by go_simp; omega⟩) hH ?_
            refine wpAnyH_take (i := 4) (v := .int .i64 Z) rfl (by kernel_rfl) (by kernel_rfl) (by kernel_rfl) (fun _ _ _ h => h) (Or.inl ⟨by rfl, fun _ _ => by go_simp⟩) hH ?_
            refine wpAnyH_take (i := 5) (v := .int .i64 i) rfl (by kernel_rfl) (by kernel_rfl) (by kernel_rfl) (fun _ _ _ h => h) (Or.inl ⟨by rfl, fun _ _ => by go_simp⟩) hH ?_
            refine wpAnyH_take (i := 6) (v := .int .u8 fl) rfl (by kernel_rfl) (by kernel_rfl) (by kernel_rfl) (fun _ _ _ h => h) (Or.inl ⟨by rfl, fun _ _ => by go_simp⟩) hH ?_
            refine wpAnyH_take (i := 7) (v := .agg (actC 0 0 0 fl 0 0 0 (.slice none 0 0) 0).toArray) rfl (by kernel_rfl) (by kernel_rfl) (by kernel_rfl) (fun _ _ _ h => h) (Or.inl ⟨by rfl, fun _ _ => by go_simp; rfl⟩) hH ?_
            refine wpAnyH_ready (rs := [8]) (by kernel_rfl) (by simp) ?_
            refine AllReadyH.cons rfl (fun K hK => ?_) AllReadyH.nil
            go_simp
            refine Calls.mono (WR.out _) ?_
            rintro e w3 ⟨gw, rfl, rw3, hg3, bel3⟩
            refine hK.out _ _ trivial (fun h1 => ?_)
            clear hK K hH
            refine wpAnyH_ready (rs := [9]) (by kernel_rfl) (by simp) ?_
            refine AllReadyH.cons rfl (fun K hK => ?_) AllReadyH.nil
            go_simp
            refine Calls.mono (WX.out _ _ rw3 hg3 bel3) ?_
            rintro e w4 ⟨rfl, bl4, fd4⟩
            have BE4 : Hid _ := bl4
            have FD4 : Hid _ := fd4
            refine hK.out _ _ trivial (fun h2 => ?_)
            clear hK K h1 rw3 hg3 bel3 bl4 fd4
            refine wpAnyH_take (i := 10) (v := .int .i64 0) rfl (by kernel_rfl) (by kernel_rfl) (by kernel_rfl) (fun _ _ _ h => h) (Or.inl ⟨by rfl, fun _ _ => by go_simp⟩) h2 ?_
            refine wpAnyH_done (by kernel_rfl) ?_ _
            have OF : Hid _ := FD.off FD4.out (Nat.le_trans hBW.out BE4.out.size)
            clear WR WX FD4 FDh FSh BE hr hfl hS0
            go_wp2_with fail
            refine Calls.mono OF.out ?_
            rintro e w5 ⟨rfl, bl5, fd5⟩
            have bw5 : Below B W w5 := BE4.out.trans bl5
            have RD : Hid _ := FD.read_on fd5 (Nat.le_trans hBW.out bw5.size) 0 (by omega) (by omega) (by omega) (by omega)
            have BE5 : Hid _ := bw5
            clear OF bl5 fd5 bw5 BE4
            go_wp2_with fail
            refine Calls.mono RD.out ?_
            rintro e w6 ⟨gg, rfl, bl6, fd6⟩
            have BE6 : Hid (Below B W w6) := BE5.out.trans bl6
            have FD6 : Hid _ := fd6
            clear RD bl6 fd6 BE5
            go_wp2_with fail
            go_roundg (N - i)
            case measure => omega
            case rel => exact ⟨i + 1, by go_num, by omega, by omega, BE6.out, _, _, FD6.out, FS9.out⟩
end Go.Proofs.Ytjliibiohgcaeaa
