/-
  The walk of CodecWrites.
-/
import Derived.Test.YtibcpokfgogopaaInv2
import Derived.Deep.CutRange
import Derived.Deep.WholeRow
namespace Go.Proofs.Ytibcpokfgogopaa
open Go.RowKit

/-- A step of a script. -/
structure St where
  kind : Int
  who : Int
  n : Nat
  m : Int
  b : Value
  l : List Int
  z : List Int
  nth : Int

/-- Its cells. -/
def St.cells (s : St) : List Value := stp s.kind s.who s.n s.m s.b s.z s.nth

/-- A script that lies in memory. -/
structure Scr (w : World) (a : Option Addr) (N : Nat) (st : Nat → St) (bud : Nat → Nat) : Prop where
  row : ∀ i, i < N → ∃ g o, a = some ⟨g, o, none⟩ ∧ w.rangeAt g (o + i * 38) (st i).cells
  src : ∀ i, i < N → Src w (st i).b (st i).l
  hz : ∀ i, i < N → (st i).z.length = 32
  hn : ∀ i, i < N → (st i).n < 18446744073709551616
  add : ∀ i, i < N → bud (i + 1) = bud i + (st i).l.length + 33
  tot : ∀ i, i ≤ N → bud i ≤ 100000000
  len : N ≤ 1048576

def Rel (w : World) (N : Nat) (bud : Nat → Nat) (o i : Value) (wr : World) : Prop :=
  ∃ (k q : Nat) (val : Nat → Value) (con : Nat → List Int), k ≤ N ∧ i = .int .i64 k ∧ o = val 4 ∧ Inv w wr w.heap.size val con q ∧ Fine con (bud k) ∧ q ≤ 2 * k ∧ Reps con q

/-- .. between the two writers' askings. -/
def Rel3 (w : World) (B Z : Nat) (o i : Value) (wr : World) : Prop :=
  ∃ (t q : Nat) (val : Nat → Value) (con : Nat → List Int), t ≤ 2 ∧ i = .int .i64 t ∧ o = val 4 ∧ Inv w wr w.heap.size val con q ∧ Fine con B ∧ q ≤ Z + t ∧ Reps con q

theorem rangeAt_chg {w w' : World} {g o : Nat} {cs : List Value} (h : w.rangeAt g o cs) (b : Below w.heap.size w w') : w'.rangeAt g o cs := fun j v hv => by
  have := h j v hv
  rw [b.cell (World.block_lt_of_cell? _ _ this)]; exact this

theorem Try.sz35 : (Try.prog.info? 35).map (·.size) = some 38 := by kernel_rfl
theorem stp_len (kind who : Int) (n : Nat) (m : Int) (b : Value) (z : List Int) (nth : Int) (h : z.length = 32) : (stp kind who n m b z nth).length = 38 := by simp [stp, bs, h]

theorem stp_one {kind who : Int} {n : Nat} {m : Int} {a : Option Addr} {x c : Nat} {z : List Int} {nth : Int} : ∀ v ∈ stp kind who n m (.slice a x c) z nth, v.oneCell' = true := by
  intro v hv
  simp only [stp, List.mem_append, List.mem_cons, List.not_mem_nil, or_false] at hv
  rcases hv with (rfl | rfl | rfl | rfl | rfl) | hv
  · rfl
  · rfl
  · rfl
  · rfl
  · rfl
  · exact bs_one _ v hv

theorem wpList_store_new {ops : Array Oper} {rest : List Oper} {o : Oper} {a : Act} {w : World} {Q : Exit → Act → World → Prop} (hgd : o.guard = none) (ty : TypeId) (x y : Operand) (ho : o.op = .store ty x y)
    {zs : Array Value} {t : TypeId} (cs : List Value) (hx : a.eval x = .pointer (some ⟨w.heap.size, 0, none⟩)) (hy : a.eval y = .agg cs.toArray)
    (hi : (Try.prog.info? ty).map (·.size) = some cs.length) (hsz : zs.size = cs.length) (h1 : ∀ v ∈ cs, v.oneCell' = true)
    (h : wpList Try.prog ops Q rest (a.put o.dst undef) (w.alloc (.cells cs.toArray t))) : wpList Try.prog ops Q (o :: rest) a (w.alloc (.cells zs t)) := by
  refine wpList_store_row hgd ty x y ho w.heap.size cs.toArray hx hy t zs (heap_alloc_new _ _) (by simpa using hi) (by simpa using hsz) (all_oneCell_toArray h1) ?_
  rw [World.setRow_alloc_new]
  exact h

set_option maxRecDepth 100000 in
set_option maxHeartbeats 4000000 in
theorem writes_any {w : World} {a : Option Addr} {N c : Nat} {st : Nat → St} {bud : Nat → Nat} (hs : Scr w a N st bud) :
    Calls Try.prog 3 #[.slice a N c] w fun e w' => e = .returned (.bool true) ∧ Below w.heap.size w w' := by
  have HS : Hid _ := hs
  have hN := hs.len
  clear hs
  go_enter Try.func3, Try.ntmps3
  go_wp2_with fail
  go_loopw [5, 21] (Rel w N bud) (fun _ i _ => N - (intOf i).toNat)
  case atStart => exact ⟨0, 0, _, _, Nat.zero_le _, rfl, rfl, inv_start w, ⟨rfl, rfl, Nat.zero_le _⟩, Nat.zero_le _, fun n hn => by omega⟩
  case round =>
    rename World => wo
    obtain ⟨k, q, val, con, hk, rfl, rfl, hi, hfine, hq, hrep⟩ := hrel
    by_cases hlt : k < N
    · have hbel := hi.bel
      obtain ⟨sg, so, rfl, hrow⟩ := Scr.row HS.out k hlt
      have hrow1 : Hid _ := rangeAt_chg hrow hbel
      have hsrc : Hid _ := Src.kept0 (Scr.src HS.out k hlt) hbel
      have hsrcw : Hid _ := Scr.src HS.out k hlt
      have hz := Scr.hz HS.out k hlt
      have hn := Scr.hn HS.out k hlt
      have hadd := Scr.add HS.out k hlt
      have htot := Scr.tot HS.out (k + 1) (by omega)
      have HR : Hid _ := hrep
      have HI : Hid _ := hi
      have HF : Hid _ := hfine
      clear hrow hbel hrep hi hfine
      generalize st k = s at *
      obtain ⟨kind, who, n, m, b, l, z, nth⟩ := s
      simp only [St.cells] at *
      have hsrcW : Hid (Src w b l) := hsrcw.out
      clear hsrcw
      obtain ⟨a0, c0, hb2⟩ := Src.form hsrc.out
      subst hb2
      obtain ⟨hc0, hc1, _, hc4, _, _, _⟩ := stp_cell wo kind who n m (.slice a0 l.length c0) z nth 35 hz
      go_upto_if 28 with (first | (refine wpList_load_mid rfl 35 (.tmp 24) rfl sg (so + k * 38) rfl (stp kind who n m (.slice a0 l.length c0) z nth) _ hrow1.out Try.underlying35 rfl (by rw [Try.sz35, stp_len _ _ _ _ _ _ _ hz]) ?_) | (refine wpList_store_new rfl 35 (.tmp 7) (.tmp 25) rfl (stp kind who n m (.slice a0 l.length c0) z nth) rfl rfl (by rw [Try.sz35, stp_len _ _ _ _ _ _ _ hz]) (by rw [stp_len _ _ _ _ _ _ _ hz]; rfl) stp_one ?_))
      go_cut [8, 21] from 21 to 140 (fun s8 s21 wx => ∃ kk : Nat, kk < 2 ∧ s8 = .int .i64 kk ∧ s21 = .int .i64 k ∧ wx = wo.alloc (.cells (stp kind who n m (.slice a0 l.length c0) z nth).toArray 35))
      case first =>
        by_cases hw : who = 0
        · go_wp2_with fail
          go_meet
          case rel => exact ⟨0, by omega, rfl, rfl, rfl⟩
        · go_wp2_with fail
          go_meet
          case rel => exact ⟨1, by omega, rfl, rfl, rfl⟩
      case rest =>
        obtain ⟨kk, hkk, rfl, rfl, rfl⟩ := hcut
        have hkI : (kk : Int) < 2 := by omega
        have hA1 : (wo.alloc (.cells (stp kind who n m (.slice a0 l.length c0) z nth).toArray 35)).heap[wo.heap.size]? = some (.cells (stp kind who n m (.slice a0 l.length c0) z nth).toArray 35 (0, 0)) := heap_alloc_new _ _
        have HI1 : Hid _ := Inv.keep0 HI.out ((Below.refl _ _).alloc (Nat.le_refl _) (.cells (stp kind who n m (.slice a0 l.length c0) z nth).toArray 35))
        have S1 : Hid _ := Src.kept0 hsrc.out ((Below.refl _ _).alloc (Nat.le_refl _) (.cells (stp kind who n m (.slice a0 l.length c0) z nth).toArray 35))
        go_wp2_with fail
        refine (roomy_any S1.out (by omega)).mono ?_
        rintro e w2 ⟨a1, c1, rfl, M2⟩
        obtain ⟨M, hM⟩ : ∃ M, M = l.length + 2 := ⟨_, rfl⟩
        rw [← hM] at M2 ⊢
        obtain ⟨g, e1⟩ := Own.addr M2.1 (by simp)
        injection e1 with e1
        subst e1
        have hgA : wo.heap.size + 1 ≤ g := by have := M2.2.2 g rfl; simpa using this
        have hMb : M ≤ 200000000 := by omega
        have HM : Hid _ := M2
        have HMq : Hid _ := hM
        clear hM
        have hA2 : w2.heap[wo.heap.size]? = some (.cells (stp kind who n m (.slice a0 l.length c0) z nth).toArray 35 (0, 0)) := by rw [M2.2.1.block _ (by simp)]; exact hA1
        have HI2 : Hid _ := Inv.keep0 HI1.out M2.2.1
        have S2 : Hid _ := Src.kept0 S1.out M2.2.1
        have hset : (stp kind who n m (.slice a0 l.length c0) z nth).toArray.setIfInBounds 4 (.slice (some ⟨g, 0, none⟩) l.length c1) = (stp kind who n m (.slice (some ⟨g, 0, none⟩) l.length c1) z nth).toArray := rfl
        clear M2 hA1 hc0 hc1 hc4
        go_wp2_with (first | (refine wpList_load_row rfl 35 (.tmp 7) rfl wo.heap.size rfl 35 _ _ _ hA2 Try.underlying35 rfl (by rw [Try.sz35, List.size_toArray, stp_len _ _ _ _ _ _ _ hz]) ?_) | (refine wpList_store_new rfl 35 (.tmp 11) (.tmp 35) rfl (stp kind who n m (.slice a0 l.length c0) z nth) rfl rfl (by rw [Try.sz35, stp_len _ _ _ _ _ _ _ hz]) (by rw [stp_len _ _ _ _ _ _ _ hz]; rfl) stp_one ?_))
        have HI3 : Hid _ := Inv.keep0 HI2.out (((Below.refl _ _).alloc (Nat.le_refl _) (.cells (stp kind who n m (.slice (some ⟨g, 0, none⟩) l.length c1) z nth).toArray 35)).drew)
        have G3 : Hid _ := Src.kept0 (Own.front HM.out.1 c1 (by simp)) (((Below.refl _ _).alloc (Nat.le_refl _) (.cells (stp kind who n m (.slice (some ⟨g, 0, none⟩) l.length c1) z nth).toArray 35)).drew)
        have hg2 : g < w2.heap.size := Own.lt HM.out.1 rfl
        have hsz2 := HM.out.2.1.size
        simp only [World.size_alloc] at hsz2
        have hlow : ∀ i j, i < 5 + q → (val i).ownBlock = some j → j < wo.heap.size := fun i j hi hj => Inv.has HI.out hi hj
        have HL : Hid _ := hlow
        have hlt0 := Inv.lt HI.out
        have hcon : (con kk).length ≤ bud k := (Fine.like HF.out hkk).2
        have hS0 : ((w2.alloc (.cells (stp kind who n m (.slice (some ⟨g, 0, none⟩) l.length c1) z nth).toArray 35)).drew).rangeAt w2.heap.size 0 (stp kind who n m (.slice (some ⟨g, 0, none⟩) l.length c1) z nth) := fun j v hv => by
          have := cell_of_row (w2.alloc (.cells (stp kind who n m (.slice (some ⟨g, 0, none⟩) l.length c1) z nth).toArray 35)).drew w2.heap.size j _ 35 _ (heap_alloc_new _ _)
          rw [Nat.zero_add, this]; simpa using hv
        clear hset hlow
        refine wp_region_held_drew (S := fun w' => w'.rangeAt w2.heap.size 0 (stp kind who n m (.slice (some ⟨g, 0, none⟩) l.length c1) z nth)) (by kernel_rfl) hS0 (fun hH => ?_)
        refine wpAnyH_take (i := 0) (v := .int .i64 kk) rfl (by kernel_rfl) (by kernel_rfl) (by kernel_rfl) (fun _ _ _ h => h) (Or.inl ⟨by rfl, fun w _ => by rfl⟩) hH ?_
        refine wpAnyH_take (i := 2) (v := .agg (stp kind who n m (.slice (some ⟨g, 0, none⟩) l.length c1) z nth).toArray) rfl (by kernel_rfl) (by kernel_rfl) (by kernel_rfl) (fun _ _ _ h => h) (yieldsIf_load_mid (by rfl) _ _ rfl w2.heap.size 0 rfl _ _ (fun w h => h) Try.underlying35 rfl (by rw [Try.sz35, stp_len _ _ _ _ _ _ _ hz])) hH ?_
        refine wpAnyH_ready (rs := [1]) (by kernel_rfl) (by simp) ?_
        refine AllReadyH.cons rfl (fun K hK => ?_) AllReadyH.nil
        go_simp
        refine hK.out _ _ hH (fun _ => ?_)
        clear hK K
        refine wpAnyH_ready (rs := [3]) (by kernel_rfl) (by simp) ?_
        refine AllReadyH.cons rfl (fun K hK => ?_) AllReadyH.nil
        go_simp
        refine (lay_any (Inv.ws HI3.out hkk) G3.out (fun j hj => ?_) kind who n m z nth hz hn (by omega)).mono ?_
        · simp [Value.ownBlock] at hj
          exact ⟨by omega, fun e => by have := HL.out kk j (by omega) e.symm; omega⟩
        rintro e w4 ⟨rfl, P4⟩
        have hch4 : Chg (fun j => j = w.heap.size ∨ some j = (val kk).ownBlock) (w2.alloc (.cells (stp kind who n m (.slice (some ⟨g, 0, none⟩) l.length c1) z nth).toArray 35)).drew w4 := by
          obtain ⟨_, _, x, _⟩ := P4; exact x
        have hout : ∀ j, wo.heap.size ≤ j → ¬ (j = w.heap.size ∨ some j = (val kk).ownBlock) := by
          rintro j hj (e | e)
          · omega
          · have := HL.out kk j (by omega) e.symm; omega
        have hS4 : w4.rangeAt w2.heap.size 0 (stp kind who n m (.slice (some ⟨g, 0, none⟩) l.length c1) z nth) := fun j v hv => hch4.cell_some (hS0 j v hv) (hout _ (by show wo.heap.size ≤ w2.heap.size; omega))
        refine hK.out _ _ hS4 (fun _ => ?_)
        clear hK K
        refine wpAnyH_done (by kernel_rfl) ?_ _
        have hA4 : w4.heap[wo.heap.size]? = some (.cells (stp kind who n m (.slice a0 l.length c0) z nth).toArray 35 (0, 0)) := hch4.heap_some (by rw [← hA2]; exact Below.heap_alloc w2 _ _ (by omega)) (hout _ (Nat.le_refl _))
        have O4 : Hid (Own w4 (.slice (some ⟨g, 0, none⟩) M c1) (l ++ [165, 90])) := Own.kept (Own.kept HM.out.1 (((Chg.refl (fun _ => False) w2).alloc _).drew) (fun _ _ h => h)) hch4 (fun j hj => by simp [Value.ownBlock] at hj; exact hout j (by omega))
        have hc44 : w4.cell? ⟨wo.heap.size, 4, none⟩ = some (.slice a0 l.length c0) := by rw [cell_of_row w4 _ 4 _ 35 _ hA4]; rfl
        obtain ⟨v4, HI4', hat4⟩ := Inv.lay HI3.out hkk P4
        have HG : Hid (∀ i j, i < 5 + q → (upd val kk v4 i).ownBlock = some j → j < wo.heap.size ∨ w2.heap.size < j) := by
          intro i j hi hj
          by_cases e : i = kk
          · subst e
            rw [upd_same] at hj
            rcases hat4 with x | ⟨g', x, hg'⟩
            · exact .inl (HL.out i j hi (by rw [← x, hj]))
            · rw [hj] at x; injection x with x
              have hg'' : w2.heap.size + 1 ≤ g' := by simpa using hg'
              exact .inr (by omega)
          · rw [upd_other _ _ e] at hj; exact .inl (HL.out i j hi hj)
        have HI4 : Hid _ := HI4'
        have S4 : Hid _ := Src.kept0 hsrcW.out HI4'.bel
        have hsz4 : w2.heap.size + 1 ≤ w4.heap.size := by have := hch4.size; simpa using this
        clear P4 HI4' hS4 hS0 hH hat4 HI3 G3 HI2 S2 HI1 S1 HI hrow1 hch4 hsrc
        go_wp2_with fail
        refine (untouched_M HMq.out S4.out O4.out (by omega)).mono ?_
        rintro e w5 ⟨rfl, nd, rfl⟩
        go_wp2_with fail
        go_loopw [49] (fun i wx => ∃ j : Nat, j ≤ M ∧ i = .int .i64 j ∧ Own wx (.slice (some ⟨g, 0, none⟩) M c1) (fil (l ++ [165, 90]) 119 j) ∧ Chg (fun b => b = g) w4 wx) (fun i _ => M - (intOf i).toNat)
        case atStart => exact ⟨0, Nat.zero_le _, rfl, O4.out, drewN_chg _ _ _⟩
        case round =>
          obtain ⟨j, hj, rfl, hown, hch⟩ := hrel
          have hlen : (l ++ [165, 90]).length = M := by rw [HMq.out]; simp
          have hfl : (fil (l ++ [165, 90]) 119 j).length = M := by rw [fil_len _ _ _ (by omega), hlen]
          by_cases hjl : j < M
          · obtain ⟨⟨xj, hcj⟩, hfj⟩ : (∃ x, wr.cell? ⟨g, j, none⟩ = some (.int .u8 x)) ∧ wr.frozen? ⟨g, j, none⟩ = false := ⟨⟨_, (Own.cellAt hown j (by omega)).1⟩, (Own.cellAt hown j (by omega)).2⟩
            have R : Hid _ := Own.store hown j 119
            have R2 : Hid _ := hch.setCell (p := ⟨g, j, none⟩) (.inl rfl) (.int .u8 119)
            have R3 : Hid _ := fil_set (l ++ [165, 90]) 119 j (by omega)
            clear hown hch hlen hfl
            go_wp2_with fail
            go_roundw
            case rel => exact ⟨j + 1, by omega, by go_num, by rw [← R3.out]; exact R.out, R2.out⟩
            case measure => simp [intOf]; omega
          · have HI5 : Hid _ := Inv.keep HI4.out hch (fun b e => by
              subst e
              exact ⟨by omega, fun i hi hb => by have := HG.out i _ hi hb; omega⟩)
            have hA5 : wr.heap[wo.heap.size]? = some (.cells (stp kind who n m (.slice a0 l.length c0) z nth).toArray 35 (0, 0)) := hch.heap_some hA4 (by omega)
            have hsz5 : w2.heap.size + 1 ≤ wr.heap.size := by have := hch.size; omega
            clear hown hch hlen hfl O4 hA4 hc44
            go_upto_region 21 with fail
            go_cut [21] from 21 to 140 (fun s21 wx => s21 = .int .i64 k ∧ wx.heap[wo.heap.size]? = some (.cells (stp kind who n m (.slice a0 l.length c0) z nth).toArray 35 (0, 0)) ∧ ∃ v', Inv w wx w.heap.size (upd (upd val kk v4) (2 + kk) v') (upd (upd con kk (con kk ++ lays kind n l z nth)) (2 + kk) (con (2 + kk) ++ lays kind n l z nth)) q)
            case first =>
              obtain ⟨y, hy⟩ : ∃ y, y = upd val kk v4 (2 + kk) := ⟨_, rfl⟩
              have hcL : wr.cell? ⟨w.heap.size + 1, kk, none⟩ = some y := by rw [hy]; exact Inv.cellL HI5.out hkk
              have HY : Hid _ := hy
              clear hy
              have hcon2 : (con (2 + kk)).length ≤ bud k := by rw [(Fine.like HF.out hkk).1]; exact (Fine.like HF.out hkk).2
              have hll := lays_len kind n l z nth hn hz (by omega)
              have HD : Hid _ := Inv.keep0 HI5.out (wr' := wr.drew) ((Below.refl _ _).drew)
              have SD : Hid _ := Src.kept0 hsrcW.out (Inv.bel HD.out)
              have hS0 : wr.drew.rangeAt wo.heap.size 0 (stp kind who n m (.slice a0 l.length c0) z nth) := fun j u hu => by
                have := cell_of_row wr.drew wo.heap.size j _ 35 _ hA5
                rw [Nat.zero_add, this]; simpa using hu
              refine wp_region_held_drew (S := fun w' => w'.rangeAt wo.heap.size 0 (stp kind who n m (.slice a0 l.length c0) z nth)) (by kernel_rfl) hS0 (fun hH => ?_)
              refine wpAnyH_take (i := 0) (v := .int .i64 kk) rfl (by kernel_rfl) (by kernel_rfl) (by kernel_rfl) (fun _ _ _ h => h) (Or.inl ⟨by rfl, fun w _ => by rfl⟩) hH ?_
              refine wpAnyH_take (i := 1) (v := .int .i64 kk) rfl (by kernel_rfl) (by kernel_rfl) (by kernel_rfl) (fun _ _ _ h => h) (Or.inl ⟨by rfl, fun w _ => by rfl⟩) hH ?_
              refine wpAnyH_take (i := 4) (v := .agg (stp kind who n m (.slice a0 l.length c0) z nth).toArray) rfl (by kernel_rfl) (by kernel_rfl) (by kernel_rfl) (fun _ _ _ h => h) (yieldsIf_load_mid (by rfl) _ _ rfl wo.heap.size 0 rfl _ _ (fun w h => h) Try.underlying35 rfl (by rw [Try.sz35, stp_len _ _ _ _ _ _ _ hz])) hH ?_
              refine wpAnyH_take (i := 2) (v := .pointer (some ⟨w.heap.size + 1, kk, none⟩)) rfl (by kernel_rfl) (by kernel_rfl) (by kernel_rfl) (fun _ _ _ h => h) (Or.inl ⟨by rfl, fun w _ => by go_simp⟩) hH ?_
              refine wpAnyH_ready (rs := [3, 5]) (by kernel_rfl) (by simp) ?_
              refine AllReadyH.cons rfl (fun K hK => ?_) (AllReadyH.cons rfl (fun K hK => ?_) AllReadyH.nil)
              · go_simp
                refine hK.out _ _ hH (fun _ => ?_)
                clear hK K
                refine wpAnyH_ready (rs := [5]) (by kernel_rfl) (by simp) ?_
                refine AllReadyH.cons rfl (fun K hK => ?_) AllReadyH.nil
                go_simp
                refine (laid_any SD.out kind who n m z nth hz hn (by omega)).mono ?_
                rintro e w6 ⟨u6, rfl, s6, b6⟩
                have hS6 : w6.rangeAt wo.heap.size 0 (stp kind who n m (.slice a0 l.length c0) z nth) := rangeAt_chg hH b6
                have HI6 : Hid _ := Inv.keep0 HD.out b6
                have S6 : Hid _ := s6
                have hcL6 : w6.cell? ⟨w.heap.size + 1, kk, none⟩ = some y := by rw [HY.out]; exact Inv.cellL HI6.out hkk
                refine hK.out _ _ hS6 (fun _ => ?_)
                clear hK K
                refine wpAnyH_ready (rs := [6]) (by kernel_rfl) (by simp) ?_
                refine AllReadyH.cons rfl (fun K hK => ?_) AllReadyH.nil
                refine step_app rfl (.tmp 59) (.tmp 61) rfl (v := y) rfl rfl (by rw [HY.out]; exact Inv.own HI6.out (2 + kk) (by omega) (by omega)) S6.out (by rw [upd_other _ _ (by omega)]; omega) ?_
                intro v7 w7 hv7 hch7 hat7
                rw [HY.out] at hch7 hat7
                obtain ⟨hc7, hf7⟩ := Inv.stayL HI6.out hkk hch7
                have hS7 : w7.rangeAt wo.heap.size 0 (stp kind who n m (.slice a0 l.length c0) z nth) := fun j u hu => hch7.cell_some (hS6 j u hu) (fun e => by have := HG.out (2 + kk) _ (by omega) e.symm; simp at this; omega)
                have R7 : Hid _ := Inv.like HI6.out hkk hv7 hch7 hat7
                have hA7 : w7.heap[wo.heap.size]? = some (.cells (stp kind who n m (.slice a0 l.length c0) z nth).toArray 35 (0, 0)) := hch7.heap_some (by rw [b6.block _ (by show _ < wr.heap.size; omega)]; exact hA5) (fun e => by have := HG.out (2 + kk) _ (by omega) e.symm; omega)
                obtain ⟨av, Lv, cv, hv7f⟩ : ∃ a L c, v7 = .slice a L c := by obtain ⟨a, c, e⟩ := Own.form hv7; exact ⟨a, _, c, e⟩
                subst hv7f
                refine hK.out _ _ hS7 (fun _ => ?_)
                clear hK K
                refine wpAnyH_ready (rs := [7]) (by kernel_rfl) (by simp) ?_
                refine AllReadyH.cons rfl (fun K hK => ?_) AllReadyH.nil
                go_simp
                refine hK.out _ _ hS7 (fun _ => ?_)
                clear hK K
                refine wpAnyH_ready (rs := [8]) (by kernel_rfl) (by simp) ?_
                refine AllReadyH.cons rfl (fun K hK => ?_) AllReadyH.nil
                go_simp
                refine hK.out _ _ (fun j u hu => ?_) (fun _ => ?_)
                · exact ((Chg.refl (fun j => j = w.heap.size + 1) w7).setCell (p := ⟨w.heap.size + 1, kk, none⟩) (.inl rfl) _).cell_some (hS7 j u hu) (by show ¬ wo.heap.size = w.heap.size + 1; omega)
                clear hK K
                refine wpAnyH_done (by kernel_rfl) ?_ _
                go_wp2_with fail
                go_meet
                case rel =>
                  have R8 := R7.out
                  rw [upd_other con _ (by omega : (2 + kk) ≠ kk)] at R8
                  refine ⟨rfl, ?_, _, R8⟩
                  rw [Below.heap_setCell _ _ _ _ (by show wo.heap.size ≠ w.heap.size + 1; omega)]; exact hA7
              · go_simp
                refine (laid_any SD.out kind who n m z nth hz hn (by omega)).mono ?_
                rintro e w6 ⟨u6, rfl, s6, b6⟩
                have hS6 : w6.rangeAt wo.heap.size 0 (stp kind who n m (.slice a0 l.length c0) z nth) := rangeAt_chg hH b6
                have HI6 : Hid _ := Inv.keep0 HD.out b6
                have S6 : Hid _ := s6
                have hcL6 : w6.cell? ⟨w.heap.size + 1, kk, none⟩ = some y := by rw [HY.out]; exact Inv.cellL HI6.out hkk
                refine hK.out _ _ hS6 (fun _ => ?_)
                clear hK K
                refine wpAnyH_ready (rs := [3]) (by kernel_rfl) (by simp) ?_
                refine AllReadyH.cons rfl (fun K hK => ?_) AllReadyH.nil
                go_simp
                refine hK.out _ _ hS6 (fun _ => ?_)
                clear hK K
                refine wpAnyH_ready (rs := [6]) (by kernel_rfl) (by simp) ?_
                refine AllReadyH.cons rfl (fun K hK => ?_) AllReadyH.nil
                refine step_app rfl (.tmp 59) (.tmp 61) rfl (v := y) rfl rfl (by rw [HY.out]; exact Inv.own HI6.out (2 + kk) (by omega) (by omega)) S6.out (by rw [upd_other _ _ (by omega)]; omega) ?_
                intro v7 w7 hv7 hch7 hat7
                rw [HY.out] at hch7 hat7
                obtain ⟨hc7, hf7⟩ := Inv.stayL HI6.out hkk hch7
                have hS7 : w7.rangeAt wo.heap.size 0 (stp kind who n m (.slice a0 l.length c0) z nth) := fun j u hu => hch7.cell_some (hS6 j u hu) (fun e => by have := HG.out (2 + kk) _ (by omega) e.symm; simp at this; omega)
                have R7 : Hid _ := Inv.like HI6.out hkk hv7 hch7 hat7
                have hA7 : w7.heap[wo.heap.size]? = some (.cells (stp kind who n m (.slice a0 l.length c0) z nth).toArray 35 (0, 0)) := hch7.heap_some (by rw [b6.block _ (by show _ < wr.heap.size; omega)]; exact hA5) (fun e => by have := HG.out (2 + kk) _ (by omega) e.symm; omega)
                obtain ⟨av, Lv, cv, hv7f⟩ : ∃ a L c, v7 = .slice a L c := by obtain ⟨a, c, e⟩ := Own.form hv7; exact ⟨a, _, c, e⟩
                subst hv7f
                refine hK.out _ _ hS7 (fun _ => ?_)
                clear hK K
                refine wpAnyH_ready (rs := [7]) (by kernel_rfl) (by simp) ?_
                refine AllReadyH.cons rfl (fun K hK => ?_) AllReadyH.nil
                go_simp
                refine hK.out _ _ hS7 (fun _ => ?_)
                clear hK K
                refine wpAnyH_ready (rs := [8]) (by kernel_rfl) (by simp) ?_
                refine AllReadyH.cons rfl (fun K hK => ?_) AllReadyH.nil
                go_simp
                refine hK.out _ _ (fun j u hu => ?_) (fun _ => ?_)
                · exact ((Chg.refl (fun j => j = w.heap.size + 1) w7).setCell (p := ⟨w.heap.size + 1, kk, none⟩) (.inl rfl) _).cell_some (hS7 j u hu) (by show ¬ wo.heap.size = w.heap.size + 1; omega)
                clear hK K
                refine wpAnyH_done (by kernel_rfl) ?_ _
                go_wp2_with fail
                go_meet
                case rel =>
                  have R8 := R7.out
                  rw [upd_other con _ (by omega : (2 + kk) ≠ kk)] at R8
                  refine ⟨rfl, ?_, _, R8⟩
                  rw [Below.heap_setCell _ _ _ _ (by show wo.heap.size ≠ w.heap.size + 1; omega)]; exact hA7
            case rest =>
              obtain ⟨rfl, hA6, v6, HI6'⟩ := hcut
              have hll := lays_len kind n l z nth hn hz (by omega)
              obtain ⟨val6, con6, hi6, hf6, hr6, h46⟩ := next_of hkk HF.out HR.out HI6'
              have hck : wc.cell? ⟨wo.heap.size, 0, none⟩ = some (.int .i64 kind) := by rw [cell_of_row wc _ 0 _ 35 _ hA6]; rfl
              have HI6 : Hid _ := hi6
              have HF6 : Hid (Fine con6 (bud (k + 1))) := ⟨hf6.1, hf6.2.1, by have := hf6.2.2; omega⟩
              have HR6 : Hid _ := hr6
              have H46 : Hid _ := h46
              clear HI6' hi6 hf6 hr6 h46 hA6 hA5 HI5 HG HL HM HMq HF HR
              go_upto_region 22 with fail
              obtain ⟨bb, hbb⟩ : ∃ bb : Bool, bb = decide (¬ kind = 9 ∧ k + 1 < N) := ⟨_, rfl⟩
              have HB : Hid _ := hbb
              clear hbb
              go_cut [21, 73] from 21 to 140 (fun s21 s73 wx => s21 = .int .i64 k ∧ s73 = .bool bb ∧ wx = wc)
              case first =>
                by_cases h9 : kind = 9
                · have hb9 : (kind != 9) = false := by simp [h9]
                  go_wp2_with fail
                  go_meet
                  case rel => exact ⟨rfl, by rw [HB.out]; simp [h9], rfl⟩
                · have hb9 : (kind != 9) = true := by simp [h9]
                  go_wp2_with fail
                  go_meet
                  case rel => exact ⟨rfl, by rw [HB.out]; simp [h9]; omega, rfl⟩
              case rest =>
                obtain ⟨rfl, rfl, rfl⟩ := hcut
                by_cases hbt : bb = true
                · subst hbt
                  go_wp2_with fail
                  go_roundw
                  case rel => exact ⟨k + 1, q, val6, con6, by omega, by go_num, H46.out, HI6.out, HF6.out, by omega, HR6.out⟩
                  case measure => simp [intOf]; omega
                · have hbf : bb = false := by simpa using hbt
                  subst hbf
                  clear hbt hck
                  go_wp2_with fail
                  go_loopw [5, 13] (Rel3 w (bud (k + 1)) (2 * k)) (fun _ i _ => 2 - (intOf i).toNat)
                  case atStart => exact ⟨0, q, val6, con6, by omega, rfl, H46.out, HI6.out, HF6.out, by omega, HR6.out⟩
                  case round =>
                    clear HI6 HF6 HR6 H46
                    rename World => w3
                    obtain ⟨t, q3, val3, con3, ht2, rfl, rfl, hi3, hf3, hq3, hr3⟩ := hrel
                    have HI : Hid _ := hi3
                    have HF : Hid _ := hf3
                    have HR : Hid _ := hr3
                    obtain ⟨a4, c4, h4, h4c⟩ := ownsRow_form hi3.oo
                    have HC4 : Hid _ := h4c
                    clear hi3 hf3 hr3 h4c
                    by_cases ht : t < 2
                    · have htI : (t : Int) < 2 := by omega
                      have hlb := (Fine.like HF.out ht).2
                      have hlk := (Fine.like HF.out ht).1
                      go_wp2_with fail
                      refine (wBytes_any (Inv.ws HI.out ht) (by omega)).mono ?_
                      rintro e w8 ⟨u8, rfl, M8⟩
                      obtain ⟨a8, c8, h8⟩ := Own.form M8.1
                      have HI8 := Inv.keep0 HI.out M8.2.1
                      have ho2 := Inv.own HI8 (2 + t) (by omega) (by omega)
                      rw [hlk] at ho2
                      obtain ⟨ay, cy, hy⟩ := Own.form ho2
                      obtain ⟨Lt, hLt⟩ : ∃ L, L = (con3 t).length := ⟨_, rfl⟩
                      have hLen : Hid (∀ n, Calls Try.prog 14 #[.pointer (some ⟨w.heap.size, t, none⟩)] (w8.drewN n) fun e w' => e = .returned (.int .i64 Lt) ∧ w' = w8.drewN n) := fun n => by
                        rw [hLt]; exact wLen_any (Inv.ws (Inv.keep0 HI8 (below_drewN (Below.refl _ _) n)) ht)
                      have hSame : Hid (∀ n, Calls Try.prog 15 #[.slice a8 Lt c8, .slice ay Lt cy] (w8.drewN n) fun e w' => e = .returned (.bool true) ∧ ∃ m, w' = (w8.drewN n).drewN m) := fun n => by
                        rw [hLt, ← h8, ← hy]
                        have := same_any (Own.src (Own.drewN M8.1 n)) (Own.src (Own.drewN ho2 n)) (by omega) (by omega)
                        rwa [decide_eq_true (rfl : con3 t = con3 t)] at this
                      have hcy : ∀ n, (w8.drewN n).cell? ⟨w.heap.size + 1, t, none⟩ = some (.slice ay Lt cy) := fun n => by
                        rw [hLt, ← hy]; exact Inv.cellL HI8 ht
                      rw [← hLt] at h8
                      subst h8
                      have hLb : Lt ≤ 100000000 := by omega
                      have HM8 : Hid _ := M8
                      have HLt : Hid _ := hLt
                      clear M8 hy ho2 hLt hlk hlb HI8
                      go_upto_region 27 with fail
                      go_quiet ((first | (go_at_call 14; exact Calls.quiet_of_same (hLen.out _)) | (go_at_call 15; exact Calls.quiet_of (hSame.out _))))
                      obtain ⟨x, hx⟩ : ∃ x, x = (q3 : Int) % 256 := ⟨_, rfl⟩
                      have HX : Hid _ := hx
                      clear hx
                      go_wp2_with fail
                      go_loopw [99] (fun i wx => ∃ j : Nat, j ≤ Lt ∧ i = .int .i64 j ∧ Made w3 wx (.slice a8 Lt c8) (fil (con3 t) x j)) (fun i _ => Lt - (intOf i).toNat)
                      case atStart => exact ⟨0, Nat.zero_le _, rfl, Made.drewN HM8.out _⟩
                      case round =>
                        clear hLen hSame hcy HM8
                        obtain ⟨j, hj, rfl, hmd⟩ := hrel
                        by_cases hjl : j < Lt
                        · have hfl : (fil (con3 t) x j).length = Lt := by rw [fil_len _ _ _ (by rw [← HLt.out]; exact hj)]; exact HLt.out.symm
                          obtain ⟨g8, hg8⟩ := Own.addr hmd.1 (by omega)
                          subst hg8
                          obtain ⟨⟨xj, hcj⟩, hfj⟩ : (∃ x, wr.cell? ⟨g8, j, none⟩ = some (.int .u8 x)) ∧ wr.frozen? ⟨g8, j, none⟩ = false := ⟨⟨_, (Own.cellAt hmd.1 j (by omega)).1⟩, (Own.cellAt hmd.1 j (by omega)).2⟩
                          have R : Hid (Made w3 (wr.setCell ⟨g8, j, none⟩ (.int .u8 ((q3 : Int) % 256))) (.slice (some ⟨g8, 0, none⟩) Lt c8) (fil (con3 t) x (j + 1))) := by
                            rw [← fil_set _ _ _ (by rw [← HLt.out]; exact hjl), ← HX.out]; exact Made.store hmd j x
                          clear hmd hfl
                          go_wp2_with fail
                          go_roundw
                          case rel => exact ⟨j + 1, by omega, by go_num, R.out⟩
                          case measure => simp [intOf]; omega
                        · have hje : j = Lt := by omega
                          subst hje
                          rw [fil_end HLt.out] at hmd
                          have R : Hid _ := hmd
                          clear hmd hjl
                          go_wp2_with (first | (refine wpList_app rfl (.tmp 109) (.tmp 113) rfl (v := .slice a8 j c8) rfl rfl (Made.alloc R.out _).1 (src_new _ [(q3 : Int) % 256] 1) (by simp; omega) ?_; intro v10 w10 hv10 hch10 hat10; have R10 : Hid _ := Made.app (Made.alloc R.out _) hv10 hch10 hat10; have O10 : Hid (w10.ownsRow 0 23 1 (.slice a4 q3 c4) q3 ((List.range q3).map fun i => val3 (5 + i))) := (by rw [← h4]; exact Inv.oo (Inv.keep0 HI.out R10.out.2.1)); obtain ⟨a10, L10, c10, hv10f⟩ : ∃ a L c, v10 = .slice a L c := (by obtain ⟨a, c, e⟩ := Own.form hv10; exact ⟨a, _, c, e⟩); subst hv10f; clear hv10 hch10 hat10) | (refine wpList_app23 rfl (.tmp 115) (.tmp 117) rfl (v := .slice a4 q3 c4) rfl rfl O10.out (by omega) ?_; intro v11 w11 hoo11 hch11 hat11; rw [← h4] at hch11 hat11; have R11 : Hid _ := Inv.push HI.out (Made.alloc R10.out _) hoo11 hch11 hat11; clear hoo11 hch11 hat11))
                          go_roundw
                          case rel =>
                            have R12 := R11.out
                            have e : List.replicate j x ++ [(q3 : Int) % 256] = List.replicate (j + 1) ((q3 : Int) % 256) := by rw [HX.out, List.replicate_succ']
                            rw [e] at R12
                            exact ⟨t + 1, q3 + 1, _, _, by omega, by go_num, by rw [upd_other _ _ (by omega), upd_same], R12, fine_push HF.out, by omega, reps_push HR.out⟩
                          case measure => simp [intOf]; omega
                    · have hq3b : q3 ≤ 2 * k + 2 := by omega
                      go_wp2_with fail
                      go_loopw [121] (fun i wx => ∃ n : Nat, n ≤ q3 ∧ i = .int .i64 n ∧ wx = w3) (fun i _ => q3 - (intOf i).toNat)
                      case atStart => exact ⟨0, Nat.zero_le _, rfl, rfl⟩
                      case round =>
                        obtain ⟨n5, hn5, rfl, hw5⟩ := hrel
                        by_cases hn5l : n5 < q3
                        · subst hw5
                          rename World => w5
                          obtain ⟨g4, hg4, hcell4⟩ := HC4.out (by omega)
                          subst hg4
                          have hc5 := hcell4 n5 (val3 (5 + n5)) (by simp [hn5l])
                          obtain ⟨r5, hr5⟩ := HR.out n5 hn5l
                          have ho5 := Inv.own HI.out (5 + n5) (by omega) (by omega)
                          rw [hr5] at ho5
                          have hr5b := Own.len_le ho5
                          obtain ⟨a5, c5, h5⟩ := Own.form ho5
                          rw [List.length_replicate] at h5 hr5b
                          rw [h5] at hc5 ho5
                          have HO5 : Hid _ := ho5
                          clear ho5 h5 hr5 hcell4
                          go_wp2_with fail
                          go_loopw [128] (fun i wx => ∃ j : Nat, j ≤ r5 ∧ i = .int .i64 j ∧ wx = w5) (fun i _ => r5 - (intOf i).toNat)
                          case atStart => exact ⟨0, Nat.zero_le _, rfl, rfl⟩
                          case round =>
                            obtain ⟨j6, hj6, rfl, hw6⟩ := hrel
                            subst hw6
                            by_cases hj6l : j6 < r5
                            · obtain ⟨g5, hg5⟩ := Own.addr HO5.out (by simp; omega)
                              subst hg5
                              have hc6 := (Own.cellAt HO5.out j6 (by simp; omega)).1
                              rw [List.getElem_replicate] at hc6
                              go_wp2_with fail
                              go_roundw
                              case rel => exact ⟨j6 + 1, by omega, by go_num, by simp⟩
                              case measure => simp [intOf]; omega
                            · go_wp2_with fail
                              go_roundw
                              case rel => exact ⟨n5 + 1, by omega, by go_num, by simp⟩
                              case measure => simp [intOf]; omega
                        · subst hw5
                          go_wp2_with fail
                          go_roundw
                          case rel => exact ⟨k + 1, q3, val3, con3, by omega, by go_num, rfl, HI.out, HF.out, by omega, HR.out⟩
                          case measure => simp [intOf]; omega
    · have R : Hid _ := hi.bel
      clear hi hfine hrep
      go_wp2_with fail
      go_ret
      exact ⟨rfl, R.out⟩
end Go.Proofs.Ytibcpokfgogopaa
