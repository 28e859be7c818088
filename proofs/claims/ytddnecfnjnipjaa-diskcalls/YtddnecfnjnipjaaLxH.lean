/-
  The ledger, exactly: ends.
-/
import Derived.Test.YtddnecfnjnipjaaLxG
namespace Go.Proofs.Ytddnecfnjnipjaa
open Go.RowKit

/-- Byte q of list i and of its copy are written. -/
theorem Lg.put {w : World} {lg : Nat} {Bl : Nat → Prop} {k : Nat} {a p c d : Value} {t na np nc nd : Nat} {X Y C D : List Value} (h : Lg w lg Bl k a p c d t na np nc nd X Y C D) {i q n vc : Nat} {va : Option Addr} {u : Value} (hv : C[i]? = some (.slice va n vc)) (hu : D[i]? = some u) (hq : q < n) :
    ∃ g g' uc, va = some ⟨g, 0, none⟩ ∧ u = .slice (some ⟨g', 0, none⟩) n uc ∧ (∃ x, w.cell? ⟨g, q, none⟩ = some (.int .u8 x)) ∧ w.frozen? ⟨g, q, none⟩ = false ∧ (∃ x, ∀ z, (w.setCell ⟨g, q, none⟩ z).cell? ⟨g', q, none⟩ = some (.int .u8 x)) ∧ (∀ z, (w.setCell ⟨g, q, none⟩ z).frozen? ⟨g', q, none⟩ = false) ∧
      (∀ z, Rw (w.setCell ⟨g, q, none⟩ z) lg (lrow a p c d t) 41 ∧ SX (w.setCell ⟨g, q, none⟩ z) 48 d nd D) ∧ ∀ x, Lg ((w.setCell ⟨g, q, none⟩ (.int .u8 x)).setCell ⟨g', q, none⟩ (.int .u8 x)) lg Bl k a p c d t na np nc nd X Y C D ∧ Chg Bl w ((w.setCell ⟨g, q, none⟩ (.int .u8 x)).setCell ⟨g', q, none⟩ (.int .u8 x)) := by
  obtain ⟨bv, bu, l, hl, ov, ou⟩ := h.hold.cd i _ u hv hu
  obtain ⟨g, n1, c1, e1, hn1, cg, fg, setg⟩ := Own.setAny ov (i := q) (by
    obtain ⟨a1, c1, e⟩ := Own.form ov
    injection e with _ e _
    omega)
  injection e1 with e1 e2 e3
  subst e1 e2 e3
  obtain ⟨g', n2, c2, e4, hn2, cg', fg', _⟩ := Own.setAny ou (i := q) (by omega)
  have e5 : n2 = n := by omega
  subst e5
  subst e4
  have hgg : g ≠ g' := fun e => h.hold.xy _ _ g (List.mem_of_getElem? hv) (List.mem_of_getElem? hu) rfl (by rw [e]; rfl)
  obtain ⟨bg, cug, eg⟩ := bv g rfl
  obtain ⟨bg', cug', eg'⟩ := bu g' rfl
  have ch1 : ∀ z, Chg (fun j => j = g) w (w.setCell ⟨g, q, none⟩ z) := fun z => (Chg.refl (fun j => j = g) w).setCell (.inl rfl) _
  have r1 : ∀ z, Rw (w.setCell ⟨g, q, none⟩ z) lg (lrow a p c d t) 41 := fun z => ⟨(ch1 z).heap_some h.row.eq (fun e => cells_ne eg h.row.eq (by decide) e.symm)⟩
  have d1 : ∀ z, SX (w.setCell ⟨g, q, none⟩ z) 48 d nd D := fun z => h.rd.chg (ch1 z) (fun j hj e => by
    obtain ⟨_, e2⟩ := h.rd.block hj
    exact cells_ne e2 eg (by decide) e)
  have ou1 : ∀ z, Own (w.setCell ⟨g, q, none⟩ z) (.slice (some ⟨g', 0, none⟩) n2 c2) l := fun z => Own.kept ou (ch1 z) (fun j hj e => by
    have e2 : g' = j := by simpa [Value.ownBlock] using hj
    exact hgg (by omega))
  refine ⟨g, g', c2, rfl, rfl, ⟨_, cg⟩, fg, ⟨_, fun z => (ou1 z).byte q (by omega)⟩, fun z => (ou1 z).frz q, fun z => ⟨r1 z, d1 z⟩, fun x => ?_⟩
  obtain ⟨w2, hw2⟩ : ∃ w2, w2 = (w.setCell ⟨g, q, none⟩ (.int .u8 x)).setCell ⟨g', q, none⟩ (.int .u8 x) := ⟨_, rfl⟩
  rw [← hw2]
  have ch2 : Chg (fun j => j = g') (w.setCell ⟨g, q, none⟩ (.int .u8 x)) w2 := by rw [hw2]; exact (Chg.refl (fun j => j = g') _).setCell (.inl rfl) _
  have ch : Chg (fun j => j = g ∨ j = g') w w2 := ((ch1 _).mono (fun _ _ e => .inl e)).trans ch2 (fun _ e => .inl (.inr e))
  have ov2 : Own w2 (.slice (some ⟨g, 0, none⟩) n2 vc) (l.set q x) := Own.kept (setg x) ch2 (fun j hj e => by
    have e2 : g = j := by simpa [Value.ownBlock] using hj
    exact hgg (by omega))
  have ou2 : Own w2 (.slice (some ⟨g', 0, none⟩) n2 c2) (l.set q x) := by rw [hw2]; exact (ou1 _).set q hq x
  have no : ∀ {j : Nat} {cur : Array Value} {ty : TypeId}, w.heap[j]? = some (.cells cur ty (0, 0)) → ty ≠ 5 → ¬ (j = g ∨ j = g') := fun hc hty e => by
    rcases e with e | e
    · exact cells_ne hc eg hty e
    · exact cells_ne hc eg' hty e
  have st : ∀ {ty : TypeId} {z : Value} {m : Nat} {Z : List Value}, SX w ty z m Z → ty ≠ 5 → SX w2 ty z m Z := fun hs hty => hs.chg ch (fun j hj e => by
    obtain ⟨_, e2⟩ := hs.block hj
    exact no e2 hty e)
  have bk : ∀ {ty : TypeId} {z : Value}, Bk w Bl ty z → (∀ j, z.ownBlock = some j → ¬ (j = g ∨ j = g')) → Bk w2 Bl ty z := fun hb hn j hj => by
    obtain ⟨h1, cur, h2⟩ := hb j hj
    exact ⟨h1, cur, ch.heap_some h2 (hn j hj)⟩
  have mv := List.mem_of_getElem? hv
  have mu := List.mem_of_getElem? hu
  refine ⟨⟨⟨ch.heap_some h.row.eq (no h.row.eq (by decide))⟩, st h.ra (by decide), st h.rp (by decide), st h.rc (by decide), st h.rd (by decide), h.ac, h.cd, h.bl, h.bo, fun j hj => Nat.lt_of_lt_of_le (h.low j hj) ch.size, h.ln, h.ev, ⟨fun j z hz => ?_, fun j z hz => ?_, h.hold.len, fun j z z' hz hz' => ?_, h.hold.cc, h.hold.dd, h.hold.xy, h.hold.nx⟩⟩, ch.mono (fun j _ e => ?_)⟩
  · obtain ⟨h1, m, hm, h2⟩ := h.hold.x j z hz
    have hno : ∀ j, z.ownBlock = some j → ¬ (j = g ∨ j = g') := fun j hj e => by
      rcases e with e | e
      · exact h.hold.nx z _ j (List.mem_of_getElem? hz) (List.mem_append.2 (.inl mv)) hj (by rw [e]; rfl)
      · exact h.hold.nx z _ j (List.mem_of_getElem? hz) (List.mem_append.2 (.inr mu)) hj (by rw [e]; rfl)
    exact ⟨bk h1 hno, m, hm, h2.kept ch hno⟩
  · obtain ⟨h1, m, hm, h2⟩ := h.hold.y j z hz
    have hno : ∀ j, z.ownBlock = some j → ¬ (j = g ∨ j = g') := fun j hj => by
      obtain ⟨_, _, e2⟩ := h1 j hj
      exact no e2 (by decide)
    exact ⟨bk h1 hno, m, hm, h2.kept ch hno⟩
  · by_cases hji : j = i
    · subst hji
      rw [hv] at hz
      rw [hu] at hz'
      injection hz with hz
      injection hz' with hz'
      subst hz hz'
      exact ⟨fun j hj => ⟨(bv j hj).1, own_block ov2 hj⟩, fun j hj => ⟨(bu j hj).1, own_block ou2 hj⟩, l.set q x, by rw [List.length_set]; exact hl, ov2, ou2⟩
    · obtain ⟨h1, h2, m, hm, o1, o2⟩ := h.hold.cd j z z' hz hz'
      have n1 : ∀ j, z.ownBlock = some j → ¬ (j = g ∨ j = g') := fun j' hj e => by
        rcases e with e | e
        · exact hji (h.hold.cc j i z _ j' hz hv hj (by rw [e]; rfl))
        · exact h.hold.xy z _ j' (List.mem_of_getElem? hz) mu hj (by rw [e]; rfl)
      have n2 : ∀ j, z'.ownBlock = some j → ¬ (j = g ∨ j = g') := fun j' hj e => by
        rcases e with e | e
        · exact h.hold.xy _ z' j' mv (List.mem_of_getElem? hz') (by rw [e]; rfl) hj
        · exact hji (h.hold.dd j i z' _ j' hz' hu hj (by rw [e]; rfl))
      exact ⟨bk h1 n1, bk h2 n2, m, hm, Own.kept o1 ch n1, Own.kept o2 ch n2⟩
  · rcases e with e | e
    · rw [e]; exact bg
    · rw [e]; exact bg'

theorem Le.drewN {w : World} {lg : Nat} {B : Nat → Prop} {a p c d : Value} {t : Int} {na np n i : Nat} {X Y C D E F : List Value} (h : Le w lg B a p c d t na np n i X Y C D E F) (m : Nat) : Le (w.drewN m) lg B a p c d t na np n i X Y C D E F :=
  ⟨⟨h.row.eq⟩, h.ra, h.rp, h.rc, h.rd, h.hn, h.sm, h.ac, h.cd, h.bl, h.bo, h.x, h.y, h.s, h.own, h.cc, h.dd, h.xy, h.nx, h.ne⟩
theorem Le.mid {w w3 w4 : World} {lg : Nat} {B : Nat → Prop} {a p c d c' : Value} {t : Int} {na np n i : Nat} {X Y C D E F : List Value} {v u x y : Value} {l m : List Int} (h : Le w lg B a p c d t na np n i X Y C D E F) (hv : C[i]? = some v) (hu : D[i]? = some u) (hx : Xp w w3 v u x y l m m) (k4 : Chg (fun k => some k = c.ownBlock) w3 w4) :
    Rw w4 lg (lrow a p c d t) 41 ∧ Rw (w4.setCell ⟨lg, 2, none⟩ c') lg (lrow a p c' d t) 41 ∧ SX (w4.setCell ⟨lg, 2, none⟩ c') 48 d (n + i) (D ++ F) := by
  obtain ⟨r3, _, _, c3, d3⟩ := h.rows hv hu hx
  have nl : ∀ {w : World} {ty : TypeId} {x : Value} {m : Nat} {cs : Array Value} {Z : List Value}, SX w ty x m Z → ty ≠ 41 → w.heap[lg]? = some (.cells cs 41 (0, 0)) → ∀ g, x.ownBlock = some g → g ≠ lg := fun hs hty hq g hg e => by
    obtain ⟨cur, e1⟩ := hs.block hg
    exact cells_ne e1 hq hty e
  have r4 : Rw w4 lg (lrow a p c d t) 41 := ⟨k4.heap_some r3.eq (fun e => nl c3 (by decide) r3.eq lg e.symm rfl)⟩
  have d4 : SX w4 48 d (n + i) (D ++ F) := d3.chg k4 (fun g hg e => h.cd g e.symm hg)
  exact ⟨r4, Rw.set r4 2 c', d4.chg ((Chg.refl (fun g => g = lg) w4).setCell (.inl rfl) _) (nl d4 (by decide) r4.eq)⟩

set_option maxRecDepth 100000 in
set_option maxHeartbeats 8000000 in
theorem Lg.ends {w : World} {lg : Nat} {Bl : Nat → Prop} {k : Nat} {a p c d : Value} {t na np nc nd : Nat} {X Y C D : List Value} (h : Lg w lg Bl k a p c d t na np nc nd X Y C D) (hk : k ≤ 2199023255552) :
    Calls Try.prog 18 #[.pointer (some ⟨lg, 0, none⟩)] w fun e w' => e = .returned (.bool true) ∧ Chg Bl w w' := by
  obtain ⟨ca, cc, hcf⟩ := h.rc.form
  obtain ⟨da, dc, hdf⟩ := h.rd.form
  have hcd : nd = nc := by rw [h.rc.1, h.rd.1]; exact h.hold.len.symm
  subst hcd
  have hnc := h.ln.2.2.1
  have H : Hid _ := h
  have HC : Hid _ := hcf
  have HD : Hid _ := hdf
  clear h hcf hdf
  go_enter Try.func18, Try.ntmps18
  go_wp2_with fail
  go_loopw [3] (fun i wr => ∃ j : Nat, j ≤ nd ∧ i = .int .i64 j ∧ Hid (Chg Bl w wr ∧ Lg wr lg Bl k a p c d t na np nd nd X Y C D)) (fun i _ => nd - (intOf i).toNat)
  case atStart => exact ⟨0, Nat.zero_le _, rfl, Chg.refl _ _, H.out⟩
  case round =>
    obtain ⟨j, hj, rfl, hid⟩ := hrel
    obtain ⟨ch, hL⟩ := hid.out
    clear hid
    have c2 : wr.cell? ⟨lg, 2, none⟩ = some (.slice ca nd cc) := by rw [← HC.out]; exact hL.row.cell 2
    by_cases hlt : j < nd
    · obtain ⟨ga, gc, v, e, hx, hcell⟩ := hL.rc.at hlt
      rw [HC.out] at e
      injection e with e1 _ e3
      subst e1 e3
      obtain ⟨gb, gd, u, e, hy, _⟩ := hL.rd.at hlt
      rw [HD.out] at e
      injection e with e1 _ e3
      subst e1 e3
      obtain ⟨_, _, l, hl, ov, _⟩ := hL.hold.cd j v u hx hy
      obtain ⟨va, vc, hvf⟩ := Own.form ov
      obtain ⟨n, hn⟩ : ∃ n, n = l.length := ⟨_, rfl⟩
      rw [← hn] at hvf hl
      subst hvf
      have HX : Hid _ := hx
      have HY : Hid _ := hy
      have HL : Hid _ := hL
      have CH : Hid _ := ch
      clear hx hy hL ch ov hn
      go_wp2_with fail
      clear c2 hcell
      go_loopw [4] (fun i wr => ∃ q : Nat, q ≤ n ∧ i = .int .i64 q ∧ Hid (Chg Bl w wr ∧ Lg wr lg Bl k a p c d t na np nd nd X Y C D)) (fun i _ => n - (intOf i).toNat)
      case atStart => exact ⟨0, Nat.zero_le _, rfl, CH.out, HL.out⟩
      case round =>
        obtain ⟨q, hq, rfl, hid⟩ := hrel
        obtain ⟨ch, hL⟩ := hid.out
        clear hid
        have c2 : wr.cell? ⟨lg, 2, none⟩ = some (.slice (some ⟨ga, 0, none⟩) nd cc) := by rw [← HC.out]; exact hL.row.cell 2
        have hcell : wr.cell? ⟨ga, j, none⟩ = some (.slice va n vc) := by
          obtain ⟨g1, gc1, v1, e, hx1, hc1⟩ := hL.rc.at hlt
          rw [HC.out] at e
          injection e with e1 _ _
          injection e1 with e1
          injection e1 with e1
          subst e1
          rw [HX.out] at hx1
          rw [hc1, ← hx1]
        have CH2 : Hid _ := ch
        have HL2 : Hid _ := hL
        by_cases hq2 : q < n
        · obtain ⟨g, g', uc, e1, e2, ⟨x1, q1⟩, f1, ⟨x2, q2⟩, f2, rws, nxt⟩ := hL.put HX.out HY.out hq2
          subst e1 e2
          have s3 : ∀ z, (wr.setCell ⟨g, q, none⟩ z).cell? ⟨lg, 3, none⟩ = some (.slice (some ⟨gb, 0, none⟩) nd dc) := fun z => by rw [← HD.out]; exact (rws z).1.cell 3
          have s4 : ∀ z, (wr.setCell ⟨g, q, none⟩ z).cell? ⟨gb, j, none⟩ = some (.slice (some ⟨g', 0, none⟩) n uc) := fun z => by
            obtain ⟨g1, gc1, v1, e, hx1, hc1⟩ := (rws z).2.at hlt
            rw [HD.out] at e
            injection e with e1 _ _
            injection e1 with e1
            injection e1 with e1
            subst e1
            rw [HY.out] at hx1
            rw [hc1, ← hx1]
          have K5 : Hid (∀ x, Chg Bl w ((wr.setCell ⟨g, q, none⟩ (.int .u8 x)).setCell ⟨g', q, none⟩ (.int .u8 x)) ∧ Lg ((wr.setCell ⟨g, q, none⟩ (.int .u8 x)).setCell ⟨g', q, none⟩ (.int .u8 x)) lg Bl k a p c d t na np nd nd X Y C D) := fun x => ⟨ch.trans (nxt x).2 (fun _ e => .inl e), (nxt x).1⟩
          clear ch hL rws nxt
          go_wp2_with fail
          go_roundw
          case rel => exact ⟨q + 1, by omega, by go_num, K5.out _⟩
          case measure => simp [intOf]; omega
        · clear ch hL
          go_wp2_with fail
          go_roundw
          case rel => exact ⟨j + 1, by omega, by go_num, CH2.out, HL2.out⟩
          case measure => simp [intOf]; omega
    · have CH : Hid _ := ch
      have LE0 : Hid (Le wr lg (fun g => Bl g ∨ w.heap.size ≤ g) a p c d t na np nd 0 X Y C D [] []) := hL.le hk (fun _ h => .inl h)
      clear ch hL
      go_wp2_with fail
      clear c2
      go_loopw [6] (fun i wr => ∃ i' : Nat, i' ≤ nd ∧ i = .int .i64 i' ∧ Hid (Chg Bl w wr ∧ ∃ c d E F, Le wr lg (fun g => Bl g ∨ w.heap.size ≤ g) a p c d t na np nd i' X Y C D E F)) (fun i _ => nd - (intOf i).toNat)
      case atStart => exact ⟨0, Nat.zero_le _, rfl, CH.out, _, _, _, _, LE0.out⟩
      case round =>
        obtain ⟨i', hi', rfl, hid⟩ := hrel
        obtain ⟨ch, c5, d5, E, F, hE⟩ := hid.out
        clear hid
        by_cases hlt2 : i' < nd
        · obtain ⟨ga, gc, v, e5, hx, hcell⟩ := hE.rc.at (i := i') (by omega)
          obtain ⟨gb, gd, u, e6, hy, hcell2⟩ := hE.rd.at (i := i') (by omega)
          have hv : C[i']? = some v := by rw [List.getElem?_append_left (by have := hE.hn; omega)] at hx; exact hx
          have hu : D[i']? = some u := by rw [List.getElem?_append_left (by have := hE.hn; omega)] at hy; exact hy
          obtain ⟨l, hl, ov, ou⟩ := hE.own i' v u (Nat.le_refl _) hv hu
          have c2 : wr.cell? ⟨lg, 2, none⟩ = some (.slice (some ⟨ga, 0, none⟩) (nd + i') gc) := by rw [← e5]; exact hE.row.cell 2
          have c3 : wr.cell? ⟨lg, 3, none⟩ = some (.slice (some ⟨gb, 0, none⟩) (nd + i') gd) := by rw [← e6]; exact hE.row.cell 3
          have XP0 : Hid (∀ m, Xp (wr.drewN m) (wr.drewN m) v u v u l [] []) := fun m => Xp.start ov ou (fun g hg => hE.xy v u g (List.mem_of_getElem? hv) (List.mem_of_getElem? hu) hg)
          obtain ⟨va, vc, hvf⟩ := Own.form ov
          obtain ⟨ua, uc, huf⟩ := Own.form ou
          have HE : Hid _ := hE
          have HV : Hid _ := hv
          have HU : Hid _ := hu
          have HVF : Hid _ := hvf
          have HUF : Hid _ := huf
          have E5 : Hid _ := e5
          have E6 : Hid _ := e6
          have CH2 : Hid _ := ch
          rw [hvf] at hcell
          rw [huf] at hcell2
          clear hE hx hy hv hu ov ou hvf huf e5 e6 ch
          go_upto_region 13 with fail
          go_quiet (fail)
          clear c2 c3 hcell hcell2
          go_wp2_with fail
          obtain ⟨wz, hwz⟩ : ∃ v, v = wr.drewN nq := ⟨_, rfl⟩
          have XP1 : Hid (Xp wz wz v u (.slice va l.length vc) (.slice ua l.length uc) l [] []) := by
            rw [hwz]
            have h9 := XP0.out nq
            rw [HVF.out, HUF.out] at h9 ⊢
            exact h9
          have LEZ : Hid (Le wz lg (fun g => Bl g ∨ w.heap.size ≤ g) a p c5 d5 t na np nd i' X Y C D E F) := by rw [hwz]; exact HE.out.drewN nq
          have CHZ : Hid (Chg Bl w wz) := by rw [hwz]; exact CH2.out.trans (drewN_chg3 wr nq) (fun _ e => e.elim)
          rw [← hwz]
          clear hwz XP0 HE CH2
          go_loopw [7, 8, 9] (fun x y kk wy => ∃ (k' : Nat) (m : List Int), k' ≤ 90 ∧ kk = .int .i64 k' ∧ Hid (m.length = k' ∧ Xp wz wy v u x y l m m)) (fun _ _ kk _ => 90 - (intOf kk).toNat)
          case atStart => exact ⟨0, [], by decide, rfl, rfl, XP1.out⟩
          case round =>
            obtain ⟨k', m, hk', rfl, hid⟩ := hrel
            obtain ⟨hm, xp⟩ := hid.out
            clear hid
            by_cases hlt3 : k' < 90
            · have XP : Hid _ := xp
              have HM : Hid _ := hm
              clear xp hm
              go_upto_region 18 with (refine wpList_app_keep rfl (.tmp 87) (.tmp 93) rfl (v := u7) (ad := ⟨wr.heap.size, 0, none⟩) (cp := 1) (l := l ++ m) rfl rfl (Own.kept XP.out.ox ((Chg.refl (fun _ => False) wr).alloc _) (fun _ _ h => h)) (cell_of_row _ _ _ _ _ _ (heap_alloc_new _ _)) (by rw [List.length_append, HM.out]; omega) ?_; intro x' w2 o2 o2' k2 b2)
              have xp2 := (XP.out.fresh ((Chg.refl (fun _ => False) wr).alloc _)).step o2 o2' k2 b2
              have XP2 : Hid _ := xp2
              clear o2 o2' k2 b2 xp2
              go_wp2_with (refine wpList_app_keep rfl (.tmp 95) (.tmp 101) rfl (v := u8) (ad := ⟨w2.heap.size, 0, none⟩) (cp := 1) (l := l ++ m) rfl rfl (Own.kept XP2.out.oy ((Chg.refl (fun _ => False) w2).alloc _) (fun _ _ h => h)) (cell_of_row _ _ _ _ _ _ (heap_alloc_new _ _)) (by rw [List.length_append, HM.out]; omega) ?_; intro y' w3 o3 o3' k3 b3)
              have xp3 := (XP2.out.fresh ((Chg.refl (fun _ => False) w2).alloc _)).step2 o3 o3' k3 b3
              have XP3 : Hid _ := xp3
              clear o3 o3' k3 b3 xp3
              go_wp2_with fail
              go_roundw
              case rel => exact ⟨k' + 1, _, by omega, by go_num, by rw [List.length_append, HM.out]; rfl, XP3.out⟩
              case measure => simp [intOf]; omega
            · have e90 : k' = 90 := by omega
              subst e90
              obtain ⟨xa, xc, hxf⟩ := Own.form xp.ox
              obtain ⟨ya, yc, hyf⟩ := Own.form xp.oy
              rw [List.length_append, hm] at hxf hyf
              subst hxf hyf
              obtain ⟨r3, _, _, q3, _⟩ := LEZ.out.rows HV.out HU.out xp
              obtain ⟨c', w4, hr4, s4, k4, b4⟩ := q3.one (.slice xa (l.length + 90) xc) rfl 38 (by omega)
              obtain ⟨r4, r5, q5⟩ := LEZ.out.mid (c' := c') HV.out HU.out xp k4
              obtain ⟨d', w6, hr6, s6, k6, b6⟩ := q5.one (.slice ya (l.length + 90) yc) rfl 38 (by omega)
              obtain ⟨le7, ch7⟩ := LEZ.out.next hlt2 HV.out HU.out hl hm xp (fun g hg => .inr (Nat.le_trans CHZ.out.size hg)) s4 k4 b4 s6 k6 b6
              obtain ⟨pa, pc, hpf⟩ := s4.form
              obtain ⟨sa, sc, hsf⟩ := s6.form
              subst hpf hsf
              have r6 : Rw w6 lg (lrow a p (.slice pa (nd + i' + 1) pc) d5 t) 41 := ⟨k6.heap_some r5.eq (fun e => by
                obtain ⟨_, e1⟩ := q5.block e.symm
                exact cells_ne e1 r5.eq (by decide) rfl)⟩
              have FIN : Hid _ := (⟨CHZ.out.trans ch7 (fun g e => e), le7⟩ : Chg Bl w ((w6.setCell ⟨lg, 3, none⟩ (.slice sa (nd + i' + 1) sc))) ∧ Le ((w6.setCell ⟨lg, 3, none⟩ (.slice sa (nd + i' + 1) sc))) lg (fun g => Bl g ∨ w.heap.size ≤ g) a p (.slice pa (nd + i' + 1) pc) (.slice sa (nd + i' + 1) sc) t na np nd (i' + 1) X Y C D (E ++ [.slice xa (l.length + 90) xc]) (F ++ [.slice ya (l.length + 90) yc]))
              obtain ⟨w5, hw5⟩ : ∃ w5, w5 = w4.setCell ⟨lg, 2, none⟩ (.slice pa (nd + i' + 1) pc) := ⟨_, rfl⟩
              rw [← hw5] at hr6 r5
              have hw5' : w4.setCell ⟨lg, 2, none⟩ (.slice pa (nd + i' + 1) pc) = w5 := hw5.symm
              have g20 : wr.cell? ⟨lg, 2, none⟩ = some (.slice (some ⟨ga, 0, none⟩) (nd + i') gc) := by rw [← E5.out]; exact r3.cell 2
              have g21 : ∀ o, (wr.alloc o).cell? ⟨lg, 2, none⟩ = some (.slice (some ⟨ga, 0, none⟩) (nd + i') gc) := fun o => by rw [← E5.out]; exact (r3.alloc o).cell 2
              have g22 : w4.cell? ⟨lg, 2, none⟩ = some (.slice (some ⟨ga, 0, none⟩) (nd + i') gc) := by rw [← E5.out]; exact r4.cell 2
              have f22 := r4.fr 2
              have g30 : w5.cell? ⟨lg, 3, none⟩ = some (.slice (some ⟨gb, 0, none⟩) (nd + i') gd) := by rw [← E6.out]; exact r5.cell 3
              have g31 : ∀ o, (w5.alloc o).cell? ⟨lg, 3, none⟩ = some (.slice (some ⟨gb, 0, none⟩) (nd + i') gd) := fun o => by rw [← E6.out]; exact (r5.alloc o).cell 3
              have g33 : w6.cell? ⟨lg, 3, none⟩ = some (.slice (some ⟨gb, 0, none⟩) (nd + i') gd) := by rw [← E6.out]; exact r6.cell 3
              have f33 := r6.fr 3
              have HR4 : Hid _ := hr4
              have HR6 : Hid _ := hr6
              clear xp hm r3 q3 hr4 s4 k4 b4 r4 r5 q5 hr6 s6 k6 b6 le7 ch7 r6 hw5
              go_upto_region 20 with (refine wpList_appS rfl (.tmp 107) (.tmp 109) rfl (v := .slice (some ⟨ga, 0, none⟩) (nd + i') gc) (u := .slice (some ⟨wr.heap.size, 0, none⟩) 1 1) (v' := .slice pa (nd + i' + 1) pc) (w' := w4) rfl rfl (by have h9 := HR4.out; rw [E5.out] at h9; exact h9) ?_)
              try rw [hw5']
              go_wp2_with (refine wpList_appS rfl (.tmp 117) (.tmp 119) rfl (v := .slice (some ⟨gb, 0, none⟩) (nd + i') gd) (u := .slice (some ⟨w5.heap.size, 0, none⟩) 1 1) (v' := .slice sa (nd + i' + 1) sc) (w' := w6) rfl rfl (by have h9 := HR6.out; rw [E6.out] at h9; exact h9) ?_)
              go_roundw
              case rel => exact ⟨i' + 1, by omega, by go_num, FIN.out.1, _, _, _, _, FIN.out.2⟩
              case measure => simp [intOf]; omega
        · have e9 : i' = nd := by omega
          subst e9
          have CH2 : Hid _ := ch
          have HE : Hid _ := hE
          clear ch hE
          go_wp2_with fail
          refine Calls.mono (HE.out.lh (Nat.le_refl _)).whole ?_
          rintro e w9 ⟨rfl, m9, rfl⟩
          have CH9 : Hid (Chg Bl w (wr.drewN m9)) := CH2.out.trans (drewN_chg3 wr m9) (fun _ e => e.elim)
          go_wp2_with fail
          go_ret
          exact ⟨rfl, CH9.out⟩
end Go.Proofs.Ytddnecfnjnipjaa
