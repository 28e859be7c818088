/-
  The reference reads pages.
-/
import Derived.Test.YtfkjgfelgiogeaaPgC
namespace Go.Proofs.Ytfkjgfelgiogeaa
open Go.RowKit

set_option maxRecDepth 100000 in
set_option maxHeartbeats 1000000 in
theorem xMore_any {w : World} {p : Nat} {t : TypeId} {tv : Value} {T : List Int} {a : Nat} {err : Int} (h : RS w p t tv T a err) (i n : Nat) :
    Calls Try.prog 96 #[.pointer (some ⟨p, 0, none⟩), .int .u64 i, .int .u64 n] w fun e w' => e = .returned (.bool (decide (err = 0 ∧ i < n))) ∧ w' = w := by
  have h2 := h.c2
  clear h
  by_cases he : err = 0
  · subst he
    go_enter Try.func96, Try.ntmps96
    go_wp2_with fail
    go_ret
    exact ⟨by simp, rfl⟩
  · have hq : (err == 0) = false := by simpa using he
    go_enter Try.func96, Try.ntmps96
    go_wp2_with fail
    go_ret
    exact ⟨by simp [he], rfl⟩
theorem pk_putx (n : Nat) (u x y : List Int) (h : u.length = x.length) : splice (leafC n (u ++ y)) 1 (bs x) = leafC n (x ++ y) := by
  have h2 : (bs u).length = (bs x).length := by rw [bs_len, bs_len, h]
  unfold splice leafC
  rw [bs_app, bs_app, show 1 + (bs x).length = (bs u).length + 1 by omega]
  simp
theorem pk_puty (n : Nat) (x u y : List Int) (hx : x.length = 33) (h : u.length = y.length) : splice (leafC n (x ++ u)) 34 (bs y) = leafC n (x ++ y) := by
  have h2 : (bs u).length = (bs y).length := by rw [bs_len, bs_len, h]
  have h3 : (bs x).length = 33 := by rw [bs_len, hx]
  unfold splice leafC
  rw [bs_app, bs_app, show 34 + (bs y).length = ((bs x).length + (bs u).length) + 1 by omega, show 34 = (bs x).length + 1 by omega]
  simp [List.drop_append]
/-- The reference under way with a page. -/
structure XR (w : World) (s : Value) (T : List Int) (mv vv pv : Value) (ms vs ps : List (List Value)) (wr : World) (a : Nat) (err : Int) (cs : List Value) : Prop where
  rs : RS wr (w.heap.size + 1) 64 s T a err
  res : Blk wr w.heap.size pgZ 51
  row : Blk wr (w.heap.size + 2) cs 51
  pg : PG wr (w.heap.size + 3) mv vv pv ms vs ps
  be : Below w.heap.size w wr
  sz : w.heap.size + 3 ≤ wr.heap.size
  sl : ∀ k, s.ownBlock = some k → k < w.heap.size
section
variable {w wr w' : World} {s : Value} {T : List Int} {a a1 : Nat} {err e1 : Int} {cs cs' : List Value} {mv vv pv : Value} {ms vs ps : List (List Value)}
theorem XR.start (h : In w s T) : XR w s T (.slice none 0 0) (.slice none 0 0) (.slice none 0 0) [] [] [] (((w.alloc (.cells pgZ.toArray 51)).alloc (.cells #[s, .int .i64 0, .int .i64 0] 64)).alloc (.cells pgZ.toArray 51)) 0 0 pgZ := by
  have hb1 : Below w.heap.size w (w.alloc (.cells pgZ.toArray 51)) := (Below.refl _ _).alloc (Nat.le_refl _) _
  have hb2 : Below w.heap.size w ((w.alloc (.cells pgZ.toArray 51)).alloc (.cells #[s, .int .i64 0, .int .i64 0] 64)) := hb1.alloc (by simp) _
  have h1 := In.at h 64 hb1
  rw [World.size_alloc] at h1
  refine ⟨(h1.alloc _).rp.1, ((Blk.made w _ 51).alloc _).alloc _, ?_, PG.none _ _, hb2.alloc (by simp; omega) _, by simp, fun k hk => h.lt k hk⟩
  have := Blk.made ((w.alloc (.cells pgZ.toArray 51)).alloc (.cells #[s, .int .i64 0, .int .i64 0] 64)) pgZ 51
  simpa using this
theorem RS.notEl64 {w : World} {p : Nat} {tv : Value} {T : List Int} {a : Nat} {err : Int} (h : RS w p 64 tv T a err) : NotEl w p := .inr ⟨_, _, h.blk, by decide, by decide, by decide⟩
theorem XR.call (h : XR w s T mv vv pv ms vs ps wr a err cs) (r : RP wr w' (w.heap.size + 1) 64 s T a1 e1) : XR w s T mv vv pv ms vs ps w' a1 e1 cs :=
  ⟨r.1, h.res.keep r.2 (by omega), h.row.keep r.2 (by omega), h.pg.kept r.2 (fun g e => by rw [e]; exact h.rs.notEl64), h.be.trans (r.2.below (Nat.le_trans (by omega) h.sz) (fun k e => by omega)), Nat.le_trans h.sz r.2.size, h.sl⟩
theorem XR.chg (h : XR w s T mv vv pv ms vs ps wr a err cs) (b : Blk w' (w.heap.size + 2) cs' 51) (c : Chg (fun k => k = w.heap.size + 2) wr w') : XR w s T mv vv pv ms vs ps w' a err cs' :=
  ⟨h.rs.keep c (by omega) (fun k hk e => by have := h.sl k hk; omega), h.res.keep c (by omega), b, h.pg.kept c (fun g e => by rw [e]; exact h.row.notEl), h.be.trans (c.below (Nat.le_trans (by omega) h.sz) (fun k e => by omega)), Nat.le_trans h.sz c.size, h.sl⟩
theorem XR.set (h : XR w s T mv vv pv ms vs ps wr a err cs) (i : Nat) (v : Value) : XR w s T mv vv pv ms vs ps (wr.setCell ⟨w.heap.size + 2, i, none⟩ v) a err (cs.set i v) :=
  h.chg (h.row.set i v) ((Chg.refl (fun k => k = w.heap.size + 2) wr).setCell (p := ⟨w.heap.size + 2, i, none⟩) (.inl rfl) v)
theorem XR.fresh (h : XR w s T mv vv pv ms vs ps wr a err cs) (c : Chg (fun _ => False) wr w') : XR w s T mv vv pv ms vs ps w' a err cs :=
  ⟨h.rs.keep c (fun e => e) (fun _ _ e => e), h.res.keep c (fun e => e), h.row.keep c (fun e => e), h.pg.fresh c, h.be.trans (c.below (Nat.le_trans (by omega) h.sz) (fun k e => e.elim)), Nat.le_trans h.sz c.size, h.sl⟩
theorem XR.lt (h : XR w s T mv vv pv ms vs ps wr a err cs) : ∀ k, (mv.ownBlock = some k ∨ vv.ownBlock = some k ∨ pv.ownBlock = some k) → k < wr.heap.size := fun k hk => by
  have key : ∀ {c} {t}, wr.heap[k]? = some (Obj.cells c t (0, 0)) → k < wr.heap.size := fun e => (Array.getElem?_eq_some_iff.1 e).1
  rcases hk with hk | hk | hk
  · obtain ⟨_, e⟩ := h.pg.m.blk hk; exact key e
  · obtain ⟨_, e⟩ := h.pg.v.blk hk; exact key e
  · obtain ⟨_, e⟩ := h.pg.p.blk hk; exact key e
/-- A record beside it, at g. -/
theorem XR.recd (h : XR w s T mv vv pv ms vs ps wr a err cs) {g : Nat} (hg : w.heap.size + 3 ≤ g) (hd : ∀ k, (mv.ownBlock = some k ∨ vv.ownBlock = some k ∨ pv.ownBlock = some k) → k < g) (c : Chg (fun k => k = g) wr w') : XR w s T mv vv pv ms vs ps w' a err cs :=
  ⟨h.rs.keep c (by omega) (fun k hk e => by have := h.sl k hk; omega), h.res.keep c (by omega), h.row.keep c (by omega),
   ⟨h.pg.m.kept c (fun k _ hk _ e => by have := hd k (.inl hk); omega), h.pg.v.kept c (fun k _ hk _ e => by have := hd k (.inr (.inl hk)); omega), h.pg.p.kept c (fun k _ hk _ e => by have := hd k (.inr (.inr hk)); omega), h.pg.nb⟩,
   h.be.trans (c.below (Nat.le_trans (by omega) h.sz) (fun k e => by omega)), Nat.le_trans h.sz c.size, h.sl⟩
theorem XR.addM (h : XR w s T mv vv pv ms vs ps wr a err cs) {C : List Value} (hC : C.length = 2) (h1 : ∀ u ∈ C, u.oneCell' = true) (hb : ms.length + 1 ≤ 40000) :
    ∃ v' w', (Builtin.append_ #[45, 45] 45 #[mv, .slice (some ⟨wr.heap.size, 0, none⟩) 1 1]).run Try.prog (wr.alloc (.cells C.toArray 112)) = .ok v' w' ∧ XR w s T v' vv pv (ms ++ [C]) vs ps w' a err cs := by
  obtain ⟨v', w', r, gl, c, bb⟩ := h.pg.m.add (sl := 45) Try.underlying45 info124 (by kernel_rfl) (by decide) hC h1 (by omega) (by omega) 45
  have hS : ∀ g, some g = mv.ownBlock → w.heap.size + 3 ≤ g := fun g e => h.pg.nb g (.inl e.symm)
  refine ⟨v', w', r, ⟨h.rs.keep c (fun e => by have := hS _ e; omega) (fun k hk e => by have := hS _ e; have := h.sl k hk; omega), h.res.keep c (fun e => by have := hS _ e; omega), h.row.keep c (fun e => by have := hS _ e; omega), ⟨gl, h.pg.v.kept c (fun g cur _ hcur e => by
    obtain ⟨_, e2⟩ := h.pg.m.blk e.symm
    rw [hcur] at e2
    injection e2 with e2
    injection e2 with _ e2
    exact absurd e2 (by decide)), h.pg.p.kept c (fun g cur _ hcur e => by
    obtain ⟨_, e2⟩ := h.pg.m.blk e.symm
    rw [hcur] at e2
    injection e2 with e2
    injection e2 with _ e2
    exact absurd e2 (by decide)), ?_⟩, h.be.trans (c.below (Nat.le_trans (by omega) h.sz) (fun k e => by have := hS k e; omega)), Nat.le_trans h.sz c.size, h.sl⟩⟩
  intro g hg
  have new : v'.ownBlock = some g → w.heap.size + 3 ≤ g := fun e => by
    rcases bb with q | ⟨q, q1, q2⟩
    · exact hS g (by rw [← q, e])
    · rw [e] at q1
      injection q1 with q1
      have := h.sz
      omega
  rcases hg with hg | hg | hg
  · exact new hg
  · exact h.pg.nb g (.inr (.inl hg))
  · exact h.pg.nb g (.inr (.inr hg))
theorem XR.addV (h : XR w s T mv vv pv ms vs ps wr a err cs) {C : List Value} (hC : C.length = 67) (h1 : ∀ u ∈ C, u.oneCell' = true) (hb : vs.length + 1 ≤ 40000) :
    ∃ v' w', (Builtin.append_ #[46, 46] 46 #[vv, .slice (some ⟨wr.heap.size, 0, none⟩) 1 1]).run Try.prog (wr.alloc (.cells C.toArray 116)) = .ok v' w' ∧ XR w s T mv v' pv ms (vs ++ [C]) ps w' a err cs := by
  obtain ⟨v', w', r, gl, c, bb⟩ := h.pg.v.add (sl := 46) Try.underlying46 info128 (by kernel_rfl) (by decide) hC h1 (by omega) (by omega) 46
  have hS : ∀ g, some g = vv.ownBlock → w.heap.size + 3 ≤ g := fun g e => h.pg.nb g (.inr (.inl e.symm))
  refine ⟨v', w', r, ⟨h.rs.keep c (fun e => by have := hS _ e; omega) (fun k hk e => by have := hS _ e; have := h.sl k hk; omega), h.res.keep c (fun e => by have := hS _ e; omega), h.row.keep c (fun e => by have := hS _ e; omega), ⟨h.pg.m.kept c (fun g cur _ hcur e => by
    obtain ⟨_, e2⟩ := h.pg.v.blk e.symm
    rw [hcur] at e2
    injection e2 with e2
    injection e2 with _ e2
    exact absurd e2 (by decide)), gl, h.pg.p.kept c (fun g cur _ hcur e => by
    obtain ⟨_, e2⟩ := h.pg.v.blk e.symm
    rw [hcur] at e2
    injection e2 with e2
    injection e2 with _ e2
    exact absurd e2 (by decide)), ?_⟩, h.be.trans (c.below (Nat.le_trans (by omega) h.sz) (fun k e => by have := hS k e; omega)), Nat.le_trans h.sz c.size, h.sl⟩⟩
  intro g hg
  have new : v'.ownBlock = some g → w.heap.size + 3 ≤ g := fun e => by
    rcases bb with q | ⟨q, q1, q2⟩
    · exact hS g (by rw [← q, e])
    · rw [e] at q1
      injection q1 with q1
      have := h.sz
      omega
  rcases hg with hg | hg | hg
  · exact h.pg.nb g (.inl hg)
  · exact new hg
  · exact h.pg.nb g (.inr (.inr hg))
theorem XR.addP (h : XR w s T mv vv pv ms vs ps wr a err cs) {C : List Value} (hC : C.length = 66) (h1 : ∀ u ∈ C, u.oneCell' = true) (hb : ps.length + 1 ≤ 40000) :
    ∃ v' w', (Builtin.append_ #[47, 47] 47 #[pv, .slice (some ⟨wr.heap.size, 0, none⟩) 1 1]).run Try.prog (wr.alloc (.cells C.toArray 129)) = .ok v' w' ∧ XR w s T mv vv v' ms vs (ps ++ [C]) w' a err cs := by
  obtain ⟨v', w', r, gl, c, bb⟩ := h.pg.p.add (sl := 47) Try.underlying47 info130 (by kernel_rfl) (by decide) hC h1 (by omega) (by omega) 47
  have hS : ∀ g, some g = pv.ownBlock → w.heap.size + 3 ≤ g := fun g e => h.pg.nb g (.inr (.inr e.symm))
  refine ⟨v', w', r, ⟨h.rs.keep c (fun e => by have := hS _ e; omega) (fun k hk e => by have := hS _ e; have := h.sl k hk; omega), h.res.keep c (fun e => by have := hS _ e; omega), h.row.keep c (fun e => by have := hS _ e; omega), ⟨h.pg.m.kept c (fun g cur _ hcur e => by
    obtain ⟨_, e2⟩ := h.pg.p.blk e.symm
    rw [hcur] at e2
    injection e2 with e2
    injection e2 with _ e2
    exact absurd e2 (by decide)), h.pg.v.kept c (fun g cur _ hcur e => by
    obtain ⟨_, e2⟩ := h.pg.p.blk e.symm
    rw [hcur] at e2
    injection e2 with e2
    injection e2 with _ e2
    exact absurd e2 (by decide)), gl, ?_⟩, h.be.trans (c.below (Nat.le_trans (by omega) h.sz) (fun k e => by have := hS k e; omega)), Nat.le_trans h.sz c.size, h.sl⟩⟩
  intro g hg
  have new : v'.ownBlock = some g → w.heap.size + 3 ≤ g := fun e => by
    rcases bb with q | ⟨q, q1, q2⟩
    · exact hS g (by rw [← q, e])
    · rw [e] at q1
      injection q1 with q1
      have := h.sz
      omega
  rcases hg with hg | hg | hg
  · exact h.pg.nb g (.inl hg)
  · exact h.pg.nb g (.inr (.inl hg))
  · exact new hg
end

set_option maxRecDepth 100000 in
set_option maxHeartbeats 16000000 in
theorem xReadPage_any {w : World} {s : Value} {T : List Int} (h : In w s T) :
    Calls Try.prog 37 #[s] w fun e w' => ∃ C, e = .returned (.tuple #[.agg C.toArray, .int .i64 (pageE T)]) ∧ Below w.heap.size w w' ∧ (C.length = pgZ.length ∧ ∀ u ∈ C, u.oneCell' = true) ∧ (pageE T = 0 → ∃ B, PgIs w' B (pageS T 0 0) C) ∧ (¬ pageE T = 0 → C = pgZ) := by
  have X0 : Hid _ := XR.start h
  unfold pageE
  obtain ⟨S, hS⟩ : ∃ S, S = pageS T 0 0 := ⟨_, rfl⟩
  rw [← hS]
  unfold pageS at hS
  simp only at hS
  have HSS : Hid _ := hS
  obtain ⟨E, hE⟩ : ∃ E, E = endE T S.at_ S.err := ⟨_, rfl⟩
  rw [← hE]
  have HE : Hid _ := hE
  obtain ⟨a0, c0, hs, _⟩ := h.cap
  have hbig := h.big
  clear h hE hS
  subst hs
  obtain ⟨sv, hsv⟩ : ∃ sv, sv = Value.slice a0 T.length c0 := ⟨_, rfl⟩
  rw [← hsv] at X0
  have HSV : Hid _ := hsv
  go_enter Try.func37, Try.ntmps37
  go_upto_region 3 with fail
  rw [← hsv]
  clear hsv
  have HC : Hid _ := xUint_any X0.out.rs maxN (by decide)
  obtain ⟨U0, a1, e1, hU⟩ : ∃ U b c, uintS T 0 0 maxN = (U, b, c) := ⟨_, _, _, rfl⟩
  have U0m : U0 ≤ maxN := by have h9 := uintS_most T 0 0 maxN; rw [hU] at h9; exact h9
  have hS := HSS.out
  simp only [hU] at HC hS
  clear HSS
  have HSS : Hid _ := hS
  clear hU hS
  go_wp2_with fail
  refine Calls.mono HC.out ?_
  rintro e w1 ⟨rfl, r1⟩
  have Y1 : Hid _ := X0.out.call r1
  clear r1 HC X0 
  have hc : w1.cell? ⟨w.heap.size + 2, 0, none⟩ = some (.int .u64 0) := Y1.out.row.cell 0
  have hf : w1.frozen? ⟨w.heap.size + 2, 0, none⟩ = false := Y1.out.row.fr 0
  have X1 : Hid (XR w sv T _ _ _ _ _ _ (w1.setCell ⟨w.heap.size + 2, 0, none⟩ (.int .u64 U0)) a1 e1 (pgC U0 0 0 (.slice none 0 0) (.slice none 0 0) 0 (.slice none 0 0))) := Y1.out.set 0 (.int .u64 U0)
  clear Y1
  have HC : Hid _ := xUint_any X1.out.rs 64 (by decide)
  obtain ⟨U1, a2, e2, hU⟩ : ∃ U b c, uintS T a1 e1 64 = (U, b, c) := ⟨_, _, _, rfl⟩
  have U1m : U1 ≤ 64 := by have h9 := uintS_most T a1 e1 64; rw [hU] at h9; exact h9
  have hS := HSS.out
  simp only [hU] at HC hS
  clear HSS
  have HSS : Hid _ := hS
  clear hU hS
  go_wp2_with fail
  refine Calls.mono HC.out ?_
  rintro e w2 ⟨rfl, r1⟩
  have Y2 : Hid _ := X1.out.call r1
  clear r1 HC X1 hc hf
  have hc : w2.cell? ⟨w.heap.size + 2, 1, none⟩ = some (.int .i64 0) := Y2.out.row.cell 1
  have hf : w2.frozen? ⟨w.heap.size + 2, 1, none⟩ = false := Y2.out.row.fr 1
  have X2 : Hid (XR w sv T _ _ _ _ _ _ (w2.setCell ⟨w.heap.size + 2, 1, none⟩ (.int .i64 U1)) a2 e2 (pgC U0 U1 0 (.slice none 0 0) (.slice none 0 0) 0 (.slice none 0 0))) := Y2.out.set 1 (.int .i64 U1)
  clear Y2
  have HC : Hid _ := xUint_any X2.out.rs maxN (by decide)
  obtain ⟨U2, a3, e3, hU⟩ : ∃ U b c, uintS T a2 e2 maxN = (U, b, c) := ⟨_, _, _, rfl⟩
  have U2m : U2 ≤ maxN := by have h9 := uintS_most T a2 e2 maxN; rw [hU] at h9; exact h9
  have hS := HSS.out
  simp only [hU] at HC hS
  clear HSS
  have HSS : Hid _ := hS
  clear hU hS
  go_wp2_with fail
  refine Calls.mono HC.out ?_
  rintro e w3 ⟨rfl, r1⟩
  have Y3 : Hid _ := X2.out.call r1
  clear r1 HC X2 hc hf
  have hc : w3.cell? ⟨w.heap.size + 2, 2, none⟩ = some (.int .u64 0) := Y3.out.row.cell 2
  have hf : w3.frozen? ⟨w.heap.size + 2, 2, none⟩ = false := Y3.out.row.fr 2
  have X3 : Hid (XR w sv T _ _ _ _ _ _ (w3.setCell ⟨w.heap.size + 2, 2, none⟩ (.int .u64 U2)) a3 e3 (pgC U0 U1 U2 (.slice none 0 0) (.slice none 0 0) 0 (.slice none 0 0))) := Y3.out.set 2 (.int .u64 U2)
  clear Y3
  have HC : Hid _ := xUint_any X3.out.rs 32768 (by decide)
  obtain ⟨N3, a4, e4, hU⟩ : ∃ U b c, uintS T a3 e3 32768 = (U, b, c) := ⟨_, _, _, rfl⟩
  have N3m : N3 ≤ 32768 := by have h9 := uintS_most T a3 e3 32768; rw [hU] at h9; exact h9
  have hS := HSS.out
  simp only [hU] at HC hS
  clear HSS
  have HSS : Hid _ := hS
  clear hU hS
  go_wp2_with fail
  refine Calls.mono HC.out ?_
  rintro e w4 ⟨rfl, r1⟩
  have X4 : Hid _ := X3.out.call r1
  clear r1 HC X3 hc hf
  obtain ⟨MM1, aM1, eM1, hMM⟩ : ∃ x b c, manyE markE T N3 a4 e4 = (x, b, c) := ⟨_, _, _, rfl⟩
  have hS := HSS.out
  simp only [hMM] at hS
  clear HSS
  have HSS : Hid _ := hS
  have HMM : Hid _ := hMM
  clear hMM hS
  go_wp2_with fail
  go_loopw [7] (fun i wr => ∃ (j ai : Nat) (ei : Int) (v : Value) (L : List (List Value)), j ≤ N3 ∧ i = .int .u64 j ∧ Hid (XR w sv T v (.slice none 0 0) (.slice none 0 0) L [] [] wr ai ei (pgC U0 U1 U2 v (.slice none 0 0) 0 (.slice none 0 0)) ∧ L.length = j ∧ manyE markE T N3 a4 e4 = (L ++ (manyE markE T (N3 - j) ai ei).1, (manyE markE T (N3 - j) ai ei).2))) (fun i _ => N3 - (intOf i).toNat)
  case atStart => exact ⟨0, a4, e4, _, [], Nat.zero_le _, rfl, X4.out, rfl, by simp⟩
  case round =>
    obtain ⟨j, ai, ei, v, L, hj, rfl, hid⟩ := hrel
    have XJ : Hid _ := hid.out.1
    have HL : Hid _ := hid.out.2.1
    have HM : Hid _ := hid.out.2.2
    clear hid
    have HMO : Hid _ := xMore_any XJ.out.rs j N3
    by_cases hgo : ei = 0 ∧ j < N3
    · obtain ⟨rfl, hlt⟩ := hgo
      rw [decide_eq_true (⟨rfl, hlt⟩ : (0 : Int) = 0 ∧ j < N3)] at HMO
      obtain ⟨R, hR⟩ : ∃ R, R = markE T ai 0 := ⟨_, rfl⟩
      have HR0 : Hid _ := hR
      unfold markE at hR
      simp only at hR
      have HRR : Hid _ := hR
      clear hR
      have g0 : wr.heap.size < (wr.alloc (.cells (mkC 0 0).toArray 112)).heap.size := by simp
      have XK : Hid _ := XJ.out.fresh ((Chg.refl (fun _ => False) wr).alloc (.cells (mkC 0 0).toArray 112))
      have RB : Hid _ := Blk.made wr (mkC 0 0) 112
      have GS : Hid (w.heap.size + 3 ≤ wr.heap.size) := XJ.out.sz
      have HD : Hid _ := XJ.out.lt
      clear XJ g0
      go_upto_region 11 with (go_at_call 96; refine Calls.mono HMO.out ?_; rintro e wq ⟨rfl, hwq⟩; rw [hwq]; clear hwq wq)
      clear HMO
      have HC : Hid _ := xUint_any XK.out.rs maxN (by decide)
      obtain ⟨U, b1, f1, hU⟩ : ∃ U b c, uintS T ai 0 maxN = (U, b, c) := ⟨_, _, _, rfl⟩
      have Um : U ≤ maxN := by have h9 := uintS_most T ai 0 maxN; rw [hU] at h9; exact h9
      have hS := HRR.out
      simp only [hU] at HC hS
      clear HRR
      have HRR : Hid _ := hS
      clear hU hS
      go_wp2_with fail
      refine Calls.mono HC.out ?_
      rintro e u0 ⟨rfl, r1⟩
      have XC0 : Hid _ := XK.out.call r1
      have RC0 : Hid _ := RB.out.keep r1.2 (by have := GS.out; omega)
      clear r1 HC XK RB 
      have hc : u0.cell? ⟨wr.heap.size, 0, none⟩ = some (.int .u64 0) := RC0.out.cell 0
      have hf : u0.frozen? ⟨wr.heap.size, 0, none⟩ = false := RC0.out.fr 0
      have cS : Chg (fun k => k = wr.heap.size) u0 (u0.setCell ⟨wr.heap.size, 0, none⟩ (.int .u64 U)) := (Chg.refl (fun k => k = wr.heap.size) u0).setCell (p := ⟨wr.heap.size, 0, none⟩) (.inl rfl) _
      have XD0 : Hid _ := XC0.out.recd GS.out HD.out cS
      have RD0 : Hid (Blk (u0.setCell ⟨wr.heap.size, 0, none⟩ (.int .u64 U)) wr.heap.size (mkC U 0) 112) := RC0.out.set 0 (.int .u64 U)
      clear XC0 RC0 cS
      have HC : Hid _ := xUint_any XD0.out.rs 4194304 (by decide)
      obtain ⟨V, b2, f2, hU⟩ : ∃ U b c, uintS T b1 f1 4194304 = (U, b, c) := ⟨_, _, _, rfl⟩
      have Vm : V ≤ 4194304 := by have h9 := uintS_most T b1 f1 4194304; rw [hU] at h9; exact h9
      have hS := HRR.out
      simp only [hU] at HC hS
      clear HRR
      have HRR : Hid _ := hS
      clear hU hS
      go_wp2_with fail
      refine Calls.mono HC.out ?_
      rintro e u1 ⟨rfl, r1⟩
      have XC1 : Hid _ := XD0.out.call r1
      have RC1 : Hid _ := RD0.out.keep r1.2 (by have := GS.out; omega)
      clear r1 HC XD0 RD0 hc hf
      have hc : u1.cell? ⟨wr.heap.size, 1, none⟩ = some (.int .i64 0) := RC1.out.cell 1
      have hf : u1.frozen? ⟨wr.heap.size, 1, none⟩ = false := RC1.out.fr 1
      have cS : Chg (fun k => k = wr.heap.size) u1 (u1.setCell ⟨wr.heap.size, 1, none⟩ (.int .i64 V)) := (Chg.refl (fun k => k = wr.heap.size) u1).setCell (p := ⟨wr.heap.size, 1, none⟩) (.inl rfl) _
      have XD1 : Hid _ := XC1.out.recd GS.out HD.out cS
      have RD1 : Hid (Blk (u1.setCell ⟨wr.heap.size, 1, none⟩ (.int .i64 V)) wr.heap.size (mkC U V) 112) := RC1.out.set 1 (.int .i64 V)
      clear XC1 RC1 cS
      go_upto_region 13 with fail
      obtain ⟨wA, hwA⟩ : ∃ wA : World, wA = u1.setCell ⟨wr.heap.size, 1, none⟩ (.int .i64 V) := ⟨_, rfl⟩
      have XA : Hid (XR w sv T v (.slice none 0 0) (.slice none 0 0) L [] [] wA b2 f2 (pgC U0 U1 U2 v (.slice none 0 0) 0 (.slice none 0 0))) := by rw [hwA]; exact XD1.out
      have RA : Hid (Blk wA wr.heap.size (mkC U V) 112) := by rw [hwA]; exact RD1.out
      clear XD1 RD1 
      obtain ⟨kc, hkc⟩ : ∃ kc, kc = mkC U V := ⟨_, rfl⟩
      rw [← hkc] at RA
      have RK : Hid (R = (kc, b2, f2)) := by rw [hkc]; exact HRR.out
      have LK : kc.length = 2 := by have h9 := congrArg Prod.fst RK.out; simp only at h9; rw [← h9, HR0.out]; exact markE_len T ai 0
      have OK : Hid (∀ u ∈ kc, u.oneCell' = true) := by have h9 := congrArg Prod.fst RK.out; simp only at h9; rw [← h9, HR0.out]; exact markE_one T ai 0
      clear hkc HRR
      obtain ⟨v', w9, hr9, x9⟩ := XA.out.addM LK OK.out (by have := HL.out; omega)
      have FIN : Hid (XR w sv T v' (.slice none 0 0) (.slice none 0 0) (L ++ [kc]) [] [] w9 b2 f2 (pgC U0 U1 U2 v (.slice none 0 0) 0 (.slice none 0 0)) ∧ (L ++ [kc]).length = j + 1 ∧ manyE markE T N3 a4 e4 = ((L ++ [kc]) ++ (manyE markE T (N3 - (j + 1)) b2 f2).1, (manyE markE T (N3 - (j + 1)) b2 f2).2)) := by
        refine ⟨x9, by rw [List.length_append, HL.out]; rfl, ?_⟩
        rw [HM.out, show N3 - j = (N3 - (j + 1)) + 1 by omega, manyE_step, ← HR0.out, RK.out]
        simp
      obtain ⟨ya, yc, hyf⟩ := x9.pg.m.form
      obtain ⟨ln, hln⟩ : ∃ ln, ln = (L ++ [kc]).length := ⟨_, rfl⟩
      rw [← hln] at hyf
      obtain ⟨va, vc, hvf⟩ := XA.out.pg.m.form
      have hcl : wA.cell? ⟨w.heap.size + 2, 3, none⟩ = some v := XA.out.row.cell 3
      have hcl2 : (wA.alloc (.cells kc.toArray 112)).cell? ⟨w.heap.size + 2, 3, none⟩ = some v := (XA.out.row.alloc _).cell 3
      have hcl9 : w9.cell? ⟨w.heap.size + 2, 3, none⟩ = some v := FIN.out.1.row.cell 3
      have hcf9 : w9.frozen? ⟨w.heap.size + 2, 3, none⟩ = false := FIN.out.1.row.fr 3
      have HR9 : Hid _ := hr9
      subst hvf
      subst hyf
      have FIX : Hid _ := FIN.out.1.set 3 (.slice ya ln yc)
      rw [← hwA]
      clear hr9 x9 hwA hln hc hf
      go_wp2_with (first
        | refine wpList_load_part rfl 112 (.tmp 8) rfl wr.heap.size 0 kc rfl RA.out (by simp) Try.underlying112 rfl (by rw [LK]; exact Try.size124) ?_
        | refine wpList_buildG (sl := 45) Try.underlying45 info124 (by decide) (by decide) rfl (.tmp 46) rfl (C := kc) rfl LK ?_
        | refine wpList_appG (sl := 45) rfl (.tmp 45) (.tmp 47) rfl (v := .slice va L.length vc) (u := .slice (some ⟨wA.heap.size, 0, none⟩) 1 1) (v' := .slice ya ln yc) (w' := w9) rfl rfl HR9.out ?_)
      go_roundw
      case rel => exact ⟨j + 1, _, _, _, L ++ [kc], by omega, by go_num, FIX.out, FIN.out.2⟩
      case measure => simp [intOf]; omega
    · have hex : L = MM1 ∧ ai = aM1 ∧ ei = eM1 := by
        have h9 := HM.out
        rw [HMM.out] at h9
        by_cases he : ei = 0
        · have hjn : N3 - j = 0 := by have := fun q => hgo ⟨he, q⟩; omega
          rw [hjn] at h9
          simp only [manyE, List.append_nil, Prod.mk.injEq] at h9
          exact ⟨h9.1.symm, h9.2.1.symm, h9.2.2.symm⟩
        · rw [manyE_err he] at h9
          simp only [List.append_nil, Prod.mk.injEq] at h9
          exact ⟨h9.1.symm, h9.2.1.symm, h9.2.2.symm⟩
      rw [decide_eq_false hgo] at HMO
      obtain ⟨hx1, hx2, hx3⟩ := hex
      rw [hx1, hx2, hx3] at XJ
      obtain ⟨v1, hv1⟩ : ∃ v1, v1 = v := ⟨_, rfl⟩
      rw [← hv1] at XJ
      clear hx1 hx2 hx3 hgo HL HM HMM hv1
      go_upto_region 14 with (go_at_call 96; refine Calls.mono HMO.out ?_; rintro e wq ⟨rfl, hwq⟩; rw [hwq]; clear hwq wq)
      clear HMO
      have HC : Hid _ := xUint_any XJ.out.rs 64 (by decide)
      obtain ⟨N4, a5, e5, hU⟩ : ∃ U b c, uintS T aM1 eM1 64 = (U, b, c) := ⟨_, _, _, rfl⟩
      have N4m : N4 ≤ 64 := by have h9 := uintS_most T aM1 eM1 64; rw [hU] at h9; exact h9
      have hS := HSS.out
      simp only [hU] at HC hS
      clear HSS
      have HSS : Hid _ := hS
      clear hU hS
      go_wp2_with fail
      refine Calls.mono HC.out ?_
      rintro e w5 ⟨rfl, r1⟩
      have X5 : Hid _ := XJ.out.call r1
      clear r1 HC XJ 
      obtain ⟨MM2, aM2, eM2, hMM⟩ : ∃ x b c, manyE versE T N4 a5 e5 = (x, b, c) := ⟨_, _, _, rfl⟩
      have hS := HSS.out
      simp only [hMM] at hS
      clear HSS
      have HSS : Hid _ := hS
      have HMM : Hid _ := hMM
      clear hMM hS
      go_wp2_with fail
      go_loopw [10] (fun i wr => ∃ (j ai : Nat) (ei : Int) (v : Value) (L : List (List Value)), j ≤ N4 ∧ i = .int .u64 j ∧ Hid (XR w sv T v1 v (.slice none 0 0) MM1 L [] wr ai ei (pgC U0 U1 U2 v1 v 0 (.slice none 0 0)) ∧ L.length = j ∧ manyE versE T N4 a5 e5 = (L ++ (manyE versE T (N4 - j) ai ei).1, (manyE versE T (N4 - j) ai ei).2))) (fun i _ => N4 - (intOf i).toNat)
      case atStart => exact ⟨0, a5, e5, _, [], Nat.zero_le _, rfl, X5.out, rfl, by simp⟩
      case round =>
        obtain ⟨j, ai, ei, v, L, hj, rfl, hid⟩ := hrel
        have XJ : Hid _ := hid.out.1
        have HL : Hid _ := hid.out.2.1
        have HM : Hid _ := hid.out.2.2
        clear hid
        have HMO : Hid _ := xMore_any XJ.out.rs j N4
        by_cases hgo : ei = 0 ∧ j < N4
        · obtain ⟨rfl, hlt⟩ := hgo
          rw [decide_eq_true (⟨rfl, hlt⟩ : (0 : Int) = 0 ∧ j < N4)] at HMO
          obtain ⟨R, hR⟩ : ∃ R, R = versE T ai 0 := ⟨_, rfl⟩
          have HR0 : Hid _ := hR
          unfold versE at hR
          simp only at hR
          have HRR : Hid _ := hR
          clear hR
          have g0 : wr.heap.size < (wr.alloc (.cells (vsC 0 (List.replicate 33 0) 0 (List.replicate 32 0)).toArray 116)).heap.size := by simp
          have XK : Hid _ := XJ.out.fresh ((Chg.refl (fun _ => False) wr).alloc (.cells (vsC 0 (List.replicate 33 0) 0 (List.replicate 32 0)).toArray 116))
          have RB : Hid _ := Blk.made wr (vsC 0 (List.replicate 33 0) 0 (List.replicate 32 0)) 116
          have GS : Hid (w.heap.size + 3 ≤ wr.heap.size) := XJ.out.sz
          have HD : Hid _ := XJ.out.lt
          clear XJ g0
          go_upto_region 19 with (go_at_call 96; refine Calls.mono HMO.out ?_; rintro e wq ⟨rfl, hwq⟩; rw [hwq]; clear hwq wq)
          clear HMO
          have HC : Hid _ := xUint_any XK.out.rs maxN (by decide)
          obtain ⟨U, b1, f1, hU⟩ : ∃ U b c, uintS T ai 0 maxN = (U, b, c) := ⟨_, _, _, rfl⟩
          have Um : U ≤ maxN := by have h9 := uintS_most T ai 0 maxN; rw [hU] at h9; exact h9
          have hS := HRR.out
          simp only [hU] at HC hS
          clear HRR
          have HRR : Hid _ := hS
          clear hU hS
          go_wp2_with fail
          refine Calls.mono HC.out ?_
          rintro e u0 ⟨rfl, r1⟩
          have XC0 : Hid _ := XK.out.call r1
          have RC0 : Hid _ := RB.out.keep r1.2 (by have := GS.out; omega)
          clear r1 HC XK RB 
          have hc : u0.cell? ⟨wr.heap.size, 0, none⟩ = some (.int .u64 0) := RC0.out.cell 0
          have hf : u0.frozen? ⟨wr.heap.size, 0, none⟩ = false := RC0.out.fr 0
          have cS : Chg (fun k => k = wr.heap.size) u0 (u0.setCell ⟨wr.heap.size, 0, none⟩ (.int .u64 U)) := (Chg.refl (fun k => k = wr.heap.size) u0).setCell (p := ⟨wr.heap.size, 0, none⟩) (.inl rfl) _
          have XD0 : Hid _ := XC0.out.recd GS.out HD.out cS
          have RD0 : Hid (Blk (u0.setCell ⟨wr.heap.size, 0, none⟩ (.int .u64 U)) wr.heap.size (vsC U (List.replicate 33 0) 0 (List.replicate 32 0)) 116) := RC0.out.set 0 (.int .u64 U)
          clear XC0 RC0 cS
          have HC : Hid _ := xAddr_any XD0.out.rs
          obtain ⟨x, hy⟩ : ∃ y, y = pad 33 (pL T b1 f1 33) := ⟨_, rfl⟩
          have Hx : x.length = 33 := by rw [hy]; exact pad_len (pL_len T b1 f1 33)
          obtain ⟨b2, ha2⟩ : ∃ b, b = pA T b1 f1 33 := ⟨_, rfl⟩
          obtain ⟨f2, he2⟩ : ∃ b, b = pE T b1 f1 33 := ⟨_, rfl⟩
          have hS := HRR.out
          simp only [← hy, ← ha2, ← he2] at HC hS
          clear HRR
          have HRR : Hid _ := hS
          clear hy ha2 he2 hS
          go_wp2_with fail
          refine Calls.mono HC.out ?_
          rintro e u1 ⟨rfl, r1⟩
          have XC1 : Hid _ := XD0.out.call r1
          have RC1 : Hid _ := RD0.out.keep r1.2 (by have := GS.out; omega)
          clear r1 HC XD0 RD0 hc hf
          go_upto_region 21 with (refine wpList_store_part rfl 33 (.tmp 64) (.tmp 62) rfl wr.heap.size 1 (bs x) rfl rfl RC1.out (by rw [bs_len, Hx, vsC_len]; simp) (Try.addrSz x Hx) (bs_one x) ?_; intro z1 b7 c7; rw [vsC_putx _ _ _ _ _ (by simp [Hx])] at b7; have RD1 : Hid _ := b7; have XD1 : Hid _ := XC1.out.recd GS.out HD.out c7; clear b7 c7)
          clear XC1 RC1
          have HC : Hid _ := xUint_any XD1.out.rs maxN (by decide)
          obtain ⟨V, b3, f3, hU⟩ : ∃ U b c, uintS T b2 f2 maxN = (U, b, c) := ⟨_, _, _, rfl⟩
          have Vm : V ≤ maxN := by have h9 := uintS_most T b2 f2 maxN; rw [hU] at h9; exact h9
          have hS := HRR.out
          simp only [hU] at HC hS
          clear HRR
          have HRR : Hid _ := hS
          clear hU hS
          go_wp2_with fail
          refine Calls.mono HC.out ?_
          rintro e u34 ⟨rfl, r1⟩
          have XC34 : Hid _ := XD1.out.call r1
          have RC34 : Hid _ := RD1.out.keep r1.2 (by have := GS.out; omega)
          clear r1 HC XD1 RD1 
          have hc : u34.cell? ⟨wr.heap.size, 34, none⟩ = some (.int .u64 0) := by rw [RC34.out.cell]; exact vsC_at _ _ _ _ Hx
          have hf : u34.frozen? ⟨wr.heap.size, 34, none⟩ = false := RC34.out.fr 34
          have cS : Chg (fun k => k = wr.heap.size) u34 (u34.setCell ⟨wr.heap.size, 34, none⟩ (.int .u64 V)) := (Chg.refl (fun k => k = wr.heap.size) u34).setCell (p := ⟨wr.heap.size, 34, none⟩) (.inl rfl) _
          have XD34 : Hid _ := XC34.out.recd GS.out HD.out cS
          have RD34 : Hid (Blk (u34.setCell ⟨wr.heap.size, 34, none⟩ (.int .u64 V)) wr.heap.size (vsC U x V (List.replicate 32 0)) 116) := by have h9 := RC34.out.set 34 (.int .u64 V); rwa [vsC_putc _ _ _ _ _ Hx] at h9
          clear XC34 RC34 cS
          have HC : Hid _ := xSum_any XD34.out.rs
          obtain ⟨y, hy⟩ : ∃ y, y = pad 32 (pL T b3 f3 32) := ⟨_, rfl⟩
          have Hy : y.length = 32 := by rw [hy]; exact pad_len (pL_len T b3 f3 32)
          obtain ⟨b4, ha2⟩ : ∃ b, b = pA T b3 f3 32 := ⟨_, rfl⟩
          obtain ⟨f4, he2⟩ : ∃ b, b = pE T b3 f3 32 := ⟨_, rfl⟩
          have hS := HRR.out
          simp only [← hy, ← ha2, ← he2] at HC hS
          clear HRR
          have HRR : Hid _ := hS
          clear hy ha2 he2 hS
          go_wp2_with fail
          refine Calls.mono HC.out ?_
          rintro e u35 ⟨rfl, r1⟩
          have XC35 : Hid _ := XD34.out.call r1
          have RC35 : Hid _ := RD34.out.keep r1.2 (by have := GS.out; omega)
          clear r1 HC XD34 RD34 hc hf
          go_upto_region 23 with (refine wpList_store_part rfl 31 (.tmp 72) (.tmp 70) rfl wr.heap.size 35 (bs y) rfl rfl RC35.out (by rw [bs_len, Hy, vsC_len, Hx]; simp) (Try.sumSz' y Hy) (bs_one y) ?_; intro z35 b7 c7; rw [vsC_puty _ _ _ _ _ Hx (by simp [Hy])] at b7; have RD35 : Hid _ := b7; have XD35 : Hid _ := XC35.out.recd GS.out HD.out c7; clear b7 c7)
          clear XC35 RC35
          obtain ⟨wA, hwA⟩ : ∃ wA : World, wA = z35 := ⟨_, rfl⟩
          have XA : Hid (XR w sv T v1 v (.slice none 0 0) MM1 L [] wA b4 f4 (pgC U0 U1 U2 v1 v 0 (.slice none 0 0))) := by rw [hwA]; exact XD35.out
          have RA : Hid (Blk wA wr.heap.size (vsC U x V y) 116) := by rw [hwA]; exact RD35.out
          clear XD35 RD35 
          obtain ⟨kc, hkc⟩ : ∃ kc, kc = vsC U x V y := ⟨_, rfl⟩
          rw [← hkc] at RA
          have RK : Hid (R = (kc, b4, f4)) := by rw [hkc]; exact HRR.out
          have LK : kc.length = 67 := by have h9 := congrArg Prod.fst RK.out; simp only at h9; rw [← h9, HR0.out]; exact versE_len T ai 0
          have OK : Hid (∀ u ∈ kc, u.oneCell' = true) := by have h9 := congrArg Prod.fst RK.out; simp only at h9; rw [← h9, HR0.out]; exact versE_one T ai 0
          clear hkc HRR
          obtain ⟨v', w9, hr9, x9⟩ := XA.out.addV LK OK.out (by have := HL.out; omega)
          have FIN : Hid (XR w sv T v1 v' (.slice none 0 0) MM1 (L ++ [kc]) [] w9 b4 f4 (pgC U0 U1 U2 v1 v 0 (.slice none 0 0)) ∧ (L ++ [kc]).length = j + 1 ∧ manyE versE T N4 a5 e5 = ((L ++ [kc]) ++ (manyE versE T (N4 - (j + 1)) b4 f4).1, (manyE versE T (N4 - (j + 1)) b4 f4).2)) := by
            refine ⟨x9, by rw [List.length_append, HL.out]; rfl, ?_⟩
            rw [HM.out, show N4 - j = (N4 - (j + 1)) + 1 by omega, manyE_step, ← HR0.out, RK.out]
            simp
          obtain ⟨ya, yc, hyf⟩ := x9.pg.v.form
          obtain ⟨ln, hln⟩ : ∃ ln, ln = (L ++ [kc]).length := ⟨_, rfl⟩
          rw [← hln] at hyf
          obtain ⟨va, vc, hvf⟩ := XA.out.pg.v.form
          have hcl : wA.cell? ⟨w.heap.size + 2, 4, none⟩ = some v := XA.out.row.cell 4
          have hcl2 : (wA.alloc (.cells kc.toArray 116)).cell? ⟨w.heap.size + 2, 4, none⟩ = some v := (XA.out.row.alloc _).cell 4
          have hcl9 : w9.cell? ⟨w.heap.size + 2, 4, none⟩ = some v := FIN.out.1.row.cell 4
          have hcf9 : w9.frozen? ⟨w.heap.size + 2, 4, none⟩ = false := FIN.out.1.row.fr 4
          have HR9 : Hid _ := hr9
          subst hvf
          subst hyf
          have FIX : Hid _ := FIN.out.1.set 4 (.slice ya ln yc)
          rw [← hwA]
          clear hr9 x9 hwA hln 
          go_wp2_with (first
            | refine wpList_load_part rfl 116 (.tmp 11) rfl wr.heap.size 0 kc rfl RA.out (by simp) Try.underlying116 rfl (by rw [LK]; exact Try.size128) ?_
            | refine wpList_buildG (sl := 46) Try.underlying46 info128 (by decide) (by decide) rfl (.tmp 75) rfl (C := kc) rfl LK ?_
            | refine wpList_appG (sl := 46) rfl (.tmp 74) (.tmp 76) rfl (v := .slice va L.length vc) (u := .slice (some ⟨wA.heap.size, 0, none⟩) 1 1) (v' := .slice ya ln yc) (w' := w9) rfl rfl HR9.out ?_)
          go_roundw
          case rel => exact ⟨j + 1, _, _, _, L ++ [kc], by omega, by go_num, FIX.out, FIN.out.2⟩
          case measure => simp [intOf]; omega
        · have hex : L = MM2 ∧ ai = aM2 ∧ ei = eM2 := by
            have h9 := HM.out
            rw [HMM.out] at h9
            by_cases he : ei = 0
            · have hjn : N4 - j = 0 := by have := fun q => hgo ⟨he, q⟩; omega
              rw [hjn] at h9
              simp only [manyE, List.append_nil, Prod.mk.injEq] at h9
              exact ⟨h9.1.symm, h9.2.1.symm, h9.2.2.symm⟩
            · rw [manyE_err he] at h9
              simp only [List.append_nil, Prod.mk.injEq] at h9
              exact ⟨h9.1.symm, h9.2.1.symm, h9.2.2.symm⟩
          rw [decide_eq_false hgo] at HMO
          obtain ⟨hx1, hx2, hx3⟩ := hex
          rw [hx1, hx2, hx3] at XJ
          obtain ⟨v2, hv2⟩ : ∃ v2, v2 = v := ⟨_, rfl⟩
          rw [← hv2] at XJ
          clear hx1 hx2 hx3 hgo HL HM HMM hv2
          go_upto_region 24 with (go_at_call 96; refine Calls.mono HMO.out ?_; rintro e wq ⟨rfl, hwq⟩; rw [hwq]; clear hwq wq)
          clear HMO
          have HC : Hid _ := xUint_any XJ.out.rs 4611686018427387905 (by decide)
          obtain ⟨U5, a6, e6, hU⟩ : ∃ U b c, uintS T aM2 eM2 4611686018427387905 = (U, b, c) := ⟨_, _, _, rfl⟩
          have U5m : U5 ≤ 4611686018427387905 := by have h9 := uintS_most T aM2 eM2 4611686018427387905; rw [hU] at h9; exact h9
          have hS := HSS.out
          simp only [hU] at HC hS
          clear HSS
          have HSS : Hid _ := hS
          clear hU hS
          go_wp2_with fail
          refine Calls.mono HC.out ?_
          rintro e w6 ⟨rfl, r1⟩
          have Y6 : Hid _ := XJ.out.call r1
          clear r1 HC XJ 
          have hc : w6.cell? ⟨w.heap.size + 2, 5, none⟩ = some (.int .u64 0) := Y6.out.row.cell 5
          have hf : w6.frozen? ⟨w.heap.size + 2, 5, none⟩ = false := Y6.out.row.fr 5
          have X6 : Hid (XR w sv T _ _ _ _ _ _ (w6.setCell ⟨w.heap.size + 2, 5, none⟩ (.int .u64 U5)) a6 e6 (pgC U0 U1 U2 v1 v2 U5 (.slice none 0 0))) := Y6.out.set 5 (.int .u64 U5)
          clear Y6
          have HC : Hid _ := xUint_any X6.out.rs 63 (by decide)
          obtain ⟨N6, a7, e7, hU⟩ : ∃ U b c, uintS T a6 e6 63 = (U, b, c) := ⟨_, _, _, rfl⟩
          have N6m : N6 ≤ 63 := by have h9 := uintS_most T a6 e6 63; rw [hU] at h9; exact h9
          have hS := HSS.out
          simp only [hU] at HC hS
          clear HSS
          have HSS : Hid _ := hS
          clear hU hS
          go_wp2_with fail
          refine Calls.mono HC.out ?_
          rintro e w7 ⟨rfl, r1⟩
          have X7 : Hid _ := X6.out.call r1
          clear r1 HC X6 hc hf
          obtain ⟨MM3, aM3, eM3, hMM⟩ : ∃ x b c, manyE peakE T N6 a7 e7 = (x, b, c) := ⟨_, _, _, rfl⟩
          have hS := HSS.out
          simp only [hMM] at hS
          clear HSS
          have HSS : Hid _ := hS
          have HMM : Hid _ := hMM
          clear hMM hS
          go_wp2_with fail
          go_loopw [13] (fun i wr => ∃ (j ai : Nat) (ei : Int) (v : Value) (L : List (List Value)), j ≤ N6 ∧ i = .int .u64 j ∧ Hid (XR w sv T v1 v2 v MM1 MM2 L wr ai ei (pgC U0 U1 U2 v1 v2 U5 v) ∧ L.length = j ∧ manyE peakE T N6 a7 e7 = (L ++ (manyE peakE T (N6 - j) ai ei).1, (manyE peakE T (N6 - j) ai ei).2))) (fun i _ => N6 - (intOf i).toNat)
          case atStart => exact ⟨0, a7, e7, _, [], Nat.zero_le _, rfl, X7.out, rfl, by simp⟩
          case round =>
            obtain ⟨j, ai, ei, v, L, hj, rfl, hid⟩ := hrel
            have XJ : Hid _ := hid.out.1
            have HL : Hid _ := hid.out.2.1
            have HM : Hid _ := hid.out.2.2
            clear hid
            have HMO : Hid _ := xMore_any XJ.out.rs j N6
            by_cases hgo : ei = 0 ∧ j < N6
            · obtain ⟨rfl, hlt⟩ := hgo
              rw [decide_eq_true (⟨rfl, hlt⟩ : (0 : Int) = 0 ∧ j < N6)] at HMO
              obtain ⟨R, hR⟩ : ∃ R, R = peakE T ai 0 := ⟨_, rfl⟩
              have HR0 : Hid _ := hR
              unfold peakE limbS at hR
              simp only at hR
              have HRR : Hid _ := hR
              clear hR
              have g0 : wr.heap.size < (wr.alloc (.cells (leafC 0 ((List.replicate 33 0) ++ (List.replicate 32 0))).toArray 129)).heap.size := by simp
              have XK : Hid _ := XJ.out.fresh ((Chg.refl (fun _ => False) wr).alloc (.cells (leafC 0 ((List.replicate 33 0) ++ (List.replicate 32 0))).toArray 129))
              have RB : Hid _ := Blk.made wr (leafC 0 ((List.replicate 33 0) ++ (List.replicate 32 0))) 129
              have GS : Hid (w.heap.size + 3 ≤ wr.heap.size) := XJ.out.sz
              have HD : Hid _ := XJ.out.lt
              clear XJ g0
              go_upto_region 30 with (go_at_call 96; refine Calls.mono HMO.out ?_; rintro e wq ⟨rfl, hwq⟩; rw [hwq]; clear hwq wq)
              clear HMO
              have HC : Hid _ := xUint_any XK.out.rs maxN (by decide)
              obtain ⟨U, b1, f1, hU⟩ : ∃ U b c, uintS T ai 0 maxN = (U, b, c) := ⟨_, _, _, rfl⟩
              have Um : U ≤ maxN := by have h9 := uintS_most T ai 0 maxN; rw [hU] at h9; exact h9
              have hS := HRR.out
              simp only [hU] at HC hS
              clear HRR
              have HRR : Hid _ := hS
              clear hU hS
              go_wp2_with fail
              refine Calls.mono HC.out ?_
              rintro e u0 ⟨rfl, r1⟩
              have XC0 : Hid _ := XK.out.call r1
              have RC0 : Hid _ := RB.out.keep r1.2 (by have := GS.out; omega)
              clear r1 HC XK RB 
              have hc : u0.cell? ⟨wr.heap.size, 0, none⟩ = some (.int .u64 0) := RC0.out.cell 0
              have hf : u0.frozen? ⟨wr.heap.size, 0, none⟩ = false := RC0.out.fr 0
              have cS : Chg (fun k => k = wr.heap.size) u0 (u0.setCell ⟨wr.heap.size, 0, none⟩ (.int .u64 U)) := (Chg.refl (fun k => k = wr.heap.size) u0).setCell (p := ⟨wr.heap.size, 0, none⟩) (.inl rfl) _
              have XD0 : Hid _ := XC0.out.recd GS.out HD.out cS
              have RD0 : Hid (Blk (u0.setCell ⟨wr.heap.size, 0, none⟩ (.int .u64 U)) wr.heap.size (leafC U ((List.replicate 33 0) ++ (List.replicate 32 0))) 129) := RC0.out.set 0 (.int .u64 U)
              clear XC0 RC0 cS
              have HC : Hid _ := xAddr_any XD0.out.rs
              obtain ⟨x, hy⟩ : ∃ y, y = pad 33 (pL T b1 f1 33) := ⟨_, rfl⟩
              have Hx : x.length = 33 := by rw [hy]; exact pad_len (pL_len T b1 f1 33)
              obtain ⟨b2, ha2⟩ : ∃ b, b = pA T b1 f1 33 := ⟨_, rfl⟩
              obtain ⟨f2, he2⟩ : ∃ b, b = pE T b1 f1 33 := ⟨_, rfl⟩
              have hS := HRR.out
              simp only [← hy, ← ha2, ← he2] at HC hS
              clear HRR
              have HRR : Hid _ := hS
              clear hy ha2 he2 hS
              go_wp2_with fail
              refine Calls.mono HC.out ?_
              rintro e u1 ⟨rfl, r1⟩
              have XC1 : Hid _ := XD0.out.call r1
              have RC1 : Hid _ := RD0.out.keep r1.2 (by have := GS.out; omega)
              clear r1 HC XD0 RD0 hc hf
              go_upto_region 32 with (refine wpList_store_part rfl 33 (.tmp 97) (.tmp 95) rfl wr.heap.size 1 (bs x) rfl rfl RC1.out (by rw [bs_len, Hx, leafC_len]; simp) (Try.addrSz x Hx) (bs_one x) ?_; intro z1 b7 c7; rw [pk_putx _ _ _ _ (by simp [Hx])] at b7; have RD1 : Hid _ := b7; have XD1 : Hid _ := XC1.out.recd GS.out HD.out c7; clear b7 c7)
              clear XC1 RC1
              have HC : Hid _ := xSum_any XD1.out.rs
              obtain ⟨y, hy⟩ : ∃ y, y = pad 32 (pL T b2 f2 32) := ⟨_, rfl⟩
              have Hy : y.length = 32 := by rw [hy]; exact pad_len (pL_len T b2 f2 32)
              obtain ⟨b3, ha2⟩ : ∃ b, b = pA T b2 f2 32 := ⟨_, rfl⟩
              obtain ⟨f3, he2⟩ : ∃ b, b = pE T b2 f2 32 := ⟨_, rfl⟩
              have hS := HRR.out
              simp only [← hy, ← ha2, ← he2] at HC hS
              clear HRR
              have HRR : Hid _ := hS
              clear hy ha2 he2 hS
              go_wp2_with fail
              refine Calls.mono HC.out ?_
              rintro e u34 ⟨rfl, r1⟩
              have XC34 : Hid _ := XD1.out.call r1
              have RC34 : Hid _ := RD1.out.keep r1.2 (by have := GS.out; omega)
              clear r1 HC XD1 RD1 
              go_upto_region 33 with (refine wpList_store_part rfl 31 (.tmp 101) (.tmp 99) rfl wr.heap.size 34 (bs y) rfl rfl RC34.out (by rw [bs_len, Hy, leafC_len]; simp [Hx]) (Try.sumSz' y Hy) (bs_one y) ?_; intro z34 b7 c7; rw [pk_puty _ _ _ _ Hx (by simp [Hy])] at b7; have RD34 : Hid _ := b7; have XD34 : Hid _ := XC34.out.recd GS.out HD.out c7; clear b7 c7)
              clear XC34 RC34
              obtain ⟨wA, hwA⟩ : ∃ wA : World, wA = z34 := ⟨_, rfl⟩
              have XA : Hid (XR w sv T v1 v2 v MM1 MM2 L wA b3 f3 (pgC U0 U1 U2 v1 v2 U5 v)) := by rw [hwA]; exact XD34.out
              have RA : Hid (Blk wA wr.heap.size (leafC U (x ++ y)) 129) := by rw [hwA]; exact RD34.out
              clear XD34 RD34 
              obtain ⟨kc, hkc⟩ : ∃ kc, kc = leafC U (x ++ y) := ⟨_, rfl⟩
              rw [← hkc] at RA
              have RK : Hid (R = (kc, b3, f3)) := by rw [hkc]; exact HRR.out
              have LK : kc.length = 66 := by have h9 := congrArg Prod.fst RK.out; simp only at h9; rw [← h9, HR0.out]; exact peakE_len T ai 0
              have OK : Hid (∀ u ∈ kc, u.oneCell' = true) := by have h9 := congrArg Prod.fst RK.out; simp only at h9; rw [← h9, HR0.out]; exact peakE_one T ai 0
              clear hkc HRR
              obtain ⟨v', w9, hr9, x9⟩ := XA.out.addP LK OK.out (by have := HL.out; omega)
              have FIN : Hid (XR w sv T v1 v2 v' MM1 MM2 (L ++ [kc]) w9 b3 f3 (pgC U0 U1 U2 v1 v2 U5 v) ∧ (L ++ [kc]).length = j + 1 ∧ manyE peakE T N6 a7 e7 = ((L ++ [kc]) ++ (manyE peakE T (N6 - (j + 1)) b3 f3).1, (manyE peakE T (N6 - (j + 1)) b3 f3).2)) := by
                refine ⟨x9, by rw [List.length_append, HL.out]; rfl, ?_⟩
                rw [HM.out, show N6 - j = (N6 - (j + 1)) + 1 by omega, manyE_step, ← HR0.out, RK.out]
                simp
              obtain ⟨ya, yc, hyf⟩ := x9.pg.p.form
              obtain ⟨ln, hln⟩ : ∃ ln, ln = (L ++ [kc]).length := ⟨_, rfl⟩
              rw [← hln] at hyf
              obtain ⟨va, vc, hvf⟩ := XA.out.pg.p.form
              have hcl : wA.cell? ⟨w.heap.size + 2, 6, none⟩ = some v := XA.out.row.cell 6
              have hcl2 : (wA.alloc (.cells kc.toArray 129)).cell? ⟨w.heap.size + 2, 6, none⟩ = some v := (XA.out.row.alloc _).cell 6
              have hcl9 : w9.cell? ⟨w.heap.size + 2, 6, none⟩ = some v := FIN.out.1.row.cell 6
              have hcf9 : w9.frozen? ⟨w.heap.size + 2, 6, none⟩ = false := FIN.out.1.row.fr 6
              have HR9 : Hid _ := hr9
              subst hvf
              subst hyf
              have FIX : Hid _ := FIN.out.1.set 6 (.slice ya ln yc)
              rw [← hwA]
              clear hr9 x9 hwA hln 
              go_wp2_with (first
                | refine wpList_load_part rfl 129 (.tmp 14) rfl wr.heap.size 0 kc rfl RA.out (by simp) Try.underlying129 rfl (by rw [LK]; exact Try.size130) ?_
                | refine wpList_buildG (sl := 47) Try.underlying47 info130 (by decide) (by decide) rfl (.tmp 105) rfl (C := kc) rfl LK ?_
                | refine wpList_appG (sl := 47) rfl (.tmp 104) (.tmp 106) rfl (v := .slice va L.length vc) (u := .slice (some ⟨wA.heap.size, 0, none⟩) 1 1) (v' := .slice ya ln yc) (w' := w9) rfl rfl HR9.out ?_)
              go_roundw
              case rel => exact ⟨j + 1, _, _, _, L ++ [kc], by omega, by go_num, FIX.out, FIN.out.2⟩
              case measure => simp [intOf]; omega
            · have hex : L = MM3 ∧ ai = aM3 ∧ ei = eM3 := by
                have h9 := HM.out
                rw [HMM.out] at h9
                by_cases he : ei = 0
                · have hjn : N6 - j = 0 := by have := fun q => hgo ⟨he, q⟩; omega
                  rw [hjn] at h9
                  simp only [manyE, List.append_nil, Prod.mk.injEq] at h9
                  exact ⟨h9.1.symm, h9.2.1.symm, h9.2.2.symm⟩
                · rw [manyE_err he] at h9
                  simp only [List.append_nil, Prod.mk.injEq] at h9
                  exact ⟨h9.1.symm, h9.2.1.symm, h9.2.2.symm⟩
              rw [decide_eq_false hgo] at HMO
              obtain ⟨hx1, hx2, hx3⟩ := hex
              rw [hx1, hx2, hx3] at XJ
              obtain ⟨v3, hv3⟩ : ∃ v3, v3 = v := ⟨_, rfl⟩
              rw [← hv3] at XJ
              clear hx1 hx2 hx3 hgo HL HM HMM hv3
              go_upto_region 34 with (go_at_call 96; refine Calls.mono HMO.out ?_; rintro e wq ⟨rfl, hwq⟩; rw [hwq]; clear hwq wq)
              clear HMO
              have hEE : endE T aM3 eM3 = E := by rw [HE.out, HSS.out]
              have HC : Hid _ := xEnd_any XJ.out.rs
              rw [hEE] at HC
              clear hEE
              go_wp2_with fail
              refine Calls.mono HC.out ?_
              rintro e w20 ⟨rfl, kk, hw⟩
              have XF : Hid _ := XJ.out.fresh (w' := w20) (by rw [hw]; exact drewN_chg _ _ _)
              obtain ⟨m1, m2, hm1⟩ := XF.out.pg.m.form
              obtain ⟨n1, n2, hn1⟩ := XF.out.pg.v.form
              obtain ⟨p1, p2, hp1⟩ := XF.out.pg.p.form
              have ON : Hid (∀ u ∈ pgC U0 U1 U2 v1 v2 U5 v3, u.oneCell' = true) := pgC_one _ _ _ _ XF.out.pg.m.one XF.out.pg.v.one XF.out.pg.p.one
              clear hw HC XJ hm1 hn1 hp1
              obtain ⟨C, hC⟩ : ∃ C, C = pgC U0 U1 U2 v1 v2 U5 v3 := ⟨_, rfl⟩
              have LC : C.length = pgZ.length := by rw [hC]; rfl
              rw [← hC] at XF ON
              have HCC : Hid _ := hC
              clear hC
              by_cases he : E = 0
              · subst he
                go_wp2_with (first | (refine wpList_load_part rfl 51 (.tmp 5) rfl (w.heap.size + 2) 0 C rfl XF.out.row (by simp) Try.underlying51 rfl (Try.pgZsz C LC) ?_) | (refine wpList_store_part rfl 51 (.tmp 2) (.tmp 116) rfl w.heap.size 0 C rfl rfl XF.out.res (by rw [LC, Nat.zero_add]; exact Nat.le_refl _) (Try.pgZsz C LC) ON.out ?_; intro w4 b4 c4; rw [splice_all _ _ LC] at b4; have B4 : Hid _ := b4; have F4 : Hid (Below w.heap.size w w4) := XF.out.be.trans (c4.below (Nat.le_trans (by omega) XF.out.sz) (fun k e => by omega)); have T4 : Hid (∃ B, PgIs w4 B S C) := ⟨w.heap.size + 3, v1, v2, v3, by rw [HCC.out, HSS.out], by rw [HSS.out]; exact XF.out.pg.kept c4 (fun g e => by rw [e]; exact XF.out.res.notEl)⟩; clear b4 c4))
                exact bodyPost_ret (results_row2 rfl _ _ w.heap.size 51 C _ _ rfl B4.out Try.underlying51 rfl (Try.pgZsz C LC) rfl) rfl ⟨C, rfl, F4.out, ⟨LC, ON.out⟩, (by first | exact T4.out | exact ⟨fun _ => T4.out, fun e => absurd rfl e⟩)⟩
              · go_wp2_with (refine wpList_store_part rfl 51 (.tmp 2) (.tmp 114) rfl w.heap.size 0 pgZ rfl rfl XF.out.res (Nat.le_of_eq (Nat.zero_add _)) (Try.pgZsz _ rfl) pgZ_one ?_; intro w4 b4 c4; rw [splice_all _ _ rfl] at b4; have B4 : Hid _ := b4; have F4 : Hid (Below w.heap.size w w4) := XF.out.be.trans (c4.below (Nat.le_trans (by omega) XF.out.sz) (fun k e => by omega)); clear b4 c4)
                exact bodyPost_ret (results_row2 rfl _ _ w.heap.size 51 pgZ _ _ rfl B4.out Try.underlying51 rfl (Try.pgZsz _ rfl) rfl) rfl ⟨pgZ, rfl, F4.out, ⟨rfl, pgZ_one⟩, fun e => absurd e he, fun _ => rfl⟩
end Go.Proofs.Ytfkjgfelgiogeaa
