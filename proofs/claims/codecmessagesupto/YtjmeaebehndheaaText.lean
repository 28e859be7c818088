/-
  The walks of the reference's Text and of marked.
-/
import Derived.Test.YtjmeaebehndheaaNum2
import Derived.Deep.DeepAppendRoom
namespace Go.Proofs.Ytjmeaebehndheaa
open Go.RowKit

/-- What Text answers and leaves. -/
def textS (T : List Int) (a : Nat) (err most : Int) : List Int × Nat × Int :=
  if err = 0 then (match numG (T.drop a) 0 0 with
    | (e, n, u) => if e = 0 then (if most < 0 ∨ most < n then ([], a, 21) else if T.length < a + u + n then ([], a, 20) else ((T.drop (a + u)).take n, a + u + n, 0)) else ([], a, e)) else ([], a, err)
theorem textS_err {T : List Int} {a : Nat} {err most : Int} (h : ¬ err = 0) : textS T a err most = ([], a, err) := by simp [textS, h]
theorem textS_bad {T : List Int} {a : Nat} {most e : Int} {n u : Nat} (h : numG (T.drop a) 0 0 = (e, n, u)) (he : ¬ e = 0) : textS T a 0 most = ([], a, e) := by simp [textS, h, he]
theorem textS_long {T : List Int} {a : Nat} {most : Int} {n u : Nat} (h : numG (T.drop a) 0 0 = (0, n, u)) (he : most < 0 ∨ most < n) : textS T a 0 most = ([], a, 21) := by simp [textS, h, he]
theorem textS_short {T : List Int} {a : Nat} {most : Int} {n u : Nat} (h : numG (T.drop a) 0 0 = (0, n, u)) (he : ¬ (most < 0 ∨ most < n)) (h2 : T.length < a + u + n) : textS T a 0 most = ([], a, 20) := by simp [textS, h, he, h2]
theorem textS_ok {T : List Int} {a : Nat} {most : Int} {n u : Nat} (h : numG (T.drop a) 0 0 = (0, n, u)) (he : ¬ (most < 0 ∨ most < n)) (h2 : ¬ T.length < a + u + n) : textS T a 0 most = ((T.drop (a + u)).take n, a + u + n, 0) := by simp [textS, h, he, h2]

set_option maxRecDepth 100000 in
set_option maxHeartbeats 4000000 in
theorem xText_any {w : World} {p : Nat} {t : TypeId} {tv : Value} {T : List Int} {a : Nat} {err : Int} (h : RS w p t tv T a err) (most : Int) (hm : most ≤ 9223372036854775807) :
    Calls Try.prog 69 #[.pointer (some ⟨p, 0, none⟩), .int .i64 most] w fun e w' => ∃ s, e = .returned s ∧ Own w' s (textS T a err most).1 ∧ RP w w' p t tv T (textS T a err most).2.1 (textS T a err most).2.2 ∧ ∀ k, s.ownBlock = some k → w.heap.size ≤ k := by
  have H : Hid _ := h
  have hle := h.le
  have hbig := h.big
  have k0 : ∀ j, (w.drewN j).cell? ⟨p, 0, none⟩ = some tv := fun j => RS.c0 (RS.drewN H.out j)
  have k1 : ∀ j, (w.drewN j).cell? ⟨p, 1, none⟩ = some (.int .i64 a) := fun j => RS.c1 (RS.drewN H.out j)
  have k2 : ∀ j, (w.drewN j).cell? ⟨p, 2, none⟩ = some (.int .i64 err) := fun j => RS.c2 (RS.drewN H.out j)
  have k2' := h.c2
  have f1 : ∀ j, (w.drewN j).frozen? ⟨p, 1, none⟩ = false := fun j => RS.fr (RS.drewN H.out j) 1
  have f2 : ∀ j, (w.drewN j).frozen? ⟨p, 2, none⟩ = false := fun j => RS.fr (RS.drewN H.out j) 2
  have hnum : Hid (∀ j, Calls Try.prog 111 #[tv, .int .i64 a] (w.drewN j) fun e w' => e = .returned (.tuple (numR T a).toArray) ∧ w' = w.drewN j) := fun j => number_any (Src.drewN h.src j) h.byt a h.le h.big
  have hfit := fun n u e => numG_fits (T.drop a) 0 0 n u (Byts.drop h.byt a) (by omega) (by omega) e
  obtain ⟨b0, d0, hv⟩ := h.src.form
  subst hv
  clear h
  obtain ⟨A, hA⟩ : ∃ A, A = textS T a err most := ⟨_, rfl⟩
  rw [← hA]
  have HA : Hid _ := hA
  clear hA
  by_cases he : err = 0
  · subst he
    obtain ⟨e, n, u, hg⟩ : ∃ e n u, numG (T.drop a) 0 0 = (e, n, u) := ⟨_, _, _, rfl⟩
    by_cases he : e = 0
    · subst he
      obtain ⟨hu, hn⟩ := hfit n u hg
      simp only [List.length_drop] at hu
      rw [numR_ok hg] at hnum
      by_cases hmn : most < 0 ∨ most < n
      · have E : Hid _ := HA.out.trans (textS_long hg hmn)
        clear hg hfit
        rcases (show most < 0 ∨ (0 ≤ most ∧ most < n) by omega) with hm0 | ⟨hm0, hm1⟩
        · have hd : decide (most < 0) = true := by simpa using hm0
          go_enter Try.func69, Try.ntmps69
          go_wp2_with fail
          go_quiet ((go_at_call 111; exact Calls.quiet_of_same (hnum.out _)))
          go_wp2_with fail
          go_ret
          refine ⟨_, rfl, by rw [E.out]; exact Own.nil _, ?_, fun k hk => by cases hk⟩
          rw [E.out]
          exact ⟨RS.setErr (RS.drewN H.out _) 21, (drewN_chg w _ (fun k => k = p)).setCell (.inl rfl) _⟩
        · have hd : decide (most < 0) = false := by simp; omega
          go_enter Try.func69, Try.ntmps69
          go_wp2_with fail
          go_quiet ((go_at_call 111; exact Calls.quiet_of_same (hnum.out _)))
          go_wp2_with fail
          go_ret
          refine ⟨_, rfl, by rw [E.out]; exact Own.nil _, ?_, fun k hk => by cases hk⟩
          rw [E.out]
          exact ⟨RS.setErr (RS.drewN H.out _) 21, (drewN_chg w _ (fun k => k = p)).setCell (.inl rfl) _⟩
      · by_cases hsh : T.length < a + u + n
        · have E : Hid _ := HA.out.trans (textS_short hg hmn hsh)
          have hd : decide (most < 0) = false := by simp; omega
          clear hg hfit
          go_enter Try.func69, Try.ntmps69
          go_wp2_with fail
          go_quiet ((go_at_call 111; exact Calls.quiet_of_same (hnum.out _)))
          go_wp2_with fail
          go_ret
          refine ⟨_, rfl, by rw [E.out]; exact Own.nil _, ?_, fun k hk => by cases hk⟩
          rw [E.out]
          exact ⟨RS.setErr (RS.drewN H.out _) 20, (drewN_chg w _ (fun k => k = p)).setCell (.inl rfl) _⟩
        · have E : Hid _ := HA.out.trans (textS_ok hg hmn hsh)
          have hd : decide (most < 0) = false := by simp; omega
          clear hg hfit
          have R3 : ∀ N, RS ((w.drewN N).setCell ⟨p, 1, none⟩ (.int .i64 ((a : Int) + u))) p t _ T (a + u) 0 := fun N => by
            have := RS.setAt (RS.drewN H.out N) (a + u) (by omega)
            rwa [Int.natCast_add] at this
          have C3 : ∀ N, Chg (fun k => k = p) w ((w.drewN N).setCell ⟨p, 1, none⟩ (.int .i64 ((a : Int) + u))) := fun N => (drewN_chg w N (fun k => k = p)).setCell (.inl rfl) _
          have HR3 : Hid _ := R3
          have HC3 : Hid _ := C3
          clear R3 C3
          obtain ⟨e1, e2, e3⟩ := p_good (T := T) (a := a + u) (m := n) (by omega) (by omega)
          have E1 : Hid _ := e1
          have E2 : Hid _ := e2
          have E3 : Hid _ := e3
          clear e1 e2 e3
          go_enter Try.func69, Try.ntmps69
          go_wp2_with fail
          go_quiet ((go_at_call 111; exact Calls.quiet_of_same (hnum.out _)))
          go_wp2_with fail
          refine (piece_any (HR3.out _) n).mono ?_
          rintro e w4 ⟨s4, rfl, o4, r4, b4⟩
          rw [E1.out] at o4
          rw [E2.out, E3.out] at r4
          have O4 : Hid _ := o4
          have R4 : Hid _ := r4
          have B4 : Hid _ := b4
          clear o4 r4 b4
          go_wp2_with fail
          go_ret
          refine ⟨_, rfl, by rw [E.out]; exact O4.out, ?_, fun k hk => by have := B4.out k hk; simpa using this⟩
          rw [E.out]
          exact ⟨R4.out.1, (HC3.out _).trans R4.out.2 (fun _ e => .inl e)⟩
    · rw [numR_err hg he] at hnum
      have E : Hid _ := HA.out.trans (textS_bad hg he)
      clear hg hfit
      go_enter Try.func69, Try.ntmps69
      go_wp2_with fail
      go_quiet ((go_at_call 111; exact Calls.quiet_of_same (hnum.out _)))
      go_wp2_with fail
      go_ret
      refine ⟨_, rfl, by rw [E.out]; exact Own.nil _, ?_, fun k hk => by cases hk⟩
      rw [E.out]
      exact ⟨RS.setErr (RS.drewN H.out _) e, (drewN_chg w _ (fun k => k = p)).setCell (.inl rfl) _⟩
  · have E : Hid _ := HA.out.trans (textS_err he)
    go_enter Try.func69, Try.ntmps69
    go_wp2_with fail
    go_ret
    refine ⟨_, rfl, by rw [E.out]; exact Own.nil _, ?_, fun k hk => by cases hk⟩
    rw [E.out]
    exact RS.refl H.out

/-- append of bytes: what was there stays what it was. -/
theorem run_app_keep (w : World) (ty : TypeId) {v s : Value} {l m : List Int} (hv : Own w v l) (hs : Src w s m) (hm : 0 < m.length) (hb : l.length + m.length ≤ 140737488355328) :
    ∃ v' w', (Builtin.append_ #[23, 23] ty #[v, s]).run Try.prog w = .ok v' w' ∧ Own w' v' (l ++ m) ∧ Src w' v l ∧ Chg (fun k => some k = v.ownBlock) w w' ∧ (v'.ownBlock = v.ownBlock ∨ v'.ownBlock = some w.heap.size) := by
  obtain ⟨v', w', hr, ho, hc, hat⟩ := run_app w ty hv hs hb
  refine ⟨v', w', hr, ho, ?_, hc, hat⟩
  obtain ⟨i0, hi, hz0, hz1, hz2⟩ := info_parts info5
  rcases hs with ⟨_, rfl⟩ | ⟨a, c, rfl, hcs⟩
  · simp at hm
  · have hnews : ∀ j u, (bs m)[j]? = some u → w.cell? (a.add j) = some u := fun j u hu => by
      obtain ⟨h1, h2⟩ := hcs j u hu
      obtain ⟨b, o, sp⟩ := a
      simp only at h1
      subst h1
      rw [addr_add]
      exact h2
    rcases hv.2 with ⟨rfl, h0⟩ | ⟨g, cap, cur, rfl, hbg, hg, hnc, hcm, hsz, htake⟩
    · exact .inl ⟨rfl, List.eq_nil_of_length_eq_zero h0⟩
    · by_cases hroom : l.length + m.length ≤ cap
      · obtain ⟨w2, hr2, ho2, _⟩ := run_append_own_spare (P := Try.prog) w 0 23 ty 5 i0 1 Try.underlying23 hi hz1 g l.length cap (bs l) hv a m.length c (bs m) (by rw [bs_len, Nat.mul_one]) hnews (bs_one m) hroom
        rw [hr] at hr2
        injection hr2 with e1 e2
        subst e1 e2
        refine .inr ⟨⟨g, 0, none⟩, cap, rfl, fun j u hu => ⟨rfl, ?_⟩⟩
        have h9 := World.ownsRow.cells ho2 (g := g) rfl j u (by rw [List.getElem?_append_left (List.getElem?_eq_some_iff.1 hu).1]; exact hu)
        rwa [addr_add] at h9
      · have holds : ∀ j u, (bs l)[j]? = some u → w.cell? ((⟨g, 0, none⟩ : Addr).add j) = some u := World.ownsRow.cells hv (g := g) rfl
        have hr2 := run_append_grow (P := Try.prog) w 23 ty 5 i0 _ Try.underlying23 hi hz0 ⟨g, 0, none⟩ l.length cap (bs l) (by rw [bs_len, hz1, Nat.mul_one]) holds a m.length c (bs m) (by rw [bs_len, hz1, Nat.mul_one]) hnews (by omega) (by unfold maxLen at *; omega) (growslice_fits (by omega) (by rw [hz2]; omega))
        rw [hr] at hr2
        injection hr2 with e1 e2
        subst e1 e2
        exact hv.src.kept (((Chg.refl (fun _ => False) w).drew).alloc _) (fun _ _ h => h)
theorem wpList_app_keep {ops : Array Oper} {rest : List Oper} {o : Oper} {a : Act} {w : World} {Q : Exit → Act → World → Prop} (hgd : o.guard = none) (s x : Operand)
    (ho : o.op = .call { callee := .builtin .append, args := #[s, x], argTypes := #[23, 23] })
    {v u : Value} {l m : List Int} (hs : a.eval s = v) (hx : a.eval x = u) (hv : Own w v l) (hu : Src w u m) (hm : 0 < m.length) (hb : l.length + m.length ≤ 140737488355328)
    (h : ∀ v' w', Own w' v' (l ++ m) → Src w' v l → Chg (fun k => some k = v.ownBlock) w w' → (v'.ownBlock = v.ownBlock ∨ v'.ownBlock = some w.heap.size) → wpList Try.prog ops Q rest (a.put o.dst v') w') :
    wpList Try.prog ops Q (o :: rest) a w := by
  refine wpList_plain hgd fun K hK => ?_
  obtain ⟨v', w', hr, h2, h2', h3, h5⟩ := run_app_keep w o.type hv hu hm hb
  unfold Oper.wp execOp
  simp only [ho, resolve, invoke, builtin, Sem.run_bind, Sem.run_pure, Result.andThen_ok, List.map_toArray, List.map_cons, List.map_nil, hs, hx, hr]
  exact hK _ _ (h v' w' h2 h2' h3 h5)
/-- A text in whose block a longer one lies that begins with it. -/
theorem src_same {w w0 w1 : World} {u v : Value} {l m : List Int} (h : Src w u (l ++ m)) (h1 : Own w1 u (l ++ m)) (e : u.ownBlock = v.ownBlock) (hu : Own w0 v l) : Src w v l := by
  rcases hu.2 with ⟨rfl, h0⟩ | ⟨g, cap, cur, rfl, _⟩
  · exact .inl ⟨rfl, List.eq_nil_of_length_eq_zero h0⟩
  · rcases h1.2 with ⟨rfl, _⟩ | ⟨g', cap', _, rfl, _⟩
    · simp [Value.ownBlock] at e
    · have e2 : g' = g := by simpa [Value.ownBlock] using e
      subst e2
      rcases h with ⟨h, _⟩ | ⟨a, c, ea, hc⟩
      · cases h
      · injection ea with ea
        injection ea with ea
        subst ea
        refine .inr ⟨⟨g', 0, none⟩, cap, rfl, fun j x hx => ⟨rfl, ?_⟩⟩
        exact (hc j x (by rw [bs_app, List.getElem?_append_left (List.getElem?_eq_some_iff.1 hx).1]; exact hx)).2

set_option maxRecDepth 100000 in
set_option maxHeartbeats 1000000 in
theorem marked_any {w : World} {v : Value} {l : List Int} (h : Own w v l) (hl : l.length + 120 ≤ 140737488355328) :
    Calls Try.prog 38 #[v] w fun e w' => e = .returned (.bool true) ∧ Chg (fun k => some k = v.ownBlock) w w' ∧ Src w' v l := by
  obtain ⟨a0, c0, hv⟩ := h.form
  obtain ⟨L, hL⟩ : ∃ L, L = l.length := ⟨_, rfl⟩
  rw [← hL] at hv hl
  have H : Hid _ := h
  have HL : Hid _ := hL
  have HV : Hid _ := hv
  clear h hL
  rw [hv]
  clear hv
  go_enter Try.func38, Try.ntmps38
  go_wp2_with fail
  go_loopw [0, 4] (fun u i wx => ∃ (j : Nat) (m : List Int), j ≤ 120 ∧ i = .int .i64 j ∧ m.length = j ∧ Own wx u (l ++ m) ∧ Chg (fun k => some k = v.ownBlock) w wx ∧ (u.ownBlock = v.ownBlock ∨ ∃ g, u.ownBlock = some g ∧ w.heap.size ≤ g) ∧ Src wx v l) (fun _ i _ => 120 - (intOf i).toNat)
  case atStart => exact ⟨0, [], by omega, rfl, rfl, by rw [List.append_nil, ← HV.out]; exact H.out, Chg.refl _ _, .inl (by rw [← HV.out]), Own.src H.out⟩
  case round =>
    obtain ⟨j, m, hj, rfl, hm, ho, hch, hat, hsv⟩ := hrel
    have SV : Hid _ := hsv
    have O : Hid _ := ho
    have C : Hid _ := hch
    have AT : Hid _ := hat
    have HM : Hid _ := hm
    have hlen : (l ++ m).length = L + j := by rw [List.length_append, ← HL.out, hm]
    obtain ⟨ua, uc, hu⟩ := ho.form
    rw [hlen] at hu
    have HN : Hid _ := hlen
    clear ho hch hat hm hlen hsv
    subst hu
    by_cases hlt : j < 120
    · go_wp2_with (refine wpList_app_keep rfl (.tmp 11) (.tmp 15) rfl (v := .slice ua (L + j) uc) rfl rfl (Own.alloc O.out _) (src_new _ [(195 + (j : Int)) % 256] 1) (by simp) (by rw [HN.out]; simp; omega) ?_; intro v' w2 hv2 hv0 hch2 hat2; have R1 : Hid _ := hv2; have R0 : Hid _ := hv0; have R2 : Hid _ := hch2; have R3 : Hid _ := hat2; clear hv2 hv0 hch2 hat2)
      go_roundw
      case rel =>
        refine ⟨j + 1, m ++ [(195 + (j : Int)) % 256], by omega, by go_num, by rw [List.length_append, HM.out]; rfl, by rw [← List.append_assoc]; exact R1.out, ?_, ?_, ?_⟩
        · refine (C.out.alloc _).trans R2.out (fun i e => ?_)
          rcases AT.out with x | ⟨g, x, hg⟩
          · exact .inl (by rw [e, x])
          · rw [x] at e; injection e with e; exact .inr (by omega)
        · rcases R3.out with x | x
          · rw [x]; exact AT.out
          · exact .inr ⟨_, x, Nat.le_trans C.out.size (by simp)⟩
        · rcases AT.out with x | ⟨g, x, hg⟩
          · exact src_same R0.out O.out x H.out
          · exact Src.kept (Src.kept SV.out ((Chg.refl (fun _ => False) _).alloc _) (fun _ _ e => e)) R2.out (fun k hk e => by rw [x] at e; injection e with e; have := Own.lt H.out hk; omega)
      case measure => simp [intOf]; omega
    · have hj120 : j = 120 := by omega
      subst hj120
      obtain ⟨M, hM⟩ : ∃ M, M = L + 120 := ⟨_, rfl⟩
      rw [← hM]
      have hMI : (M : Int) = (L : Int) + 120 := by omega
      clear hM
      go_wp2_with fail
      go_ret
      have C2 := C.out
      have S2 := SV.out
      rw [HV.out] at C2 S2
      exact ⟨rfl, C2, S2⟩
end Go.Proofs.Ytjmeaebehndheaa
