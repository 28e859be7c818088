/-
  One turn of HeapTurns: its walk.
-/
import Derived.Test.YtpkcabbfblhekaaTurn
namespace Go.Proofs.Ytpkcabbfblhekaa
open Go.RowKit

/-- tookR, shut. -/
structure TR (a : Int × Int) (ok : Bool) (l : List (Int × Int)) (all : Bool) : Prop where
  r : tookR a ok l all

/-- What a turn leaves. -/
def TP (w w' : World) (all : Bool) (p : Nat) (v : Value) (came : Nat) (lv : Value) (n : Nat) (lv' : Value) : Prop :=
  ∃ (v' : Value) (H' : List E) (came' : Nat) (l' : List (Int × Int)), TS w' all p v' H' came' lv' l' ∧ came' ≤ came + n ∧ Chg (fun k => k = p ∨ some k = v.ownBlock) w w' ∧
    (∀ k, v'.ownBlock = some k → some k = v.ownBlock ∨ w.heap.size ≤ k) ∧ (∀ k, lv'.ownBlock = some k → lv.ownBlock = some k ∨ w.heap.size ≤ k)

section
variable {w : World} {all : Bool} {p : Nat} {v : Value} {H : List E} {came : Nat} {lv : Value} {l : List (Int × Int)}

theorem TP.same {w' : World} {n : Nat} (h : TS w all p v H came lv l) (k : Chg (fun _ => False) w w') : TP w w' all p v came lv n lv :=
  ⟨v, H, came, l, h.keep k, by omega, k.mono (fun _ _ h => h.elim), fun _ h => .inl h.symm, fun _ h => .inl h⟩

set_option maxRecDepth 100000 in
set_option maxHeartbeats 4000000 in
theorem turn_any (h : TS w all p v H came lv l) {kind which : Int} {s : Value} {L : List (Int × Int)} (hL : Ths w s L) (hsb : ∀ k, L ≠ [] → s.ownBlock = some k → k ≠ p ∧ some k ≠ v.ownBlock) (hcm : came + L.length + 1 ≤ 2097152) (k1 : kind ≠ 1) (k4 : kind ≠ 4) :
    Calls Try.prog 25 #[.pointer (some ⟨p, 0, none⟩), lv, .agg #[.int .i64 kind, .int .i64 which, s], .bool all] w fun e w' => ∃ lv', e = .returned (.tuple #[lv', .bool true]) ∧ TP w w' all p v came lv (L.length + 1) lv' := by
  have hlen := h.len
  have hcmH := h.cm
  have hll : l.length ≤ 2097152 := by omega
  obtain ⟨la, lc, rfl⟩ := h.own.form
  obtain ⟨sa, sc, rfl⟩ := hL.form
  obtain ⟨w1, hw1⟩ : ∃ w1, w1 = w.alloc (.cells #[.int .i64 kind, .int .i64 which, .slice sa L.length sc] 30) := ⟨_, rfl⟩
  have hc1 : Chg (fun _ => False) w w1 := by rw [hw1]; exact (Chg.refl _ _).alloc _
  have hB1 : Blk w1 w.heap.size [.int .i64 kind, .int .i64 which, .slice sa L.length sc] 30 := by rw [hw1]; exact Blk.made w [.int .i64 kind, .int .i64 which, .slice sa L.length sc] 30
  have h1 := h.keep hc1
  have FI : Hid _ := first_any h1.own.ths hll all
  have W1 : Hid _ := hw1
  have C1 : Hid _ := hc1
  have B1 : Hid _ := hB1
  have T0 : Hid _ := h
  have T1 : Hid _ := h1
  have TH : Hid _ := hL
  have SB : Hid _ := hsb
  clear hw1 hc1 hB1 h h1 hL hsb
  go_enter Try.func25, Try.ntmps25
  go_wp2_with fail
  rw [← W1.out]
  refine Calls.mono FI.out ?_
  rintro e w2 ⟨rfl, ch2⟩
  have hB2 := Blk.keep B1.out ch2 (fun h => h)
  have k0 : w2.cell? ⟨w.heap.size, 0, none⟩ = some (.int .i64 kind) := hB2.cell 0
  have k2' : w2.cell? ⟨w.heap.size, 2, none⟩ = some (.slice sa L.length sc) := hB2.cell 2
  have hT2 := T1.out.keep ch2
  have hC2 : Chg (fun _ => False) w w2 := C1.out.trans ch2 (fun _ h => h.elim)
  have T2 : Hid _ := hT2
  have C2 : Hid _ := hC2
  have B2 : Hid _ := hB2
  obtain ⟨fi, hfi⟩ : ∃ fi, firstU all l l.length = fi := ⟨_, rfl⟩
  rw [hfi]
  have FF : Hid _ := hfi
  have hsz2 : w.heap.size < w2.heap.size := hB2.lt
  have hpl : p < w.heap.size := T0.out.hq.lt
  clear ch2 hB2 hT2 hC2 hfi FI W1 C1 B1 T1
  have e1 : (kind == 1) = false := by simpa using k1
  have e4 : (kind == 4) = false := by simpa using k4
  by_cases k2 : kind = 2
  · subst k2
    have PK0 := peek_any T2.out.hq
    obtain ⟨r, hr⟩ : ∃ r, (nth H 0).th = r := ⟨_, rfl⟩
    obtain ⟨b, hb⟩ : ∃ b, decide (0 < H.length) = b := ⟨_, rfl⟩
    have RT := T2.out.right
    rw [hr, hb] at PK0 RT
    obtain ⟨rk, rn⟩ := r
    have PK : Hid _ := PK0
    unfold two at PK
    have RR : Hid _ := TR.mk RT
    clear PK0 RT hr hb
    go_wp2_with fail
    refine Calls.mono PK.out ?_
    rintro e w3 ⟨rfl, ch3⟩
    have hc4 : Chg (fun _ => False) w2 (w3.alloc (.cells #[.int .i64 rk, .int .i64 rn] 26)) := ch3.alloc _
    have TK := took_any (T2.out.keep hc4).own.ths hll (TR.r RR.out)
    have TK' : Hid _ := TK
    unfold two at TK'
    have C4 : Hid _ := hc4
    clear hc4 ch3 TK PK
    go_wp2_with (go_at_call 40; refine Calls.mono TK'.out ?_; rintro e w5 ⟨rfl, ch5⟩; have C5 : Hid _ := ch5; clear ch5)
    go_ret2
    exact ⟨_, rfl, TP.same T0.out ((C2.out.trans C4.out (fun _ h => h.elim)).trans C5.out (fun _ h => h.elim))⟩
  · have e2 : (kind == 2) = false := by simpa using k2
    by_cases k3 : kind = 3
    · subst k3
      have PP0 := pop_any (od_B all) T2.out.hq (by omega) (oneB_le all)
      obtain ⟨r, hr⟩ : ∃ r, (nth H 0).th = r := ⟨_, rfl⟩
      have RT := T2.out.right
      rw [hr] at PP0 RT
      obtain ⟨rk, rn⟩ := r
      have RR : Hid _ := TR.mk RT
      have hnb : ∀ k, (Value.slice la l.length lc).ownBlock = some k → ¬ (k = p ∨ some k = v.ownBlock ∨ False) := fun k hk e => by
        rcases e with e | e | e
        · exact T2.out.np (by rw [hk, e])
        · exact T2.out.nv k hk e.symm
        · exact e
      have NB : Hid _ := hnb
      clear RT hr hnb
      by_cases h0 : 0 < H.length
      · rw [decide_eq_true h0, if_pos h0] at PP0
        rw [decide_eq_true h0] at RR
        obtain ⟨R, hR⟩ := T2.out.fo
        obtain ⟨m, hm1, hm2, hm3⟩ := hR.first T2.out.ho (by omega)
        have hRl : R.length = l.length := by rw [← hR.list, List.length_map]
        have hfm : fi = (m : Int) := FF.out.symm.trans hm1
        subst hfm
        have hml : m < l.length := by omega
        have FO : Hid (Follows (popF (odB all) H).1 came (wo l m) (wo R m)) := hR.pop hm2 hm3 (popF_perm (odB all) h0)
        have PP : Hid _ := PP0
        unfold two at PP
        clear PP0 hR hm1 hm2 hm3 hRl
        go_wp2_with fail
        refine Calls.mono PP.out ?_
        rintro e w3 ⟨rfl, ⟨v3, hq3, hv3⟩, _, ch3⟩
        have own3 : OwnT w3 (.slice la l.length lc) l := T2.out.own.keep ch3 NB.out
        have hc4 : Chg (fun _ => False) w3 (w3.alloc (.cells #[.int .i64 rk, .int .i64 rn] 26)) := (Chg.refl _ _).alloc _
        obtain ⟨w4, hw4⟩ : ∃ w4, w4 = w3.alloc (.cells #[.int .i64 rk, .int .i64 rn] 26) := ⟨_, rfl⟩
        rw [← hw4] at hc4
        have own4 := own3.keep hc4 (fun _ _ h => h)
        have TK : Hid _ := took_any own4.ths hll (TR.r RR.out)
        unfold two at TK
        have O4 : Hid _ := own4
        have C4 : Hid _ := hc4
        have W4 : Hid _ := hw4
        have Q3 : Hid _ := hq3
        have V3 : Hid _ := hv3
        have C3 : Hid _ := ch3
        have hm0 : (0 : Int) ≤ (m : Int) := by omega
        clear hw4 hc4 own4 own3 hq3 hv3 ch3 PP
        go_wp2_with fail
        rw [← W4.out]
        refine Calls.mono TK.out ?_
        rintro e w5 ⟨rfl, ch5⟩
        have C5 : Hid _ := ch5
        have WO : Hid _ := without_any (OwnT.keep O4.out ch5 (fun _ _ h => h)) hll m hml
        clear ch5 TK W4
        go_wp2_with fail
        refine Calls.mono WO.out ?_
        rintro e w6 ⟨lv', rfl, o6, ch6, hl6⟩
        have O6 : Hid _ := o6
        have C6 : Hid _ := ch6
        have L6 : Hid _ := hl6
        clear o6 ch6 hl6 WO
        go_wp2_with fail
        go_ret2
        have hch36 : Chg (fun _ => False) w3 w6 := (C4.out.trans C5.out (fun _ h => h.elim)).trans C6.out (fun _ h => h.elim)
        have hs35 : w3.heap.size ≤ w5.heap.size := Nat.le_trans C4.out.size C5.out.size
        have hs23 := C3.out.size
        have hq6 := Q3.out.keep hch36 (fun h => h) (fun _ _ h => h)
        have hown : OwnT w6 lv' (wo l m) := O6.out
        have hTS : TS w6 all p v3 (popF (odB all) H).1 came lv' (wo l m) := by
          refine ⟨hq6, popF_HO (tot_B all) T2.out.ho h0, ⟨wo R m, FO.out⟩, hown, fun e => ?_, fun k hk e => ?_, ?_⟩
          · have h8 := L6.out p e
            have h9 := Q3.out.lt
            omega
          · have h8 := L6.out k hk
            have h9 := Q3.out.vlt k e
            omega
          · rw [popF_len]; omega
        have hCC : Chg (fun k => k = p ∨ some k = v.ownBlock) w w6 := ((C2.out.mono (fun _ _ h => h.elim)).trans C3.out (fun i hi => .inl (by rcases hi with h | h | h; exact .inl h; exact .inr h; exact h.elim))).trans hch36 (fun _ h => h.elim)
        have hVV : ∀ k, v3.ownBlock = some k → some k = v.ownBlock ∨ w.heap.size ≤ k := fun k hk => by
          rcases V3.out k hk with h9 | h9
          · exact .inl h9
          · exact .inr (by omega)
        have hLL : ∀ k, lv'.ownBlock = some k → (Value.slice la l.length lc).ownBlock = some k ∨ w.heap.size ≤ k := fun k hk => by
          have := L6.out k hk
          exact .inr (by omega)
        exact ⟨lv', rfl, v3, (popF (odB all) H).1, came, wo l m, hTS, by omega, hCC, hVV, hLL⟩
      · rw [decide_eq_false h0, if_neg h0] at PP0
        rw [decide_eq_false h0] at RR
        have hl0 : l = [] := List.eq_nil_of_length_eq_zero (by omega)
        have hfm : fi = -1 := by rw [← FF.out, hl0]; rfl
        subst hfm
        have PP : Hid _ := PP0
        unfold two at PP
        clear PP0 hl0
        go_wp2_with fail
        refine Calls.mono PP.out ?_
        rintro e w3 ⟨rfl, ⟨v3, hq3, hv3⟩, _, ch3⟩
        have own3 : OwnT w3 (.slice la l.length lc) l := T2.out.own.keep ch3 NB.out
        have hc4 : Chg (fun _ => False) w3 (w3.alloc (.cells #[.int .i64 rk, .int .i64 rn] 26)) := (Chg.refl _ _).alloc _
        obtain ⟨w4, hw4⟩ : ∃ w4, w4 = w3.alloc (.cells #[.int .i64 rk, .int .i64 rn] 26) := ⟨_, rfl⟩
        rw [← hw4] at hc4
        have own4 := own3.keep hc4 (fun _ _ h => h)
        have TK : Hid _ := took_any own4.ths hll (TR.r RR.out)
        unfold two at TK
        have O4 : Hid _ := own4
        have C4 : Hid _ := hc4
        have W4 : Hid _ := hw4
        have Q3 : Hid _ := hq3
        have V3 : Hid _ := hv3
        have C3 : Hid _ := ch3
        clear hw4 hc4 own4 own3 hq3 hv3 ch3 PP
        go_wp2_with fail
        rw [← W4.out]
        refine Calls.mono TK.out ?_
        rintro e w5 ⟨rfl, ch5⟩
        have C5 : Hid _ := ch5
        clear ch5 TK W4
        go_wp2_with fail
        go_ret2
        have hch35 : Chg (fun _ => False) w3 w5 := C4.out.trans C5.out (fun _ h => h.elim)
        have hs23 := C3.out.size
        have hown : OwnT w5 (.slice la l.length lc) l := OwnT.keep O4.out C5.out (fun _ _ h => h)
        have hTS : TS w5 all p v3 H came (.slice la l.length lc) l := by
          refine ⟨Q3.out.keep hch35 (fun h => h) (fun _ _ h => h), T2.out.ho, T2.out.fo, hown, T2.out.np, fun k hk e => ?_, T2.out.cm⟩
          rcases V3.out k e with h9 | h9
          · exact T2.out.nv k hk h9.symm
          · have := T2.out.own.lt hk; omega
        have hCC : Chg (fun k => k = p ∨ some k = v.ownBlock) w w5 := ((C2.out.mono (fun _ _ h => h.elim)).trans C3.out (fun i hi => .inl (by rcases hi with h | h | h; exact .inl h; exact .inr h; exact h.elim))).trans hch35 (fun _ h => h.elim)
        have hVV : ∀ k, v3.ownBlock = some k → some k = v.ownBlock ∨ w.heap.size ≤ k := fun k hk => by
          rcases V3.out k hk with h9 | h9
          · exact .inl h9
          · exact .inr (by omega)
        exact ⟨_, rfl, v3, H, came, l, hTS, by omega, hCC, hVV, fun k hk => .inl hk⟩
    · have e3 : (kind == 3) = false := by simpa using k3
      by_cases k5 : kind = 5
      · subst k5
        have LN0 := len_any T2.out.hq
        rw [hlen] at LN0
        have LN : Hid _ := LN0
        clear LN0
        go_wp2_with (go_at_call 12; refine Calls.mono LN.out ?_; rintro e w9 ⟨rfl, h9⟩; subst h9)
        go_ret2
        exact ⟨_, rfl, TP.same T0.out C2.out⟩
      · have e5 : (kind == 5) = false := by simpa using k5
        go_wp2_with fail
        go_ret2
        exact ⟨_, rfl, TP.same T0.out C2.out⟩
end
end Go.Proofs.Ytpkcabbfblhekaa
