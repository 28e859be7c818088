/-
  A Pop where something is there: the law's own list is one shorter.
-/
import Derived.Test.YtljnpgomdohplaaTurn6
namespace Go.Proofs.Ytljnpgomdohplaa
open Go.RowKit

theorem wo_len {α : Type} (l : List α) (m : Nat) (hm : m < l.length) : (wo l m).length + 1 = l.length := by
  unfold wo
  rw [List.length_append, List.length_take, List.length_drop]
  omega

section
variable {w : World} {all : Bool} {p : Nat} {v : Value} {H : List E} {came : Nat} {lv : Value} {l : List (Int × Int)}

set_option maxRecDepth 100000 in
set_option maxHeartbeats 4000000 in
theorem turn_pop (h : TS w all p v H came lv l) (hl1 : 0 < l.length) {kind which : Int} {s : Value} {L : List (Int × Int)} (hL : Ths w s L) (hsb : ∀ k, L ≠ [] → s.ownBlock = some k → k ≠ p ∧ some k ≠ v.ownBlock) (hcm : came + L.length + 1 ≤ 2097152) (k3 : kind = 3) :
    Calls Try.prog 25 #[.pointer (some ⟨p, 0, none⟩), lv, .agg #[.int .i64 kind, .int .i64 which, s], .bool all] w fun e w' => ∃ lv', e = .returned (.tuple #[lv', .bool true]) ∧
      ∃ (v' : Value) (H' : List E) (l' : List (Int × Int)), TS w' all p v' H' came lv' l' ∧ Chg (fun k => k = p ∨ some k = v.ownBlock) w w' ∧ (∀ k, v'.ownBlock = some k → some k = v.ownBlock ∨ w.heap.size ≤ k) ∧ (∀ k, lv'.ownBlock = some k → lv.ownBlock = some k ∨ w.heap.size ≤ k) ∧ l'.length + 1 = l.length := by
  subst k3
  have hlen := h.len
  have hcmH := h.cm
  have hll : l.length ≤ 2097152 := by omega
  obtain ⟨la, lc, rfl⟩ := h.own.form
  obtain ⟨sa, sc, rfl⟩ := hL.form
  obtain ⟨w1, hw1⟩ : ∃ w1, w1 = w.alloc (.cells #[.int .i64 3, .int .i64 which, .slice sa L.length sc] 30) := ⟨_, rfl⟩
  have hc1 : Chg (fun _ => False) w w1 := by rw [hw1]; exact (Chg.refl _ _).alloc _
  have hB1 : Blk w1 w.heap.size [.int .i64 3, .int .i64 which, .slice sa L.length sc] 30 := by rw [hw1]; exact Blk.made w [.int .i64 3, .int .i64 which, .slice sa L.length sc] 30
  have h1 := h.keep hc1
  have FI : Hid _ := first_any h1.own.ths hll all
  have W1 : Hid _ := hw1
  have C1 : Hid _ := hc1
  have B1 : Hid _ := hB1
  have T0 : Hid _ := h
  have T1 : Hid _ := h1
  have TH : Hid _ := hL
  have SB : Hid _ := hsb
  clear hw1 hc1 hB1 h h1 hL hsb
  go_enter Try.func25, Try.ntmps25
  go_wp2_with fail
  rw [← W1.out]
  refine Calls.mono FI.out ?_
  rintro e w2 ⟨rfl, ch2⟩
  have hB2 := Blk.keep B1.out ch2 (fun h => h)
  have k0 : w2.cell? ⟨w.heap.size, 0, none⟩ = some (.int .i64 3) := hB2.cell 0
  have k2' : w2.cell? ⟨w.heap.size, 2, none⟩ = some (.slice sa L.length sc) := hB2.cell 2
  have hT2 := T1.out.keep ch2
  have hC2 : Chg (fun _ => False) w w2 := C1.out.trans ch2 (fun _ h => h.elim)
  have T2 : Hid _ := hT2
  have C2 : Hid _ := hC2
  have B2 : Hid _ := hB2
  obtain ⟨fi, hfi⟩ : ∃ fi, firstU all l l.length = fi := ⟨_, rfl⟩
  rw [hfi]
  have FF : Hid _ := hfi
  have hsz2 : w.heap.size < w2.heap.size := hB2.lt
  have hpl : p < w.heap.size := T0.out.hq.lt
  clear ch2 hB2 hT2 hC2 hfi FI W1 C1 B1 T1
  have PP0 := pop_any (od_B all) T2.out.hq (by omega) (oneB_le all)
  obtain ⟨r, hr⟩ : ∃ r, (nth H 0).th = r := ⟨_, rfl⟩
  have RT := T2.out.right
  rw [hr] at PP0 RT
  obtain ⟨rk, rn⟩ := r
  have RR : Hid _ := TR.mk RT
  have hnb : ∀ k, (Value.slice la l.length lc).ownBlock = some k → ¬ (k = p ∨ some k = v.ownBlock ∨ False) := fun k hk e => by
    rcases e with e | e | e
    · exact T2.out.np (by rw [hk, e])
    · exact T2.out.nv k hk e.symm
    · exact e
  have NB : Hid _ := hnb
  clear RT hr hnb
  have h0 : 0 < H.length := by omega
  · rw [decide_eq_true h0, if_pos h0] at PP0
    rw [decide_eq_true h0] at RR
    obtain ⟨R, hR⟩ := T2.out.fo
    obtain ⟨m, hm1, hm2, hm3⟩ := hR.first T2.out.ho (by omega)
    have hRl : R.length = l.length := by rw [← hR.list, List.length_map]
    have hfm : fi = (m : Int) := FF.out.symm.trans hm1
    subst hfm
    have hml : m < l.length := by omega
    have FO : Hid (Follows (popF (odB all) H).1 came (wo l m) (wo R m)) := hR.pop hm2 hm3 (popF_perm (odB all) h0)
    have PP : Hid _ := PP0
    unfold two at PP
    clear PP0 hR hm1 hm2 hm3 hRl
    go_wp2_with fail
    refine Calls.mono PP.out ?_
    rintro e w3 ⟨rfl, ⟨v3, hq3, hv3⟩, _, ch3⟩
    have own3 : OwnT w3 (.slice la l.length lc) l := T2.out.own.keep ch3 NB.out
    have hc4 : Chg (fun _ => False) w3 (w3.alloc (.cells #[.int .i64 rk, .int .i64 rn] 26)) := (Chg.refl _ _).alloc _
    obtain ⟨w4, hw4⟩ : ∃ w4, w4 = w3.alloc (.cells #[.int .i64 rk, .int .i64 rn] 26) := ⟨_, rfl⟩
    rw [← hw4] at hc4
    have own4 := own3.keep hc4 (fun _ _ h => h)
    have TK : Hid _ := took_any own4.ths hll (TR.r RR.out)
    unfold two at TK
    have O4 : Hid _ := own4
    have C4 : Hid _ := hc4
    have W4 : Hid _ := hw4
    have Q3 : Hid _ := hq3
    have V3 : Hid _ := hv3
    have C3 : Hid _ := ch3
    have hm0 : (0 : Int) ≤ (m : Int) := by omega
    clear hw4 hc4 own4 own3 hq3 hv3 ch3 PP
    go_wp2_with fail
    rw [← W4.out]
    refine Calls.mono TK.out ?_
    rintro e w5 ⟨rfl, ch5⟩
    have C5 : Hid _ := ch5
    have WO : Hid _ := without_any (OwnT.keep O4.out ch5 (fun _ _ h => h)) hll m hml
    clear ch5 TK W4
    go_wp2_with fail
    refine Calls.mono WO.out ?_
    rintro e w6 ⟨lv', rfl, o6, ch6, hl6⟩
    have O6 : Hid _ := o6
    have C6 : Hid _ := ch6
    have L6 : Hid _ := hl6
    clear o6 ch6 hl6 WO
    go_wp2_with fail
    go_ret2
    have hch36 : Chg (fun _ => False) w3 w6 := (C4.out.trans C5.out (fun _ h => h.elim)).trans C6.out (fun _ h => h.elim)
    have hs35 : w3.heap.size ≤ w5.heap.size := Nat.le_trans C4.out.size C5.out.size
    have hs23 := C3.out.size
    have hq6 := Q3.out.keep hch36 (fun h => h) (fun _ _ h => h)
    have hown : OwnT w6 lv' (wo l m) := O6.out
    have hTS : TS w6 all p v3 (popF (odB all) H).1 came lv' (wo l m) := by
      refine ⟨hq6, popF_HO (tot_B all) T2.out.ho h0, ⟨wo R m, FO.out⟩, hown, fun e => ?_, fun k hk e => ?_, ?_⟩
      · have h8 := L6.out p e
        have h9 := Q3.out.lt
        omega
      · have h8 := L6.out k hk
        have h9 := Q3.out.vlt k e
        omega
      · rw [popF_len]; omega
    have hCC : Chg (fun k => k = p ∨ some k = v.ownBlock) w w6 := ((C2.out.mono (fun _ _ h => h.elim)).trans C3.out (fun i hi => .inl (by rcases hi with h | h | h; exact .inl h; exact .inr h; exact h.elim))).trans hch36 (fun _ h => h.elim)
    have hVV : ∀ k, v3.ownBlock = some k → some k = v.ownBlock ∨ w.heap.size ≤ k := fun k hk => by
      rcases V3.out k hk with h9 | h9
      · exact .inl h9
      · exact .inr (by omega)
    have hLL : ∀ k, lv'.ownBlock = some k → (Value.slice la l.length lc).ownBlock = some k ∨ w.heap.size ≤ k := fun k hk => by
      have := L6.out k hk
      exact .inr (by omega)
    exact ⟨lv', rfl, v3, (popF (odB all) H).1, wo l m, hTS, hCC, hVV, hLL, wo_len l m hml⟩
end
end Go.Proofs.Ytljnpgomdohplaa
