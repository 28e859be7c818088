/-
  ConsoleWords, walked.
-/
import Derived.Test.YtnmlhlgeacdcgaaCwY
namespace Go.Proofs.Ytnmlhlgeacdcgaa
open Go.RowKit

theorem stp_len (σ : St) (ws : List (List UInt8)) (c : Nat) (p : List UInt8) {x : St × List (List UInt8)} (h : stp σ ws c p = some x) : x.2.length ≤ ws.length + 1 := by
  cases σ using St.cases <;> simp only [stp] at h
  all_goals (repeat' split at h)
  all_goals first
    | (injection h with h; rw [← h]; simp; done)
    | cases h
    | (rw [Option.map_eq_some_iff] at h; obtain ⟨d, _, e⟩ := h; rw [← e]; simp)
theorem run_len : ∀ (l : List UInt8) (σ : St) (ws r : List (List UInt8)), run σ ws l = some r → r.length ≤ ws.length + l.length + 1
  | [], σ, ws, r, h => by
    rw [run_nil] at h
    cases σ using St.cases <;> simp only [fin] at h
    all_goals first
      | (injection h with h; rw [← h]; simp; done)
      | (injection h with h; rw [← h]; simp; omega)
      | cases h
  | b :: l, σ, ws, r, h => by
    rw [run_cons] at h
    split at h
    · injection h with h
      rw [← h]
      omega
    · cases hs : stp σ ws b.toNat [b] with
      | none => rw [hs] at h; cases h
      | some x =>
        rw [hs] at h
        have h1 := stp_len _ _ _ _ hs
        have h2 := run_len l x.1 x.2 r h
        simp only [List.length_cons]
        omega
theorem wds_len (line : ByteArray) : (wds line).1.length ≤ 65537 := by
  unfold wds
  split
  · rename_i hs
    cases hr : run .bt [] (bs line) with
    | none => simp [wdsO]
    | some l =>
      have := run_len _ _ _ _ hr
      rw [bs_length] at this
      simp only [wdsO, List.length_nil] at this ⊢
      omega
  · simp
theorem wds_one_two : wds ⟨#[111, 110, 101, 32, 116, 119, 111]⟩ = ([[111, 110, 101], [116, 119, 111]], 0) := by rfl

/-- The first i are x. -/
def fil (x : List UInt8) (i : Nat) (l : List (List UInt8)) : List (List UInt8) := List.replicate i x ++ l.drop i
theorem fil_zero (x : List UInt8) (l : List (List UInt8)) : fil x 0 l = l := by simp [fil]
theorem fil_all (x : List UInt8) (l : List (List UInt8)) : fil x l.length l = List.replicate l.length x := by simp [fil]
theorem fil_len (x : List UInt8) {i : Nat} {l : List (List UInt8)} (h : i ≤ l.length) : (fil x i l).length = l.length := by simp [fil]; omega
theorem fil_set (x : List UInt8) {i : Nat} {l : List (List UInt8)} (h : i < l.length) : (fil x i l).set i x = fil x (i + 1) l := by
  unfold fil
  rw [List.set_append_right _ _ (by simp), List.length_replicate, Nat.sub_self, List.drop_eq_getElem_cons h, List.set_cons_zero, List.replicate_succ', List.append_assoc]
  rfl
theorem same_any2 {w W : World} {P Q : Nat → Prop} {A A2 : Option Addr} {n n2 c c2 : Nat} {l : List (List UInt8)} (hn : n = l.length) (hn2 : n2 = l.length) (hl : l.length ≤ 1000000) (h1 : RD W P A l) (h2 : RD W Q A2 l) (hc : Chg (fun _ => False) w W) :
    Calls Try.prog 8 #[.slice A n c, .slice A2 n2 c2] W fun e w' => e = .returned (.bool true) ∧ Chg (fun _ => False) w w' := by
  refine (same_any hn hn2 hl h1 h2).mono ?_
  rintro e w' ⟨rfl, k, rfl⟩
  exact ⟨rfl, drewN_chg hc k⟩

theorem Try.elem24 : Try.prog.elem 24 = 9 := by kernel_rfl
theorem Try.so9 (w : World) : (sizeOf 9).run Try.prog w = .ok 1 w := by kernel_rfl
theorem ix_last {g m c j : Nat} (hj : m = j + 1) (w : World) : (Instr.indexAt 24 (.slice (some ⟨g, 0, none⟩) m c) (.int .i64 ((m : Int) - 1))).run Try.prog w = .ok (.pointer (some ⟨g, j, none⟩)) w := by
  subst hj
  rw [run_indexAt_slice w 24 _ _ _ _ _ (by rw [Try.elem24]; exact Try.underlying24), if_pos ⟨by omega, by omega⟩, Try.elem24, Try.so9]
  simp [addr_add]
theorem last_cell {w : World} {P : Nat → Prop} {g n c : Nat} {l : List (List UInt8)} (h : OW w P (some ⟨g, 0, none⟩) n c l) {i : Nat} (hi : i < l.length) : w.cell? ⟨g, i, none⟩ = some (.string ⟨l[i].toArray⟩) := by
  obtain ⟨g', e, _, hc⟩ := h.rd i hi
  cases e
  exact hc
theorem set_cell {w : World} {P : Nat → Prop} {g n c : Nat} {l : List (List UInt8)} {i : Nat} {x : List UInt8} (h : OW w P (some ⟨g, 0, none⟩) n c (l.set i x)) (hi : i < l.length) : w.cell? ⟨g, i, none⟩ = some (.string ⟨x.toArray⟩) := by
  have := last_cell h (i := i) (by rw [List.length_set]; exact hi)
  rwa [List.getElem_set_self] at this

set_option maxRecDepth 100000 in
set_option maxHeartbeats 8000000 in
theorem law_any (line : ByteArray) (w : World) : Calls Try.prog 4 #[.string line] w fun e w' => e = .returned (.bool true) ∧ Chg (fun _ => False) w w' := by
  have hL := wds_len line
  have C1 : Hid (∀ w, Calls Try.prog 6 #[.string line] w (WdQ w (wds line))) := words_any line
  have C2 : Hid (∀ w, Calls Try.prog 6 #[.string ⟨#[111, 110, 101, 32, 116, 119, 111]⟩] w (WdQ w ([[111, 110, 101], [116, 119, 111]], 0))) := fun w => by
    have := words_any ⟨#[111, 110, 101, 32, 116, 119, 111]⟩ w
    rwa [wds_one_two] at this
  have C3 : Hid (∀ w, Calls Try.prog 6 #[.string line] w (WdQ w (wds line))) := words_any line
  have C4 : Hid (∀ w, Calls Try.prog 7 #[.string line] w (WdQ w (wds line))) := refWords_any line
  obtain ⟨o, ho⟩ : ∃ o, o = wds line := ⟨_, rfl⟩
  rw [← ho] at C1 C3 C4 hL
  clear ho
  obtain ⟨L, er⟩ := o
  have hL' : L.length ≤ 65537 := hL
  clear hL
  go_enter Try.func4, Try.ntmps4
  go_upto_region 5 with (first | (go_at_call 6; refine Calls.mono (C1.out _) ?_; rintro e w1 ⟨A1, n1, c1, rfl, s1, d1⟩; have S1 : Hid _ := s1; have D1 : Hid _ := d1; clear s1 d1 C1) | (go_at_call 6; refine Calls.mono (C2.out _) ?_; rintro e w2 ⟨A2, n2, c2, rfl, s2, d2⟩; have S2 : Hid _ := s2; have D2 : Hid _ := d2; clear s2 d2 C2) | (go_at_call 6; refine Calls.mono (C3.out _) ?_; rintro e w3 ⟨A3, n3, c3, rfl, s3, d3⟩; have S3 : Hid _ := s3; have D3 : Hid _ := d3; clear s3 d3 C3) | (go_at_call 7; refine Calls.mono (C4.out _) ?_; rintro e w4 ⟨A4, n4, c4, rfl, s4, d4⟩; have S4 : Hid _ := s4; have D4 : Hid _ := d4; clear s4 d4 C4))
  -- BEHIND THE CALLS
  obtain ⟨B0, b0⟩ : ∃ B, B = w.heap.size := ⟨_, rfl⟩
  obtain ⟨B1, b1⟩ : ∃ B, B = w1.heap.size := ⟨_, rfl⟩
  obtain ⟨B2, b2⟩ : ∃ B, B = w2.heap.size := ⟨_, rfl⟩
  obtain ⟨B3, b3⟩ : ∃ B, B = w3.heap.size := ⟨_, rfl⟩
  obtain ⟨B4, b4⟩ : ∃ B, B = w4.heap.size := ⟨_, rfl⟩
  have OR : Hid (B0 ≤ B1 ∧ B1 ≤ B2 ∧ B2 ≤ B3 ∧ B3 ≤ B4) := ⟨by rw [b0, b1]; exact D1.out.size, by rw [b1, b2]; exact D2.out.size, by rw [b2, b3]; exact D3.out.size, by rw [b3, b4]; exact D4.out.size⟩
  have e12 : Chg (fun _ => False) w1 w4 := (D2.out.trans D3.out (fun _ e => e.elim)).trans D4.out (fun _ e => e.elim)
  have e23 : Chg (fun _ => False) w2 w4 := D3.out.trans D4.out (fun _ e => e.elim)
  have o1 : OW w4 (fun g => B0 ≤ g ∧ g < B1) A1 n1 c1 L := by rw [b0, b1]; exact (OW.of S1.out rfl).kept e12 (fun _ _ e => e)
  have o2 : OW w4 (fun g => B1 ≤ g ∧ g < B2) A2 n2 c2 [[111, 110, 101], [116, 119, 111]] := by rw [b1, b2]; exact (OW.of S2.out rfl).kept e23 (fun _ _ e => e)
  have o3 : OW w4 (fun g => B2 ≤ g ∧ g < B3) A3 n3 c3 L := by rw [b2, b3]; exact (OW.of S3.out rfl).kept D4.out (fun _ _ e => e)
  have o4 : OW w4 (fun g => B3 ≤ g ∧ g < B4) A4 n4 c4 L := by rw [b3, b4]; exact OW.of S4.out rfl
  have ch4 : Chg (fun _ => False) w w4 := D1.out.trans e12 (fun _ e => e.elim)
  have m1 := o1.n
  have m3 := o3.n
  have m4 := o4.n
  obtain rfl : n2 = 2 := o2.n
  have MM : Hid (n1 = L.length ∧ n3 = L.length ∧ n4 = L.length) := ⟨m1, m3, m4⟩
  have BB : Hid (B0 = w.heap.size ∧ B4 = w4.heap.size) := ⟨b0, b4⟩
  have SA : Hid (∀ w', Chg (fun _ => False) w4 w' → Calls Try.prog 8 #[.slice A1 n1 c1, .slice A4 n4 c4] w' fun e w'' => e = .returned (.bool true) ∧ Chg (fun _ => False) w4 w'') := fun w' hc => same_any2 m1 m4 (by omega) (o1.rd.kept hc (fun _ _ e => e)) (o4.rd.kept hc (fun _ _ e => e)) hc
  have SB : Hid (∀ w', Chg (fun _ => False) w4 w' → Calls Try.prog 8 #[.slice A3 n3 c3, .slice A4 n4 c4] w' fun e w'' => e = .returned (.bool true) ∧ Chg (fun _ => False) w4 w'') := fun w' hc => same_any2 m3 m4 (by omega) (o3.rd.kept hc (fun _ _ e => e)) (o4.rd.kept hc (fun _ _ e => e)) hc
  have SC : Hid (∀ w', Chg (fun _ => False) w4 w' → Calls Try.prog 8 #[.slice A2 2 c2, .slice (some ⟨w'.heap.size, 0, none⟩) 2 2] (w'.alloc (.cells #[.string ⟨#[111, 110, 101]⟩, .string ⟨#[116, 119, 111]⟩] 9)) fun e w'' => e = .returned (.bool true) ∧ Chg (fun _ => False) w4 w'') := fun w' hc => by
    have hc' : Chg (fun _ => False) w4 (w'.alloc (.cells #[.string ⟨#[111, 110, 101]⟩, .string ⟨#[116, 119, 111]⟩] 9)) := hc.alloc _
    have bk := Blk.made w' [.string ⟨#[111, 110, 101]⟩, .string ⟨#[116, 119, 111]⟩] 9
    refine same_any2 (l := [[111, 110, 101], [116, 119, 111]]) (Q := fun _ => True) rfl rfl (by simp) (o2.rd.kept hc' (fun _ _ e => e)) (fun j hj => ⟨w'.heap.size, rfl, trivial, ?_⟩) hc'
    match j, hj with
    | 0, _ => exact bk.cell 0
    | 1, _ => exact bk.cell 1
  have O1 : Hid _ := o1
  have O2 : Hid _ := o2
  have O3 : Hid _ := o3
  have O4 : Hid _ := o4
  have CH4 : Hid _ := ch4
  have Z4 : Hid (Chg (fun _ => False) w4 w4) := Chg.refl _ _
  clear b0 b1 b2 b3 b4 e12 e23 o1 o2 o3 o4 ch4 m1 m3 m4 S1 S2 S3 S4 D1 D2 D3 D4
  go_upto_region 7 with (first | (go_at_call 8; refine Calls.mono (SA.out _ Z4.out) ?_; rintro e w5 ⟨rfl, d5⟩; have D5 : Hid _ := d5; clear d5 SA Z4) | (go_at_call 8; refine Calls.mono (SB.out _ D5.out) ?_; rintro e w6 ⟨rfl, d6⟩; have D6 : Hid _ := d6; clear d6 SB D5) | (go_at_call 8; refine Calls.mono (SC.out _ D6.out) ?_; rintro e w7 ⟨rfl, d7⟩; have D7 : Hid _ := d7; clear d7 SC D6))
  have P1 : Hid (OW w7 (fun g => B0 ≤ g ∧ g < B1) A1 n1 c1 L) := OW.kept O1.out D7.out (fun _ _ e => e)
  have P2 : Hid (OW w7 (fun g => B1 ≤ g ∧ g < B2) A2 2 c2 [[111, 110, 101], [116, 119, 111]]) := OW.kept O2.out D7.out (fun _ _ e => e)
  have P3 : Hid (OW w7 (fun g => B2 ≤ g ∧ g < B3) A3 n3 c3 L) := OW.kept O3.out D7.out (fun _ _ e => e)
  have CH7 : Hid (Chg (fun _ => False) w w7) := CH4.out.trans D7.out (fun _ e => e.elim)
  have BE : Hid (B0 = w.heap.size ∧ B4 ≤ w7.heap.size) := ⟨BB.out.1, by have := BB.out.2; have := D7.out.size; omega⟩
  clear O1 O2 O3 O4 CH4 D7 BB
  go_wp2_with fail
  go_loopw [65] (fun x wn => ∃ i : Nat, x = .int .i64 (i : Int) ∧ i ≤ n1 ∧ OW wn (fun g => B0 ≤ g ∧ g < B1) A1 n1 c1 (fil [102, 105, 114, 115, 116] i L) ∧ Chg (fun g => B0 ≤ g ∧ g < B1) w7 wn) (fun x _ => n1 - (intOf x).toNat)
  case atStart => exact ⟨0, rfl, Nat.zero_le _, by rw [fil_zero]; exact P1.out, Chg.refl _ _⟩
  case round =>
    clear P1
    obtain ⟨i, rfl, hi, ow, ch⟩ := hrel
    have OWI : Hid _ := ow
    have CHI : Hid _ := ch
    clear ow ch
    by_cases hlt : i < n1
    · have hlt2 : i < L.length := by have := MM.out; omega
      obtain ⟨g, rfl, _, k1⟩ := (OW.rd OWI.out) i (by rw [fil_len _ (by omega)]; exact hlt2)
      have f1 := OW.fr OWI.out i
      have NX : Hid _ := OW.set OWI.out i [102, 105, 114, 115, 116]
      rw [fil_set _ hlt2] at NX
      go_wp2_with fail
      go_roundw
      case rel => exact ⟨i + 1, by go_num, by omega, NX.out.1, Chg.trans CHI.out NX.out.2 (fun _ e => .inl e)⟩
      case measure => simp [intOf]; omega
    · have z : (decide ((i : Int) < (n1 : Int))) = false := by simp; omega
      have FIL : Hid (OW wr (fun g => B0 ≤ g ∧ g < B1) A1 n1 c1 (List.replicate n1 [102, 105, 114, 115, 116])) := by
        have hin : i = n1 := by omega
        have hle : L.length = n1 := by have := MM.out; omega
        have := OWI.out
        rw [hin, ← hle, fil_all, hle] at this
        exact this
      have Q1 : Hid _ := FIL.out
      have Q2 : Hid (OW wr (fun g => B1 ≤ g ∧ g < B2) A2 2 c2 [[111, 110, 101], [116, 119, 111]]) := OW.kept P2.out CHI.out (fun g h e => by have := OR.out; omega)
      have Q3 : Hid (OW wr (fun g => B2 ≤ g ∧ g < B3) A3 n3 c3 L) := OW.kept P3.out CHI.out (fun g h e => by have := OR.out; omega)
      have CQ : Hid (Chg (fun _ => False) w wr) := CH7.out.trans CHI.out (fun g e => .inr (by have := BE.out; omega))
      have BQ : Hid (B0 = w.heap.size ∧ B4 ≤ wr.heap.size) := ⟨BE.out.1, by have := BE.out.2; have := CHI.out.size; omega⟩
      clear P2 P3 CH7 BE FIL OWI CHI
      go_wp2_with fail
      go_loopw [74] (fun x wn => ∃ i : Nat, x = .int .i64 (i : Int) ∧ i ≤ 2 ∧ OW wn (fun g => B1 ≤ g ∧ g < B2) A2 2 c2 (fil [115, 101, 99, 111, 110, 100] i [[111, 110, 101], [116, 119, 111]]) ∧ Chg (fun g => B1 ≤ g ∧ g < B2) wr wn) (fun x _ => 2 - (intOf x).toNat)
      case atStart => exact ⟨0, rfl, Nat.zero_le _, by rw [fil_zero]; exact Q2.out, Chg.refl _ _⟩
      case round =>
        clear Q2
        obtain ⟨i, rfl, hi, ow, ch⟩ := hrel
        have OWI : Hid _ := ow
        have CHI : Hid _ := ch
        clear ow ch
        by_cases hlt : i < 2
        · have hlt2 : i < ([[111, 110, 101], [116, 119, 111]] : List (List UInt8)).length := by have := MM.out; simp; omega
          obtain ⟨g, rfl, _, k1⟩ := (OW.rd OWI.out) i (by rw [fil_len _ (by omega)]; exact hlt2)
          have f1 := OW.fr OWI.out i
          have NX : Hid _ := OW.set OWI.out i [115, 101, 99, 111, 110, 100]
          rw [fil_set _ hlt2] at NX
          go_wp2_with fail
          go_roundw
          case rel => exact ⟨i + 1, by go_num, by omega, NX.out.1, Chg.trans CHI.out NX.out.2 (fun _ e => .inl e)⟩
          case measure => simp [intOf]; omega
        · have z : (decide ((i : Int) < (2 : Int))) = false := by simp; omega
          have FIL : Hid (OW wr (fun g => B1 ≤ g ∧ g < B2) A2 2 c2 (List.replicate 2 [115, 101, 99, 111, 110, 100])) := by
            have hin : i = 2 := by omega
            have hle : ([[111, 110, 101], [116, 119, 111]] : List (List UInt8)).length = 2 := by have := MM.out; simp <;> omega
            have := OWI.out
            rw [hin, ← hle, fil_all, hle] at this
            exact this
          have U1 : Hid (OW wr (fun g => B0 ≤ g ∧ g < B1) A1 n1 c1 (List.replicate n1 [102, 105, 114, 115, 116])) := OW.kept Q1.out CHI.out (fun g h e => by have := OR.out; omega)
          have U2 : Hid _ := FIL.out
          have U3 : Hid (OW wr (fun g => B2 ≤ g ∧ g < B3) A3 n3 c3 L) := OW.kept Q3.out CHI.out (fun g h e => by have := OR.out; omega)
          have CU2 : Hid (Chg (fun _ => False) w wr) := CQ.out.trans CHI.out (fun g e => .inr (by have := BQ.out; have := OR.out; omega))
          have BU : Hid (B0 = w.heap.size ∧ B4 ≤ wr.heap.size) := ⟨BQ.out.1, by have := BQ.out.2; have := CHI.out.size; omega⟩
          clear Q1 Q3 CQ BQ FIL OWI CHI
          go_wp2_with fail
          go_loopw [83] (fun x wn => ∃ i : Nat, x = .int .i64 (i : Int) ∧ i ≤ n3 ∧ OW wn (fun g => B2 ≤ g ∧ g < B3) A3 n3 c3 (fil [116, 104, 105, 114, 100] i L) ∧ Chg (fun g => B2 ≤ g ∧ g < B3) wr wn) (fun x _ => n3 - (intOf x).toNat)
          case atStart => exact ⟨0, rfl, Nat.zero_le _, by rw [fil_zero]; exact U3.out, Chg.refl _ _⟩
          case round =>
            clear U3
            obtain ⟨i, rfl, hi, ow, ch⟩ := hrel
            have OWI : Hid _ := ow
            have CHI : Hid _ := ch
            clear ow ch
            by_cases hlt : i < n3
            · have hlt2 : i < L.length := by have := MM.out; omega
              obtain ⟨g, rfl, _, k1⟩ := (OW.rd OWI.out) i (by rw [fil_len _ (by omega)]; exact hlt2)
              have f1 := OW.fr OWI.out i
              have NX : Hid _ := OW.set OWI.out i [116, 104, 105, 114, 100]
              rw [fil_set _ hlt2] at NX
              go_wp2_with fail
              go_roundw
              case rel => exact ⟨i + 1, by go_num, by omega, NX.out.1, Chg.trans CHI.out NX.out.2 (fun _ e => .inl e)⟩
              case measure => simp [intOf]; omega
            · have z : (decide ((i : Int) < (n3 : Int))) = false := by simp; omega
              have FIL : Hid (OW wr (fun g => B2 ≤ g ∧ g < B3) A3 n3 c3 (List.replicate n3 [116, 104, 105, 114, 100])) := by
                have hin : i = n3 := by omega
                have hle : L.length = n3 := by have := MM.out; omega
                have := OWI.out
                rw [hin, ← hle, fil_all, hle] at this
                exact this
              have R1 : OW wr (fun g => B0 ≤ g ∧ g < B1) A1 n1 c1 (List.replicate n1 [102, 105, 114, 115, 116]) := OW.kept U1.out CHI.out (fun g h e => by have := OR.out; omega)
              have R2 : OW wr (fun g => B1 ≤ g ∧ g < B2) A2 2 c2 (List.replicate 2 [115, 101, 99, 111, 110, 100]) := OW.kept U2.out CHI.out (fun g h e => by have := OR.out; omega)
              have R3 : OW wr (fun g => B2 ≤ g ∧ g < B3) A3 n3 c3 (List.replicate n3 [116, 104, 105, 114, 100]) := FIL.out
              have CR : Chg (fun _ => False) w wr := CU2.out.trans CHI.out (fun g e => .inr (by have := BU.out; have := OR.out; omega))
              have BR : B0 = w.heap.size ∧ B4 ≤ wr.heap.size := ⟨BU.out.1, by have := BU.out.2; have := CHI.out.size; omega⟩
              clear U1 U2 CU2 BU FIL OWI CHI
              have nn := MM.out
              have oo := OR.out
              obtain ⟨g1, d1, v1, r1, oa, ca, ra⟩ := OW.app R1 (by simp; omega) 24
              obtain ⟨g2, d2, v2, r2, ob, cb, rb⟩ := OW.app (R2.kept ca (fun g h e => by omega)) (by simp) 24
              obtain ⟨g3, d3, v3, r3, oc, cc, rc⟩ := OW.app ((R3.kept ca (fun g h e => by omega)).kept cb (fun g h e => by omega)) (by simp; omega) 24
              have z1 := ca.size
              have z2 := cb.size
              have z3 := cc.size
              have oa3 := (oa.kept cb (fun g h e => by omega)).kept cc (fun g h e => by omega)
              have ob3 := ob.kept cc (fun g h e => by omega)
              have ra3 := (ra.kept cb (fun g h e => by omega)).kept cc (fun g h e => by omega)
              have rb3 := rb.kept cc (fun g h e => by omega)
              have p1 := oa.pr g1 rfl
              have p2 := ob.pr g2 rfl
              have p3 := oc.pr g3 rfl
              have h12 : ¬ g1 = g2 := by omega
              have h13 : ¬ g1 = g3 := by omega
              have h23 : ¬ g2 = g3 := by omega
              have ch3 : Chg (fun _ => False) w v3 := ((CR.trans ca (fun g e => .inr (by omega))).trans cb (fun g e => .inr (by omega))).trans cc (fun g e => .inr (by omega))
              obtain ⟨m1, hm1⟩ : ∃ m, m = n1 + 64 := ⟨_, rfl⟩
              obtain ⟨m3, hm3⟩ : ∃ m, m = n3 + 64 := ⟨_, rfl⟩
              obtain ⟨j1, hj1⟩ : ∃ j, j = n1 + 63 := ⟨_, rfl⟩
              obtain ⟨j3, hj3⟩ : ∃ j, j = n3 + 63 := ⟨_, rfl⟩
              rw [← hm1] at r1 oa3
              rw [← hm3] at r3 oc
              have r2' : (Builtin.append_ #[24, 3] 24 #[.slice A2 2 c2, .int .i64 64]).run Try.prog v1 = .ok (.slice (some ⟨g2, 0, none⟩) 66 d2) v2 := r2
              have ix1 : ∀ w, (Instr.indexAt 24 (.slice (some ⟨g1, 0, none⟩) m1 d1) (.int .i64 ((m1 : Int) - 1))).run Try.prog w = .ok (.pointer (some ⟨g1, j1, none⟩)) w := fun w => ix_last (by omega) w
              have ix3 : ∀ w, (Instr.indexAt 24 (.slice (some ⟨g3, 0, none⟩) m3 d3) (.int .i64 ((m3 : Int) - 1))).run Try.prog w = .ok (.pointer (some ⟨g3, j3, none⟩)) w := fun w => ix_last (by omega) w
              obtain ⟨x1, hx1⟩ : ∃ x, x = v3.setCell ⟨g1, j1, none⟩ (.string ⟨#[120]⟩) := ⟨_, rfl⟩
              obtain ⟨x2, hx2⟩ : ∃ x, x = x1.setCell ⟨g2, 65, none⟩ (.string ⟨#[121]⟩) := ⟨_, rfl⟩
              obtain ⟨x3, hx3⟩ : ∃ x, x = x2.setCell ⟨g3, j3, none⟩ (.string ⟨#[122]⟩) := ⟨_, rfl⟩
              have q1 : Chg (fun k => k = g1) v3 x1 := by rw [hx1]; exact (Chg.refl (fun k => k = g1) _).setCell (p := ⟨g1, j1, none⟩) (.inl rfl) _
              have q2 : Chg (fun k => k = g2) x1 x2 := by rw [hx2]; exact (Chg.refl (fun k => k = g2) _).setCell (p := ⟨g2, 65, none⟩) (.inl rfl) _
              have q3 : Chg (fun k => k = g3) x2 x3 := by rw [hx3]; exact (Chg.refl (fun k => k = g3) _).setCell (p := ⟨g3, j3, none⟩) (.inl rfl) _
              have sa := (oa3.set j1 [120]).1
              obtain ⟨y1, k1⟩ : ∃ y, v3.cell? ⟨g1, j1, none⟩ = some (.string y) := ⟨_, last_cell oa3 (i := j1) (by simp; omega)⟩
              have f1 := oa3.fr j1
              have ob4 : OW x1 _ (some ⟨g2, 0, none⟩) 66 d2 _ := ob3.kept q1 (fun g h e => by omega)
              obtain ⟨y2, k2⟩ : ∃ y, x1.cell? ⟨g2, 65, none⟩ = some (.string y) := ⟨_, last_cell ob4 (i := 65) (by simp)⟩
              have f2 := ob4.fr 65
              have sb := (ob4.set 65 [121]).1
              have oc4 : OW x2 _ (some ⟨g3, 0, none⟩) m3 d3 _ := (oc.kept q1 (fun g h e => by omega)).kept q2 (fun g h e => by omega)
              obtain ⟨y3, k3⟩ : ∃ y, x2.cell? ⟨g3, j3, none⟩ = some (.string y) := ⟨_, last_cell oc4 (i := j3) (by simp; omega)⟩
              have f3 := oc4.fr j3
              have sc := (oc4.set j3 [122]).1
              have t1 : x3.cell? ⟨g1, j1, none⟩ = some (.string ⟨#[120]⟩) := by
                have e := set_cell sa (by simp; omega)
                rw [← (show x1 = v3.setCell ⟨g1, j1, none⟩ (.string ⟨([120] : List UInt8).toArray⟩) from hx1)] at e
                rw [hx3, World.cell?_setCell_far _ _ _ _ (fun e => h13 e.symm), hx2, World.cell?_setCell_far _ _ _ _ (fun e => h12 e.symm)]
                exact e
              have t2 : x3.cell? ⟨g2, 65, none⟩ = some (.string ⟨#[121]⟩) := by
                have e := set_cell sb (by simp)
                rw [← (show x2 = x1.setCell ⟨g2, 65, none⟩ (.string ⟨([121] : List UInt8).toArray⟩) from hx2)] at e
                rw [hx3, World.cell?_setCell_far _ _ _ _ (fun e => h23 e.symm)]
                exact e
              have t3 : x3.cell? ⟨g3, j3, none⟩ = some (.string ⟨#[122]⟩) := by
                have e := set_cell sc (by simp; omega)
                rw [← (show x3 = x2.setCell ⟨g3, j3, none⟩ (.string ⟨([122] : List UInt8).toArray⟩) from hx3)] at e
                exact e
              have w1' : RD x3 (fun g => B0 ≤ g ∧ g < B1) A1 (List.replicate n1 [102, 105, 114, 115, 116]) := ((by rw [hx1]; exact ra3.set g1 j1 (by simp; omega) _ : RD x1 _ A1 _).kept q2 (fun g h e => by omega)).kept q3 (fun g h e => by omega)
              have w2' : RD x3 (fun g => B1 ≤ g ∧ g < B2) A2 (List.replicate 2 [115, 101, 99, 111, 110, 100]) := (by rw [hx2]; exact (rb3.kept q1 (fun g h e => by omega)).set g2 65 (by simp) _ : RD x2 _ A2 _).kept q3 (fun g h e => by omega)
              have w3' : RD x3 (fun g => B2 ≤ g ∧ g < B3) A3 (List.replicate n3 [116, 104, 105, 114, 100]) := by rw [hx3]; exact ((rc.kept q1 (fun g h e => by omega)).kept q2 (fun g h e => by omega)).set g3 j3 (by simp; omega) _
              have chx : Chg (fun _ => False) w x3 := ((ch3.trans q1 (fun g e => .inr (by omega))).trans q2 (fun g e => .inr (by omega))).trans q3 (fun g e => .inr (by omega))
              have RA : Hid _ := r1
              have RB : Hid _ := r2'
              have RC : Hid _ := r3
              have END : Hid (RD x3 (fun g => B0 ≤ g ∧ g < B1) A1 (List.replicate n1 [102, 105, 114, 115, 116]) ∧ RD x3 (fun g => B1 ≤ g ∧ g < B2) A2 (List.replicate 2 [115, 101, 99, 111, 110, 100]) ∧ RD x3 (fun g => B2 ≤ g ∧ g < B3) A3 (List.replicate n3 [116, 104, 105, 114, 100]) ∧ Chg (fun _ => False) w x3) := ⟨w1', w2', w3', chx⟩
              have HX : Hid (x3 = ((v3.setCell ⟨g1, j1, none⟩ (.string ⟨#[120]⟩)).setCell ⟨g2, 65, none⟩ (.string ⟨#[121]⟩)).setCell ⟨g3, j3, none⟩ (.string ⟨#[122]⟩)) := by show x3 = _; rw [hx3, hx2, hx1]
              have M1 : Hid _ := hm1
              have M3 : Hid _ := hm3
              have mb1 : m1 ≤ 1000000 := by omega
              have mb3 : m3 ≤ 1000000 := by omega
              rw [hx2] at k3 f3
              rw [hx1] at k2 f2 k3 f3
              clear R1 R2 R3 CR BR oa oc r1 r2 r2' r3 ca cb cc ra rb rc ra3 rb3 oa3 ob ob3 ob4 oc4 sa sb sc p1 p2 p3 w1' w2' w3' chx ch3 q1 q2 q3 hx1 hx2 hx3 hm1 hm3 hj1 hj3 z1 z2 z3 nn oo
              go_upto_region 24 with (first | (refine wpList_appG (sl := 24) (su := 3) rfl (.tmp 90) (.const (.int .i64 64)) rfl (v := .slice A1 n1 c1) (u := .int .i64 64) (v' := .slice (some ⟨g1, 0, none⟩) m1 d1) (w' := v1) rfl rfl RA.out ?_) | (refine wpList_appG (sl := 24) (su := 3) rfl (.tmp 92) (.const (.int .i64 64)) rfl (v := .slice A2 2 c2) (u := .int .i64 64) (v' := .slice (some ⟨g2, 0, none⟩) 66 d2) (w' := v2) rfl rfl RB.out ?_) | (refine wpList_appG (sl := 24) (su := 3) rfl (.tmp 94) (.const (.int .i64 64)) rfl (v := .slice A3 n3 c3) (u := .int .i64 64) (v' := .slice (some ⟨g3, 0, none⟩) m3 d3) (w' := v3) rfl rfl RC.out ?_))
              rw [← HX.out]
              clear HX k1 k2 k3 f1 f2 f3 RA RB RC h12 h13 h23
              go_wp2_with fail
              go_loopw [113] (fun x wn => ∃ i : Nat, x = .int .i64 (i : Int) ∧ wn = x3 ∧ i ≤ n4) (fun x _ => n4 - (intOf x).toNat)
              case atStart => exact ⟨0, rfl, rfl, Nat.zero_le _⟩
              case round =>
                obtain ⟨i, rfl, hwx, hi⟩ := hrel
                subst hwx
                by_cases hlt : i < n4
                · have ln1 : i < n1 := by have := MM.out; omega
                  have nb : n4 ≤ 1000000 := by have := MM.out; omega
                  have ln3 : i < n3 := by have := MM.out; omega
                  obtain ⟨e1, rfl, _, kc1⟩ := END.out.1 i (by simp; omega)
                  obtain ⟨e3, rfl, _, kc3⟩ := END.out.2.2.1 i (by simp; omega)
                  rw [List.getElem_replicate] at kc1 kc3
                  clear t1 t2 t3 ix1 ix3
                  go_wp2_with fail
                  go_roundw
                  case rel => exact ⟨i + 1, by go_num, by first | rfl | trivial, by omega⟩
                  case measure => simp [intOf]; omega
                · have z : (decide ((i : Int) < (n4 : Int))) = false := by simp; omega
                  obtain ⟨e2, rfl, _, kc0⟩ := END.out.2.1 0 (by simp)
                  obtain ⟨e2', eg, _, kc1⟩ := END.out.2.1 1 (by simp)
                  cases eg
                  rw [List.getElem_replicate] at kc0 kc1
                  go_wp2_with fail
                  go_ret
                  exact ⟨rfl, END.out.2.2.2⟩
end Go.Proofs.Ytnmlhlgeacdcgaa
