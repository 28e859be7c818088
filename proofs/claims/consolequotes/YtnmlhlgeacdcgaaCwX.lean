/-
  Quoted words: there and back; hex, Quote.
-/
import Derived.Test.YtnmlhlgeacdcgaaCwV
namespace Go.Proofs.Ytnmlhlgeacdcgaa
open Go.RowKit

/-- A hexadecimal digit's sign. -/
def hexd (n : Nat) : UInt8 := if n < 10 then UInt8.ofNat (48 + n) else UInt8.ofNat (87 + n)
theorem dig_hexd : ∀ n, n < 16 → digN (hexd n).toNat = some n := by decide
/-- A byte as it is written. -/
def esc (b : UInt8) : List UInt8 :=
  if b.toNat = 34 then [92, 34] else if b.toNat = 92 then [92, 92] else if b.toNat = 10 then [92, 110] else if b.toNat = 9 then [92, 116]
  else if b.toNat < 32 ∨ 126 < b.toNat then [92, 120, hexd (b.toNat / 16), hexd (b.toNat % 16)] else [b]
def quo (x : List UInt8) : List UInt8 := 34 :: x.flatMap esc
theorem esc_len (b : UInt8) : (esc b).length ≤ 4 := by
  unfold esc
  repeat' split
  all_goals simp
theorem quo_len (x : List UInt8) : (quo x).length ≤ 4 * x.length + 1 := by
  unfold quo
  induction x with
  | nil => simp
  | cons b x ih =>
    have := esc_len b
    simp only [List.flatMap_cons, List.length_cons, List.length_append] at ih ⊢
    omega

theorem run_stroke (a : List UInt8) (ws : List (List UInt8)) (l : List UInt8) : run (.qu a) ws (92 :: l) = run (.st a) ws l := by rw [run_qu]; rfl
theorem run_let (a : List UInt8) (ws : List (List UInt8)) (b x : UInt8) (l : List UInt8) (h : stp (.st a) ws b.toNat [b] = some (.qu (a ++ [x]), ws)) : run (.st a) ws (b :: l) = run (.qu (a ++ [x])) ws l := by
  rw [run_st, h]
  rfl
theorem run_esc (a : List UInt8) (ws : List (List UInt8)) (b : UInt8) (l : List UInt8) : run (.qu a) ws (esc b ++ l) = run (.qu (a ++ [b])) ws l := by
  have back : UInt8.ofNat b.toNat = b := UInt8.ofNat_toNat
  unfold esc
  by_cases h1 : b.toNat = 34
  · have e : b = 34 := by rw [← back, h1]; rfl
    rw [if_pos h1, List.cons_append, run_stroke, List.cons_append, List.nil_append, run_let a ws 34 34 l rfl, e]
  · by_cases h2 : b.toNat = 92
    · have e : b = 92 := by rw [← back, h2]; rfl
      rw [if_neg h1, if_pos h2, List.cons_append, run_stroke, List.cons_append, List.nil_append, run_let a ws 92 92 l rfl, e]
    · by_cases h3 : b.toNat = 10
      · have e : b = 10 := by rw [← back, h3]; rfl
        rw [if_neg h1, if_neg h2, if_pos h3, List.cons_append, run_stroke, List.cons_append, List.nil_append, run_let a ws 110 10 l rfl, e]
      · by_cases h4 : b.toNat = 9
        · have e : b = 9 := by rw [← back, h4]; rfl
          rw [if_neg h1, if_neg h2, if_neg h3, if_pos h4, List.cons_append, run_stroke, List.cons_append, List.nil_append, run_let a ws 116 9 l rfl, e]
        · by_cases h5 : b.toNat < 32 ∨ 126 < b.toNat
          · have hb := b.toNat_lt
            rw [if_neg h1, if_neg h2, if_neg h3, if_neg h4, if_pos h5, List.cons_append, run_stroke, List.cons_append, List.cons_append, List.cons_append, List.nil_append]
            have e1 : run (.st a) ws (120 :: hexd (b.toNat / 16) :: hexd (b.toNat % 16) :: l) = run (.hi a) ws (hexd (b.toNat / 16) :: hexd (b.toNat % 16) :: l) := by rw [run_st]; rfl
            have e2 : 16 * (b.toNat / 16) + b.toNat % 16 = b.toNat := by omega
            rw [e1, run_hi]
            simp only [stp, dig_hexd _ (by omega : b.toNat / 16 < 16), Option.map_some, goOn]
            rw [run_lo]
            simp only [stp, dig_hexd _ (by omega : b.toNat % 16 < 16), Option.map_some, goOn, e2, back]
          · rw [if_neg h1, if_neg h2, if_neg h3, if_neg h4, if_neg h5, List.cons_append, List.nil_append, run_qu]
            simp only [stp]
            rw [if_neg h1, if_neg h2]
            rfl
theorem run_quo (ws : List (List UInt8)) (l : List UInt8) : ∀ (x a : List UInt8), run (.qu a) ws (x.flatMap esc ++ 34 :: l) = run .en (ws ++ [a ++ x]) l
  | [], a => by
    rw [List.flatMap_nil, List.nil_append, run_qu, List.append_nil]
    rfl
  | b :: x, a => by
    rw [List.flatMap_cons, List.append_assoc, run_esc, run_quo ws l x, List.append_assoc]
    rfl
theorem there_back (x y q : List UInt8) : run .bt [] (([32, 112, 117, 116, 32] : List UInt8) ++ (quo x ++ [34]) ++ [9] ++ (quo y ++ [34]) ++ [35, 32] ++ q) = some [[112, 117, 116], x, y] := by
  have e : (([32, 112, 117, 116, 32] : List UInt8) ++ (quo x ++ [34]) ++ [9] ++ (quo y ++ [34]) ++ [35, 32] ++ q) = 32 :: 112 :: 117 :: 116 :: 32 :: 34 :: (x.flatMap esc ++ 34 :: (9 :: 34 :: (y.flatMap esc ++ 34 :: (35 :: 32 :: q)))) := by
    simp [quo]
  have e1 : ∀ l, run .bt [] (32 :: 112 :: 117 :: 116 :: 32 :: 34 :: l) = run (.qu []) [[112, 117, 116]] l := fun l => by
    simp [run_cons, stp, blankN, mayEnd, goOn]
  have e2 : ∀ ws l, run .en ws (9 :: 34 :: l) = run (.qu []) ws l := fun ws l => by
    simp [run_cons, stp, blankN, mayEnd, goOn]
  have e3 : ∀ ws l, run .en ws (35 :: l) = some ws := fun ws l => by
    simp [run_cons, mayEnd]
  rw [e, e1, run_quo, e2, run_quo, e3]
  rfl

/-- The digits. -/
theorem hex_at (k : Nat) (hk : k < 16) (w : World) : (Instr.index 9 (.string ⟨#[48, 49, 50, 51, 52, 53, 54, 55, 56, 57, 97, 98, 99, 100, 101, 102]⟩) (.int .u8 (k : Int))).run Try.prog w = .ok (.int .u8 ((hexd k).toNat : Int)) w := by
  rw [run_index_string w 9 _ .u8 k Try.underlying9, dif_pos ⟨by omega, by show (k : Int) < ((16 : Nat) : Int); omega⟩]
  have : ∀ k, (h : k < 16) → (((⟨#[48, 49, 50, 51, 52, 53, 54, 55, 56, 57, 97, 98, 99, 100, 101, 102]⟩ : ByteArray)[k]'h).toNat : Int) = ((hexd k).toNat : Int) := by decide
  exact congrArg (fun z => Result.ok (Value.int .u8 z) w) (this k hk)

theorem conv_two {w : World} (x y : UInt8) (c : Nat) {g : Nat} (h0 : w.cell? ⟨g, 0, none⟩ = some (.int .u8 (x.toNat : Int))) (h1 : w.cell? ⟨g, 1, none⟩ = some (.int .u8 (y.toNat : Int))) :
    (convert 22 9 (.slice (some ⟨g, 0, none⟩) 2 c)).run Try.prog w = .ok (.string ⟨#[x, y]⟩) w :=
  conv_back (l := [x, y]) rfl (fun j hj => ⟨g, 0, rfl, by
    match j, hj with
    | 0, _ => exact h0
    | 1, _ => exact h1⟩)
theorem conv_one {w : World} (x : UInt8) (c : Nat) {g : Nat} (h0 : w.cell? ⟨g, 0, none⟩ = some (.int .u8 (x.toNat : Int))) :
    (convert 22 9 (.slice (some ⟨g, 0, none⟩) 1 c)).run Try.prog w = .ok (.string ⟨#[x]⟩) w :=
  conv_back (l := [x]) rfl (fun j hj => ⟨g, 0, rfl, by
    match j, hj with
    | 0, _ => exact h0⟩)

set_option maxRecDepth 100000 in
set_option maxHeartbeats 2000000 in
theorem hex_any (b : UInt8) (w : World) : Calls Try.prog 9 #[.int .u8 (b.toNat : Int)] w fun e w' => e = .returned (.string ⟨#[hexd (b.toNat / 16), hexd (b.toNat % 16)]⟩) ∧ Chg (fun _ => False) w w' := by
  have hb := b.toNat_lt
  obtain ⟨q, hq⟩ : ∃ q, q = b.toNat / 16 := ⟨_, rfl⟩
  obtain ⟨r, hr⟩ : ∃ r, r = b.toNat % 16 := ⟨_, rfl⟩
  have q1 : IntKind.u8.wrap ((b.toNat : Int).tdiv 16) = (q : Int) := by
    rw [IntWalk.u8_quo _ _ (by omega)]
    omega
  have q1' : IntKind.u8.wrap ((b.toNat : Int) / 16) = (q : Int) := by
    rw [IntWalk.u8_in _ (by omega)]
    omega
  have q2' : (b.toNat : Int) % 16 = (r : Int) := by omega
  have q2 : (b.toNat : Int).tmod 16 = (r : Int) := by
    rw [Int.tmod_eq_emod_of_nonneg (by omega)]
    omega
  have q3 : IntKind.u8.wrap (r : Int) = (r : Int) := IntWalk.u8_in _ (by omega)
  have iq : ∀ w, (Instr.index 9 (.string ⟨#[48, 49, 50, 51, 52, 53, 54, 55, 56, 57, 97, 98, 99, 100, 101, 102]⟩) (.int .u8 (q : Int))).run Try.prog w = .ok (.int .u8 ((hexd q).toNat : Int)) w := hex_at q (by omega)
  have ir : ∀ w, (Instr.index 9 (.string ⟨#[48, 49, 50, 51, 52, 53, 54, 55, 56, 57, 97, 98, 99, 100, 101, 102]⟩) (.int .u8 (r : Int))).run Try.prog w = .ok (.int .u8 ((hexd r).toNat : Int)) w := hex_at r (by omega)
  rw [← hq, ← hr]
  clear hq hr hb
  obtain ⟨x, hx⟩ : ∃ x, x = hexd q := ⟨_, rfl⟩
  obtain ⟨y, hy⟩ : ∃ y, y = hexd r := ⟨_, rfl⟩
  rw [← hx] at iq ⊢
  rw [← hy] at ir ⊢
  clear hx hy
  have CV : Hid ((convert 22 9 (.slice (some ⟨w.drew.heap.size, 0, none⟩) 2 2)).run Try.prog (w.drew.alloc (.cells #[.int .u8 (x.toNat : Int), .int .u8 (y.toNat : Int)] 5)) = .ok (.string ⟨#[x, y]⟩) (w.drew.alloc (.cells #[.int .u8 (x.toNat : Int), .int .u8 (y.toNat : Int)] 5))) :=
    conv_two x y 2 ((Blk.made w.drew [.int .u8 (x.toNat : Int), .int .u8 (y.toNat : Int)] 5).cell 0) ((Blk.made w.drew [.int .u8 (x.toNat : Int), .int .u8 (y.toNat : Int)] 5).cell 1)
  go_enter Try.func9, Try.ntmps9
  go_wp2_with fail
  refine wp_region_held_drew (S := fun _ => True) (by kernel_rfl) trivial (fun hS => ?_)
  refine wpAnyH_take (i := 0) (v := .int .u8 (b.toNat : Int)) rfl (by kernel_rfl) (by kernel_rfl) (by kernel_rfl) (fun _ _ _ h => h) (Or.inl ⟨by rfl, fun w' _ => by go_simp⟩) trivial ?_
  refine wpAnyH_take (i := 1) (v := .int .u8 (q : Int)) rfl (by kernel_rfl) (by kernel_rfl) (by kernel_rfl) (fun _ _ _ h => h) (Or.inl ⟨by rfl, fun w' _ => by go_simp⟩) trivial ?_
  refine wpAnyH_take (i := 2) (v := .int .u8 (x.toNat : Int)) rfl (by kernel_rfl) (by kernel_rfl) (by kernel_rfl) (fun _ _ _ h => h) (Or.inl ⟨by rfl, fun w' _ => by go_simp⟩) trivial ?_
  refine wpAnyH_take (i := 3) (v := .int .u8 (b.toNat : Int)) rfl (by kernel_rfl) (by kernel_rfl) (by kernel_rfl) (fun _ _ _ h => h) (Or.inl ⟨by rfl, fun w' _ => by go_simp⟩) trivial ?_
  refine wpAnyH_take (i := 4) (v := .int .u8 (r : Int)) rfl (by kernel_rfl) (by kernel_rfl) (by kernel_rfl) (fun _ _ _ h => h) (Or.inl ⟨by rfl, fun w' _ => by go_simp⟩) trivial ?_
  refine wpAnyH_take (i := 5) (v := .int .u8 (y.toNat : Int)) rfl (by kernel_rfl) (by kernel_rfl) (by kernel_rfl) (fun _ _ _ h => h) (Or.inl ⟨by rfl, fun w' _ => by go_simp⟩) trivial ?_
  refine wpAnyH_ready (rs := [6]) (by kernel_rfl) (by simp) ?_
  refine AllReadyH.cons rfl (fun K hK => ?_) AllReadyH.nil
  go_simp
  refine hK.out _ _ trivial (fun _ => ?_)
  clear hK K
  have cv : (convert 22 9 (.slice (some ⟨w.heap.size, 0, none⟩) 2 2)).run Try.prog (w.alloc (.cells #[.int .u8 (x.toNat : Int), .int .u8 (y.toNat : Int)] 5)).drew = .ok (.string ⟨#[x, y]⟩) (w.alloc (.cells #[.int .u8 (x.toNat : Int), .int .u8 (y.toNat : Int)] 5)).drew := CV.out
  refine wpAnyH_ready (rs := [7]) (by kernel_rfl) (by simp) ?_
  refine AllReadyH.cons rfl (fun K hK => ?_) AllReadyH.nil
  go_simp
  refine hK.out _ _ trivial (fun _ => ?_)
  clear hK K cv CV
  refine wpAnyH_ready (rs := [8]) (by kernel_rfl) (by simp) ?_
  refine AllReadyH.cons rfl (fun K hK => ?_) AllReadyH.nil
  go_simp
  refine hK.out _ _ trivial (fun _ => ?_)
  clear hK K
  refine wpAnyH_done (by kernel_rfl) ?_ _
  go_wp2_with fail
  go_ret
  exact ⟨rfl, ((Chg.refl _ _).alloc _).drew⟩

theorem add_str {X Y : List UInt8} (h : X.length + Y.length ≤ 9223372036854775807) (w : World) : (Op.stringOp .add ⟨X.toArray⟩ ⟨Y.toArray⟩).run Try.prog w = .ok (.string ⟨(X ++ Y).toArray⟩) w := by
  have hx : (⟨X.toArray⟩ : ByteArray).size = X.length := by rw [← bs_length, bs_mk]
  have hy : (⟨Y.toArray⟩ : ByteArray).size = Y.length := by rw [← bs_length, bs_mk]
  rw [run_string_add_sum w _ _ (by rw [hx, hy]; exact h), ByteArray.mk_append_mk]

/-- A slice of bytes that came in. -/
def InB (w : World) (A : Option Addr) (l : List UInt8) : Prop := ∀ j (hj : j < l.length), ∃ g o, A = some ⟨g, o, none⟩ ∧ w.cell? ⟨g, o + j, none⟩ = some (.int .u8 (l[j].toNat : Int))
theorem InB.kept {w w' : World} {A : Option Addr} {l : List UInt8} (h : InB w A l) (c : Chg (fun _ => False) w w') : InB w' A l := fun j hj => by
  obtain ⟨g, o, e, hc⟩ := h j hj
  exact ⟨g, o, e, by rw [World.cell?_of_block (c.block g (World.block_lt_of_cell? _ _ hc) (fun e => e))]; exact hc⟩

theorem take_flat {l : List UInt8} {k : Nat} (h : k < l.length) : quo (l.take (k + 1)) = quo (l.take k) ++ esc l[k] := by
  unfold quo
  rw [List.take_succ_eq_append_getElem h, List.flatMap_append]
  simp

set_option maxRecDepth 100000 in
set_option maxHeartbeats 4000000 in
theorem quote_any {A : Option Addr} {c n : Nat} {l : List UInt8} (w : World) (hn : n = l.length) (hl : l.length ≤ 1000000000000000000) (hi : InB w A l) :
    Calls Try.prog 5 #[.slice A n c] w fun e w' => e = .returned (.string ⟨(quo l ++ [34]).toArray⟩) ∧ Chg (fun _ => False) w w' := by
  have HI : Hid _ := hi
  have HN : Hid _ := hn
  clear hi hn
  go_enter Try.func5, Try.ntmps5
  go_wp2_with fail
  go_loopw [3, 8] (fun x i wr => ∃ k : Nat, x = .string ⟨(quo (l.take k)).toArray⟩ ∧ i = .int .i64 (k : Int) ∧ k ≤ l.length ∧ Chg (fun _ => False) w wr) (fun _ i _ => l.length - (intOf i).toNat)
  case atStart => exact ⟨0, rfl, rfl, Nat.zero_le _, Chg.refl _ _⟩
  case round =>
    obtain ⟨k, rfl, rfl, hk, hch⟩ := hrel
    have HC : Hid _ := hch
    clear hch
    by_cases hlt : k < l.length
    · obtain ⟨g, o, rfl, hc0⟩ := HI.out k hlt
      obtain ⟨b, hb⟩ : ∃ b, b = l[k] := ⟨_, rfl⟩
      have hc : wr.cell? ⟨g, o + k, none⟩ = some (.int .u8 (b.toNat : Int)) := by
        rw [hb, World.cell?_of_block (HC.out.block g (World.block_lt_of_cell? _ _ hc0) (fun e => e))]
        exact hc0
      have TF : Hid (quo (l.take (k + 1)) = quo (l.take k) ++ esc b) := by rw [hb]; exact take_flat hlt
      have zl : (quo (l.take k)).length ≤ 4000000000000000001 := by
        have h1 := quo_len (l.take k)
        have h2 : (l.take k).length ≤ l.length := by rw [List.length_take]; omega
        omega
      obtain ⟨Z, hZ⟩ : ∃ Z, Z = quo (l.take k) := ⟨_, rfl⟩
      have HZ : Hid _ := hZ
      rw [← hZ] at zl TF ⊢
      have zn : (decide ((k : Int) < (n : Int))) = true := by have := HN.out; simp; omega
      have hkn : k < n := by have := HN.out; omega
      have AD : ∀ Y : List UInt8, Y.length ≤ 4 → ∀ w, (Op.stringOp .add ⟨Z.toArray⟩ ⟨Y.toArray⟩).run Try.prog w = .ok (.string ⟨(Z ++ Y).toArray⟩) w := fun Y hY w => add_str (by omega) w
      clear hb hc0 hZ
      by_cases h1 : b.toNat = 34
      · rw [h1] at hc
        have NZ : Hid (quo (l.take (k + 1)) = Z ++ [92, 34]) := by show quo (l.take (k + 1)) = _; rw [TF.out, esc, if_pos h1]
        have a1 : ∀ w, (Op.stringOp .add ⟨Z.toArray⟩ ⟨#[92, 34]⟩).run Try.prog w = .ok (.string ⟨(Z ++ [92, 34]).toArray⟩) w := AD [92, 34] (by decide)
        clear AD h1 TF
        go_wp2_with fail
        go_roundw
        case rel => exact ⟨k + 1, congrArg (fun z : List UInt8 => Value.string ⟨z.toArray⟩) NZ.out.symm, by go_num, by omega, HC.out⟩
        case measure => simp [intOf]; omega
      · have n1 : ((b.toNat : Int) == 34) = false := by rw [beq_eq_false_iff_ne]; omega
        by_cases h2 : b.toNat = 92
        · rw [h2] at hc
          have NZ : Hid (quo (l.take (k + 1)) = Z ++ [92, 92]) := by show quo (l.take (k + 1)) = _; rw [TF.out, esc, if_neg h1, if_pos h2]
          have a1 : ∀ w, (Op.stringOp .add ⟨Z.toArray⟩ ⟨#[92, 92]⟩).run Try.prog w = .ok (.string ⟨(Z ++ [92, 92]).toArray⟩) w := AD [92, 92] (by decide)
          clear AD h1 TF n1 h2
          go_wp2_with fail
          go_roundw
          case rel => exact ⟨k + 1, congrArg (fun z : List UInt8 => Value.string ⟨z.toArray⟩) NZ.out.symm, by go_num, by omega, HC.out⟩
          case measure => simp [intOf]; omega
        · have n2 : ((b.toNat : Int) == 92) = false := by rw [beq_eq_false_iff_ne]; omega
          by_cases h3 : b.toNat = 10
          · rw [h3] at hc
            have NZ : Hid (quo (l.take (k + 1)) = Z ++ [92, 110]) := by show quo (l.take (k + 1)) = _; rw [TF.out, esc, if_neg h1, if_neg h2, if_pos h3]
            have a1 : ∀ w, (Op.stringOp .add ⟨Z.toArray⟩ ⟨#[92, 110]⟩).run Try.prog w = .ok (.string ⟨(Z ++ [92, 110]).toArray⟩) w := AD [92, 110] (by decide)
            clear AD h1 TF n1 h2 n2 h3
            go_wp2_with fail
            go_roundw
            case rel => exact ⟨k + 1, congrArg (fun z : List UInt8 => Value.string ⟨z.toArray⟩) NZ.out.symm, by go_num, by omega, HC.out⟩
            case measure => simp [intOf]; omega
          · have n3 : ((b.toNat : Int) == 10) = false := by rw [beq_eq_false_iff_ne]; omega
            by_cases h4 : b.toNat = 9
            · rw [h4] at hc
              have NZ : Hid (quo (l.take (k + 1)) = Z ++ [92, 116]) := by show quo (l.take (k + 1)) = _; rw [TF.out, esc, if_neg h1, if_neg h2, if_neg h3, if_pos h4]
              have a1 : ∀ w, (Op.stringOp .add ⟨Z.toArray⟩ ⟨#[92, 116]⟩).run Try.prog w = .ok (.string ⟨(Z ++ [92, 116]).toArray⟩) w := AD [92, 116] (by decide)
              clear AD h1 TF n1 h2 n2 h3 n3 h4
              go_wp2_with fail
              go_roundw
              case rel => exact ⟨k + 1, congrArg (fun z : List UInt8 => Value.string ⟨z.toArray⟩) NZ.out.symm, by go_num, by omega, HC.out⟩
              case measure => simp [intOf]; omega
            · have n4 : ((b.toNat : Int) == 9) = false := by rw [beq_eq_false_iff_ne]; omega
              by_cases h5 : b.toNat < 32 ∨ 126 < b.toNat
              · have NZ : Hid (quo (l.take (k + 1)) = Z ++ [92, 120] ++ [hexd (b.toNat / 16), hexd (b.toNat % 16)]) := by show quo (l.take (k + 1)) = _; rw [TF.out, esc, if_neg h1, if_neg h2, if_neg h3, if_neg h4, if_pos h5, List.append_assoc]; rfl
                have HX : Hid _ := hex_any b
                obtain ⟨x, hx⟩ : ∃ x, x = hexd (b.toNat / 16) := ⟨_, rfl⟩
                obtain ⟨y, hy⟩ : ∃ y, y = hexd (b.toNat % 16) := ⟨_, rfl⟩
                rw [← hx, ← hy] at NZ HX
                have a1 : ∀ w, (Op.stringOp .add ⟨Z.toArray⟩ ⟨#[92, 120]⟩).run Try.prog w = .ok (.string ⟨(Z ++ [92, 120]).toArray⟩) w := AD [92, 120] (by decide)
                have a2 : ∀ w, (Op.stringOp .add ⟨(Z ++ [92, 120]).toArray⟩ ⟨#[x, y]⟩).run Try.prog w = .ok (.string ⟨(Z ++ [92, 120] ++ [x, y]).toArray⟩) w := fun w => add_str (Y := [x, y]) (by simp; omega) w
                obtain ⟨Z2, hZ2⟩ : ∃ Z2, Z2 = Z ++ [92, 120] := ⟨_, rfl⟩
                obtain ⟨Z3, hZ3⟩ : ∃ Z3, Z3 = Z ++ [92, 120] ++ [x, y] := ⟨_, rfl⟩
                rw [← hZ3] at a2 NZ
                rw [← hZ2] at a1 a2
                clear AD h1 TF h2 h3 h4 hx hy hZ2 hZ3
                rcases h5 with h5 | h5
                · have n5 : (decide ((b.toNat : Int) < 32)) = true := by simp; omega
                  go_wp2_with ((go_at_call 9; refine Calls.mono (HX.out _) ?_; rintro e w1 ⟨rfl, hq⟩; have HQ : Hid _ := hq; clear hq))
                  go_roundw
                  case rel => exact ⟨k + 1, congrArg (fun z : List UInt8 => Value.string ⟨z.toArray⟩) NZ.out.symm, by go_num, by omega, Chg.trans HC.out HQ.out (fun _ e => e.elim)⟩
                  case measure => simp [intOf]; omega
                · have n5 : (decide ((b.toNat : Int) < 32)) = false := by simp; omega
                  have n6 : (decide (126 < (b.toNat : Int))) = true := by simp; omega
                  go_wp2_with ((go_at_call 9; refine Calls.mono (HX.out _) ?_; rintro e w1 ⟨rfl, hq⟩; have HQ : Hid _ := hq; clear hq))
                  go_roundw
                  case rel => exact ⟨k + 1, congrArg (fun z : List UInt8 => Value.string ⟨z.toArray⟩) NZ.out.symm, by go_num, by omega, Chg.trans HC.out HQ.out (fun _ e => e.elim)⟩
                  case measure => simp [intOf]; omega
              · have NZ : Hid (quo (l.take (k + 1)) = Z ++ [b]) := by show quo (l.take (k + 1)) = _; rw [TF.out, esc, if_neg h1, if_neg h2, if_neg h3, if_neg h4, if_neg h5]
                have a1 : ∀ w, (Op.stringOp .add ⟨Z.toArray⟩ ⟨#[b]⟩).run Try.prog w = .ok (.string ⟨(Z ++ [b]).toArray⟩) w := AD [b] (by simp)
                have cv : (convert 22 9 (.slice (some ⟨wr.heap.size, 0, none⟩) 1 1)).run Try.prog (wr.alloc (.cells #[.int .u8 (b.toNat : Int)] 5)) = .ok (.string ⟨#[b]⟩) (wr.alloc (.cells #[.int .u8 (b.toNat : Int)] 5)) := conv_one b 1 ((Blk.made wr [.int .u8 (b.toNat : Int)] 5).cell 0)
                have n5 : (decide ((b.toNat : Int) < 32)) = false := by simp; omega
                have n6 : (decide (126 < (b.toNat : Int))) = false := by simp; omega
                clear AD h1 TF h2 h3 h4 h5
                go_wp2_with fail
                go_roundw
                case rel => exact ⟨k + 1, congrArg (fun z : List UInt8 => Value.string ⟨z.toArray⟩) NZ.out.symm, by go_num, by omega, Chg.alloc HC.out _⟩
                case measure => simp [intOf]; omega
    · have zn : (decide ((k : Int) < (n : Int))) = false := by have := HN.out; simp; omega
      have hkn : ¬ k < n := by have := HN.out; omega
      obtain rfl : k = l.length := by omega
      rw [List.take_length]
      have zl : (quo l).length ≤ 4000000000000000001 := by have := quo_len l; omega
      obtain ⟨Z, hZ⟩ : ∃ Z, Z = quo l := ⟨_, rfl⟩
      have a1 : ∀ w, (Op.stringOp .add ⟨Z.toArray⟩ ⟨#[34]⟩).run Try.prog w = .ok (.string ⟨(Z ++ [34]).toArray⟩) w := fun w => add_str (Y := [34]) (by rw [hZ]; simp; omega) w
      have HZ : Hid _ := hZ
      rw [← hZ]
      clear hZ
      go_wp2_with fail
      go_ret
      refine ⟨?_, HC.out⟩
      show Ending.returned (.string ⟨(Z ++ [34]).toArray⟩) = _
      have e : Z = quo l := HZ.out
      rw [e]
end Go.Proofs.Ytnmlhlgeacdcgaa
