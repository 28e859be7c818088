/-
  slices.Sort and slices.Compact.
-/
import Derived.Test.YtnfcmpffihmnmaaSgN
import Derived.Lib.SliceRun
import Derived.Deep.CutRange
namespace Go.Proofs.Ytnfcmpffihmnmaa
open Go.RowKit

set_option maxRecDepth 100000 in
theorem sort_any {w : World} {g n cap : Nat} {d : Array Int} (h : RU w g d) (hn : d.size = n) (hn2 : n < 65536) :
    Calls Try.prog 28 #[.slice (some ⟨g, 0, none⟩) n cap] w fun r w' => r = .returned (.tuple #[]) ∧ PS w g n (Sort.pdq ltI d 0 n (Sort.bitsLen n) true true) w' := by
  have L : Hid _ := len_any n hn2
  have b := bitsLen_small n hn2
  have P : Hid _ := pdq_any (n + 1) (cap := cap) (a := 0) (b := n) (limit := Sort.bitsLen n) (by omega) h hn hn2 (Nat.zero_le _) (Nat.le_refl _) (by omega) (.inl rfl)
  rw [show ((0 : Nat) : Int) = 0 from rfl] at P
  clear h hn
  go_enter Try.func28, Try.ntmps28
  go_wp2_with (first | (go_at_call 33; refine Calls.mono (L.out _) ?_; rintro r w1 ⟨rfl, rfl⟩) | (go_at_call 32; refine Calls.mono P.out ?_; rintro r w1 ⟨rfl, hw1⟩))
  exact ⟨rfl, _, results_none rfl _ _ _, rfl, hw1⟩

set_option maxRecDepth 100000 in
theorem ins_nil {w : World} {cap : Nat} : Calls Try.prog 34 #[.slice none 0 cap, .int .i64 0, .int .i64 0] w fun r w' => r = .returned (.tuple #[]) ∧ w' = w := by
  go_enter Try.func34, Try.ntmps34
  go_wp2_with fail
  go_loopw [6] (fun si wr => si = .int .i64 1 ∧ wr = w) (fun _ _ => 0)
  case atStart => exact ⟨by go_num, rfl⟩
  case round =>
    obtain ⟨rfl, rfl⟩ := hrel
    go_wp2_with fail
    exact ⟨rfl, _, results_none rfl _ _ _, rfl, rfl⟩

set_option maxRecDepth 100000 in
theorem pdq_nil {w : World} {cap : Nat} : Calls Try.prog 32 #[.slice none 0 cap, .int .i64 0, .int .i64 0, .int .i64 0] w fun r w' => r = .returned (.tuple #[]) ∧ w' = w := by
  have C : Hid _ := ins_nil (w := w) (cap := cap)
  go_enter Try.func32, Try.ntmps32
  go_wp2_with fail
  go_loopw [1, 2, 3, 8, 9] (fun s1 s2 s3 s8 s9 wr => s1 = .int .i64 0 ∧ s2 = .int .i64 0 ∧ s3 = .int .i64 0 ∧ s8 = .bool true ∧ s9 = .bool true ∧ wr = w) (fun _ _ _ _ _ _ => 0)
  case atStart => exact ⟨rfl, rfl, rfl, rfl, rfl, rfl⟩
  case round =>
    obtain ⟨rfl, rfl, rfl, rfl, rfl, rfl⟩ := hrel
    go_wp2_with (go_at_call 34; refine Calls.mono C.out ?_; rintro r w1 ⟨rfl, rfl⟩)
    exact ⟨rfl, _, results_none rfl _ _ _, rfl, rfl⟩

set_option maxRecDepth 100000 in
theorem sort_nil {w : World} {cap : Nat} : Calls Try.prog 28 #[.slice none 0 cap] w fun r w' => r = .returned (.tuple #[]) ∧ w' = w := by
  have L : Hid _ := len_any 0 (by omega)
  rw [show Sort.bitsLen 0 = 0 by decide, show ((0 : Nat) : Int) = 0 from rfl] at L
  have C : Hid _ := pdq_nil (w := w) (cap := cap)
  go_enter Try.func28, Try.ntmps28
  go_wp2_with (first | (go_at_call 33; refine Calls.mono (L.out _) ?_; rintro r w1 ⟨rfl, rfl⟩) | (go_at_call 32; refine Calls.mono C.out ?_; rintro r w1 ⟨rfl, rfl⟩))
  exact ⟨rfl, _, results_none rfl _ _ _, rfl, rfl⟩

set_option maxRecDepth 100000 in
theorem cpt_nil {w : World} {cap : Nat} : Calls Try.prog 29 #[.slice none 0 cap] w fun r w' => r = .returned (.slice none 0 cap) ∧ w' = w := by
  go_enter Try.func29, Try.ntmps29
  go_wp2
  go_ret
  exact ⟨rfl, rfl⟩

theorem wpList_clear {ops : Array Oper} {rest : List Oper} {o : Oper} {a : Act} {w w' : World} {Q : Exit → Act → World → Prop} (hgd : o.guard = none) (x : Operand)
    (ho : o.op = .call { callee := .builtin .clear, args := #[x], argTypes := #[94] }) {v v' : Value} (hx : a.eval x = v) (hr : (Builtin.clear_ #[94] o.type #[v]).run Try.prog w = .ok v' w')
    (h : wpList Try.prog ops Q rest (a.put o.dst v') w') : wpList Try.prog ops Q (o :: rest) a w := by
  refine wpList_plain hgd fun K hK => ?_
  unfold Oper.wp execOp
  simp only [ho, resolve, invoke, builtin, Sem.run_bind, Sem.run_pure, Result.andThen_ok, List.map_toArray, List.map_cons, List.map_nil, hx, hr]
  exact hK _ _ h

/-- None stands beside one like it. -/
def Apart (d : Array Int) (n : Nat) : Prop := ∀ i, i + 1 < n → ¬ d[i + 1]! = d[i]!

set_option maxRecDepth 100000 in
set_option maxHeartbeats 4000000 in
theorem cpt_any {w : World} {g n cap : Nat} {d : Array Int} (h : RU w g d) (hn : d.size = n) (hn2 : n < 65536) (hcap : n ≤ cap) (hcap2 : cap ≤ 9223372036854775807) :
    Calls Try.prog 29 #[.slice (some ⟨g, 0, none⟩) n cap] w fun r w' => ∃ m c, r = .returned (.slice (some ⟨g, 0, none⟩) m c) ∧ (m = n ↔ Apart d n) ∧ m < 65536 ∧ Chg (fun k => k = g) w w' := by
  have H0 : Hid _ := h
  have HN : Hid _ := hn
  clear h hn
  by_cases c2 : n < 2
  · have A : Hid (Apart d n) := fun i hi => by omega
    go_enter Try.func29, Try.ntmps29
    go_wp2_with fail
    go_ret
    exact ⟨n, cap, rfl, ⟨fun _ => A.out, fun _ => rfl⟩, hn2, Chg.refl _ _⟩
  · go_enter Try.func29, Try.ntmps29
    go_wp2_with fail
    go_loopw [3] (fun s3 wr => ∃ k : Nat, s3 = .int .i64 ((k : Int) + 1) ∧ k + 1 ≤ n ∧ Hid (RU wr g d ∧ Apart d (k + 1) ∧ Chg (fun k => k = g) w wr)) (fun s3 _ => ((n : Int) - intOf s3).toNat)
    case atStart => exact ⟨0, by go_num, by omega, H0.out, fun i hi => by omega, Chg.refl _ _⟩
    case round =>
      obtain ⟨k, rfl, hk, hid⟩ := hrel
      obtain ⟨q1, q2, q3⟩ := hid.out
      have q4 := HN.out
      by_cases c3 : k + 1 < n
      · have ca := q1.cell (i := k + 1) (by omega)
        have cb := q1.cell (i := k) (by omega)
        have fa := q1.fr (k + 1)
        have fb := q1.fr k
        obtain ⟨ya, hya⟩ : ∃ x, d[k + 1]! = x := ⟨_, rfl⟩
        obtain ⟨yb, hyb⟩ : ∃ x, d[k]! = x := ⟨_, rfl⟩
        rw [hya] at ca
        rw [hyb] at cb
        have e3 : (k : Int) + 1 - 1 = (k : Int) := by omega
        have oa : (k : Int) + 1 < (n : Int) := by omega
        by_cases c4 : ya = yb
        · have NA : Hid (¬ Apart d n) := fun hh => hh k c3 (by rw [hya, hyb]; exact c4)
          have R : Hid (∀ nq, RU (wr.drewN nq) g d ∧ Chg (fun k => k = g) w (wr.drewN nq)) := fun nq => ⟨q1.drewN nq, q3.os, q3.tape, q3.output, q3.size, q3.block⟩
          clear hid q1 q2 q3 q4 hya hyb H0
          go_wp2_with fail
          go_quiet (fail)
          obtain ⟨W, hW⟩ : ∃ W, W = wr.drewN nq := ⟨_, rfl⟩
          have S : Hid (RU W g d ∧ Chg (fun k => k = g) w W) := by rw [hW]; exact R.out nq
          rw [← hW]
          clear R hW ca cb fa fb e3
          obtain ⟨M, hM⟩ : ∃ M, M = n - (k + 1) := ⟨_, rfl⟩
          obtain ⟨M2, hM2⟩ : ∃ M, M = cap - (k + 1) := ⟨_, rfl⟩
          have HM : Hid (M + (k + 1) = n) := (by omega : M + (k + 1) = n)
          go_upto_region 8 with fail
          rw [← hM, ← hM2]
          have mM : M < 65536 := by omega
          clear hM hM2
          go_wp2_with fail
          go_loopw [3, 5] (fun s3 s5 wr => ∃ (a b : Nat) (f : Array Int), s3 = .int .i64 a ∧ s5 = .int .i64 ((b : Int) + 1) ∧ k + 1 ≤ a ∧ a ≤ k + 1 + b ∧ b + 1 ≤ M ∧ Hid (RU wr g f ∧ f.size = n ∧ Chg (fun k => k = g) w wr)) (fun _ s5 _ => ((M : Int) - intOf s5).toNat)
          case atStart => exact ⟨k + 1, 0, d, by go_num, by go_num, by omega, by omega, by have := HM.out; omega, S.out.1, HN.out, S.out.2⟩
          case round =>
            obtain ⟨a, b, f, rfl, rfl, ha, hab, hb, hid⟩ := hrel
            clear S
            have hm := HM.out
            have an : a < n := by omega
            obtain ⟨q1, q2, q3⟩ := hid.out
            by_cases c5 : b + 1 < M
            · have ca := q1.cell (i := k + 1 + (b + 1)) (by omega)
              have cb := q1.cell (i := k + 1 + b) (by omega)
              have cc := q1.cell (i := a) (by omega)
              have fa := q1.fr (k + 1 + (b + 1))
              have fb := q1.fr (k + 1 + b)
              have fc := q1.fr a
              obtain ⟨za, hza⟩ : ∃ x, f[k + 1 + (b + 1)]! = x := ⟨_, rfl⟩
              obtain ⟨zb, hzb⟩ : ∃ x, f[k + 1 + b]! = x := ⟨_, rfl⟩
              obtain ⟨zc, hzc⟩ : ∃ x, f[a]! = x := ⟨_, rfl⟩
              rw [hza] at ca
              rw [hzb] at cb
              rw [hzc] at cc
              have e3 : (b : Int) + 1 - 1 = (b : Int) := by omega
              have ob : (b : Int) + 1 < (M : Int) := by omega
              have R : Hid (∀ nq, RU (wr.drewN nq) g f ∧ f.size = n ∧ Chg (fun k => k = g) w (wr.drewN nq)) := fun nq => ⟨q1.drewN nq, q2, q3.os, q3.tape, q3.output, q3.size, q3.block⟩
              have R2 : Hid (∀ nq, RU ((wr.drewN nq).setCell ⟨g, a, none⟩ (.int .u64 za)) g (f.setIfInBounds a za) ∧ (f.setIfInBounds a za).size = n ∧ Chg (fun k => k = g) w ((wr.drewN nq).setCell ⟨g, a, none⟩ (.int .u64 za))) := fun nq => ⟨(R.out nq).1.set (by omega) _, by simpa using q2, (R.out nq).2.2.setCell (p := ⟨g, a, none⟩) (.inl rfl) _⟩
              clear hid q1 q2 q3 hza hzb hzc hm
              by_cases c6 : za = zb
              · clear R2
                go_wp2_with fail
                go_quiet (fail)
                go_wp2_with fail
                go_roundw
                case rel => exact ⟨a, b + 1, _, rfl, by go_num, by omega, by omega, by omega, R.out _⟩
                case measure => simp [intOf]; omega
              · clear R
                go_wp2_with fail
                go_quiet (fail)
                go_wp2_with fail
                go_roundw
                case rel => exact ⟨a + 1, b + 1, _, by go_num, by go_num, by omega, by omega, by omega, R2.out _⟩
                case measure => simp [intOf]; omega
            · have CL := Lib.run_clear_slice (P := Try.prog) wr 94 22 0 (.int .u64 0) Try.underlying94 (fun _ => by kernel_rfl) rfl rfl g a (n - a) (cap - a) (by omega) (fun j hj => by rw [q1.cell (by omega)]; rfl) (fun j _ => q1.fr _)
              obtain ⟨V, hV⟩ : ∃ V, V = wr.setCells g a (List.replicate (n - a) (.int .u64 0)) := ⟨_, rfl⟩
              have CV : Hid (Chg (fun k => k = g) w V) := by
                obtain ⟨rest, hb⟩ := q1
                rw [hV]
                exact q3.trans (Blk.setCells (List.replicate (n - a) (.int .u64 0)) a wr _ hb (by simp; omega)).2 (fun _ e => .inl e)
              rw [← hV] at CL
              have CL2 : Hid _ := CL
              clear CL hV hid q1 q2 q3 hm
              go_wp2_with (refine wpList_clear rfl (.tmp 56) rfl (by rfl) CL2.out ?_)
              go_ret
              exact ⟨a, cap, rfl, ⟨fun e => absurd e (by omega), fun e => absurd e NA.out⟩, by omega, CV.out⟩
        · have F : Hid (∀ nq, RU (wr.drewN nq) g d ∧ Apart d (k + 1 + 1) ∧ Chg (fun k => k = g) w (wr.drewN nq)) := fun nq => by
            refine ⟨q1.drewN nq, fun i hi => ?_, q3.os, q3.tape, q3.output, q3.size, q3.block⟩
            rcases Nat.lt_or_ge (i + 1) (k + 1) with e | e
            · exact q2 i e
            · have e : i = k := by omega
              rw [e, hya, hyb]
              exact c4
          clear hid q1 q2 q3 q4 hya hyb H0
          go_wp2_with fail
          go_quiet (fail)
          go_wp2_with fail
          go_roundw
          case rel => exact ⟨k + 1, by go_num, by omega, F.out _⟩
          case measure => simp [intOf]; omega
      · have e : k + 1 = n := by omega
        have A : Hid (Apart d n ∧ Chg (fun k => k = g) w wr) := ⟨e ▸ q2, q3⟩
        clear hid q1 q2 q3 q4
        go_wp2_with fail
        go_ret
        exact ⟨n, cap, rfl, ⟨fun _ => A.out.1, fun _ => rfl⟩, hn2, A.out.2⟩
end Go.Proofs.Ytnfcmpffihmnmaa
