/-
  Kids compared.
-/
import Derived.Test.YtkchmoapcmageaaTwW
import Derived.Test.YtkchmoapcmageaaEq
import Derived.Test.YtkchmoapcmageaaPlain
namespace Go.Proofs.Ytkchmoapcmageaa
open Go.RowKit

theorem wpList_load_g {ops : Array Oper} {rest : List Oper} {op : Oper} {a : Act} {w : World} {Q : Exit → Act → World → Prop} (hw : Region.wanted op (yielded ops a.tmps) = true) (ty : TypeId) (x : Operand) (ho : op.op = .load ty x)
    (g o : Nat) (vs : List Value) (hx : a.eval x = .pointer (some ⟨g, o, none⟩)) {cs : List Value} {t : TypeId} (hg : Blk w g cs t) (hv : (cs.drop o).take vs.length = vs) {d : TypeDesc} (hu : Try.prog.underlying ty = some d) (hd : d.isRow = true)
    (hi : (Try.prog.info? ty).map (·.size) = some vs.length) (h : wpList Try.prog ops Q rest (a.put op.dst (.agg vs.toArray)) w) : wpList Try.prog ops Q (op :: rest) a w :=
  wpList_step fun K hK => by
    rw [if_pos hw]
    exact wp_load_mid ty x ho g o hx vs d (hg.range hv) hu hd hi (hK _ _ h)
theorem kdC_ad (lv : Nat) (s : Value) (ct : Nat) (x y : List Int) : ((kdC lv s ct (x ++ y)).drop 3).take (bs x).length = bs x := by simp [kdC, bs]
theorem kdC_lb (lv : Nat) (s : Value) (ct : Nat) (x y : List Int) (h : x.length = 33) : ((kdC lv s ct (x ++ y)).drop 36).take (bs y).length = bs y := by
  have e : (kdC lv s ct (x ++ y)).drop 36 = bs y := by
    show (bs (x ++ y)).drop 33 = bs y
    rw [bs_app, List.drop_append_of_le_length (by rw [bs_len]; omega), List.drop_eq_nil_of_le (by rw [bs_len]; omega), List.nil_append]
  rw [e, List.take_length]

set_option maxRecDepth 100000 in
set_option maxHeartbeats 4000000 in
theorem sameKid_any {w : World} {lv ct : Nat} {x y kl : List Int} (hx : x.length = 33) (hy : y.length = 32) (hk : kl.length ≤ 1024) {a b : Option Addr} {n c m d : Nat} (hs : Src w (.slice a n c) kl) (hu : Src w (.slice b m d) kl) :
    Calls Try.prog 87 #[.agg (kdC lv (.slice a n c) ct (x ++ y)).toArray, .agg (kdC lv (.slice b m d) ct (x ++ y)).toArray] w fun e w' => e = .returned (.bool true) ∧ Below w.heap.size w w' := by
  obtain ⟨W, hW⟩ : ∃ W, W = (w.alloc (.cells (kdC lv (.slice a n c) ct (x ++ y)).toArray 112)).alloc (.cells (kdC lv (.slice b m d) ct (x ++ y)).toArray 112) := ⟨_, rfl⟩
  have cW : Chg (fun _ => False) w W := by rw [hW]; exact ((Chg.refl _ _).alloc _).alloc _
  have B1 : Hid (Blk W w.heap.size (kdC lv (.slice a n c) ct (x ++ y)) 112) := by rw [hW]; exact (Blk.made w _ 112).alloc _
  have B2 : Hid (Blk W (w.heap.size + 1) (kdC lv (.slice b m d) ct (x ++ y)) 112) := by
    rw [hW]
    have := Blk.made (w.alloc (.cells (kdC lv (.slice a n c) ct (x ++ y)).toArray 112)) (kdC lv (.slice b m d) ct (x ++ y)) 112
    rwa [World.size_alloc] at this
  have c0 : W.cell? ⟨w.heap.size, 0, none⟩ = some (.int .i64 lv) := B1.out.cell 0
  have c1 : W.cell? ⟨w.heap.size, 1, none⟩ = some (.slice a n c) := B1.out.cell 1
  have c2 : W.cell? ⟨w.heap.size, 2, none⟩ = some (.int .u64 ct) := B1.out.cell 2
  have d0 : W.cell? ⟨w.heap.size + 1, 0, none⟩ = some (.int .i64 lv) := B2.out.cell 0
  have d1 : W.cell? ⟨w.heap.size + 1, 1, none⟩ = some (.slice b m d) := B2.out.cell 1
  have d2 : W.cell? ⟨w.heap.size + 1, 2, none⟩ = some (.int .u64 ct) := B2.out.cell 2
  have e33 := eql33 x hx
  have e31 := eql31 y hy
  have SA : Hid (Src W (.slice a n c) kl) := hs.kept cW (fun _ _ e => e)
  have SB : Hid (Src W (.slice b m d) kl) := hu.kept cW (fun _ _ e => e)
  have HB : Hid (Below w.heap.size w W) := by rw [hW]; exact ((Below.refl _ _).alloc (Nat.le_refl _) _).alloc (by simp) _
  clear hs hu cW
  go_enter Try.func87, Try.ntmps87
  go_upto_region 1 with fail
  rw [← hW]
  clear hW
  go_wp2_with (first
    | refine wpList_load_g (by rfl) 33 (.tmp 18) rfl w.heap.size 3 (bs x) rfl B1.out (kdC_ad _ _ _ _ _) Try.underlying33 rfl (Try.addrSz x hx) ?_
    | refine wpList_load_g (by rfl) 33 (.tmp 20) rfl (w.heap.size + 1) 3 (bs x) rfl B2.out (kdC_ad _ _ _ _ _) Try.underlying33 rfl (Try.addrSz x hx) ?_
    | refine wpList_load_g (by rfl) 31 (.tmp 25) rfl w.heap.size 36 (bs y) rfl B1.out (kdC_lb _ _ _ _ _ hx) Try.underlying31 rfl (Try.sumSz' y hy) ?_
    | refine wpList_load_g (by rfl) 31 (.tmp 27) rfl (w.heap.size + 1) 36 (bs y) rfl B2.out (kdC_lb _ _ _ _ _ hx) Try.underlying31 rfl (Try.sumSz' y hy) ?_
    | (go_at_call 15; refine Calls.mono (same_any SA.out SB.out (by omega) (by omega)) ?_; rintro e w9 ⟨rfl, n9, rfl⟩; rw [decide_eq_true rfl]))
  have F : Hid (Below w.heap.size w (W.drewN n9)) := ⟨HB.out.os, HB.out.tape, HB.out.output, HB.out.size, HB.out.block⟩
  go_ret
  exact ⟨rfl, F.out⟩
end Go.Proofs.Ytkchmoapcmageaa
