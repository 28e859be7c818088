/-
  Towers compared.
-/
import Derived.Test.YtgmheipbcopajaaTwS
import Derived.Test.YtgmheipbcopajaaTwX
namespace Go.Proofs.Ytgmheipbcopajaa
open Go.RowKit

set_option maxRecDepth 100000 in
theorem neq33 (z : List Int) (hz : z.length = 33) (w : World) : (binOp .neq 33 (.agg (bs z).toArray) (.agg (bs z).toArray)).run Try.prog w = .ok (.bool false) w := by
  have h := eql33 z hz w
  simp only [binOp, Sem.run_bind] at h ⊢
  cases hr : (Op.equal 33 (.agg (bs z).toArray) (.agg (bs z).toArray)).run Try.prog w with
  | ok b w' =>
    rw [hr] at h
    simp only [Result.andThen_ok, Sem.run_pure] at h ⊢
    injection h with h1 h2
    injection h1 with h1
    subst h1 h2
    rfl
  | _ => rw [hr] at h; simp [Result.andThen] at h

theorem kdsC_at : ∀ (ks : List (KS × Value)) (j : Nat) (hj : j < ks.length) (_ : ∀ k, k ∈ ks → k.1.z.length = 65) (i : Nat) (v : Value), (kdC ks[j].1.lv ks[j].2 ks[j].1.ct ks[j].1.z)[i]? = some v → (kdsC ks)[j * 68 + i]? = some v
  | [], j, hj, _, _, _, _ => by simp at hj
  | k :: r, 0, _, _, i, v, h => by
    have h : (kdC k.1.lv k.2 k.1.ct k.1.z)[i]? = some v := h
    have hl := (List.getElem?_eq_some_iff.1 h).1
    rw [Nat.zero_mul, Nat.zero_add]
    show (kdC k.1.lv k.2 k.1.ct k.1.z ++ kdsC r)[i]? = _
    rw [List.getElem?_append_left hl]
    exact h
  | k :: r, j + 1, hj, hz, i, v, h => by
    have hk := hz k (List.mem_cons_self ..)
    have h2 := kdsC_at r j (by simpa using hj) (fun q hq => hz q (List.mem_cons_of_mem _ hq)) i v (by simpa using h)
    show (kdC k.1.lv k.2 k.1.ct k.1.z ++ kdsC r)[(j + 1) * 68 + i]? = _
    rw [List.getElem?_append_right (by rw [kdC_len, hk]; omega), kdC_len, hk, show (j + 1) * 68 + i - (65 + 3) = j * 68 + i by omega]
    exact h2
theorem ML.at {w : World} {v : Value} {ks : List (KS × Value)} (h : ML w v ks) (hz : ∀ k, k ∈ ks → k.1.z.length = 65) {j : Nat} (hj : j < ks.length) : ∃ g c, v = .slice (some ⟨g, 0, none⟩) ks.length c ∧ w.rangeAt g (j * 68) (kdC ks[j].1.lv ks[j].2 ks[j].1.ct ks[j].1.z) := by
  have hr := h.row
  rcases hr.2 with ⟨_, h0⟩ | ⟨g, cap, cur, e, _⟩
  · omega
  · refine ⟨g, cap, e, fun i u hu => ?_⟩
    rw [e] at hr
    have h3 := World.ownsRow.cells hr (g := g) rfl (j * 68 + i) u (kdsC_at ks j hj hz i u hu)
    rw [addr_add, Nat.zero_add] at h3
    exact h3




/-- A kid on two sides. -/
structure KP where
  lv : Nat
  ct : Nat
  x : List Int
  y : List Int
  kl : List Int
  a : Option Addr
  n : Nat
  c : Nat
  b : Option Addr
  m : Nat
  d : Nat
structure KRows (w : World) (A B : Option Addr) (M : Nat) (f : Nat → KP) : Prop where
  row : ∀ j, j < M → ∃ g o g' o', A = some ⟨g, o, none⟩ ∧ B = some ⟨g', o', none⟩ ∧ w.rangeAt g (o + j * 68) (kdC (f j).lv (.slice (f j).a (f j).n (f j).c) (f j).ct ((f j).x ++ (f j).y)) ∧ w.rangeAt g' (o' + j * 68) (kdC (f j).lv (.slice (f j).b (f j).m (f j).d) (f j).ct ((f j).x ++ (f j).y))
  s1 : ∀ j, j < M → Src w (.slice (f j).a (f j).n (f j).c) (f j).kl
  s2 : ∀ j, j < M → Src w (.slice (f j).b (f j).m (f j).d) (f j).kl
  hx : ∀ j, j < M → (f j).x.length = 33
  hy : ∀ j, j < M → (f j).y.length = 32
  hk : ∀ j, j < M → (f j).kl.length ≤ 1024
theorem towC_vl (hd : Bool) (s : Value) (vl : List Int) (kv : Value) : ((towC hd s vl kv).drop 2).take (bs vl).length = bs vl := by simp [towC]

set_option maxRecDepth 100000 in
set_option maxHeartbeats 4000000 in
theorem sameTower_any {w : World} {hd : Bool} {vl kl : List Int} (HV : vl.length = 33) (hkl : kl.length ≤ 1024) {a b A B : Option Addr} {n c m d M ac bc : Nat} (hs : Src w (.slice a n c) kl) (hu : Src w (.slice b m d) kl) {f : Nat → KP} (hr : KRows w A B M f) (hM : M ≤ 24) :
    Calls Try.prog 30 #[.agg (towC hd (.slice a n c) vl (.slice A M ac)).toArray, .agg (towC hd (.slice b m d) vl (.slice B M bc)).toArray] w fun e w' => e = .returned (.bool true) ∧ Below w.heap.size w w' := by
  obtain ⟨W, hW⟩ : ∃ W, W = (w.alloc (.cells (towC hd (.slice a n c) vl (.slice A M ac)).toArray 69)).alloc (.cells (towC hd (.slice b m d) vl (.slice B M bc)).toArray 69) := ⟨_, rfl⟩
  have cW : Chg (fun _ => False) w W := by rw [hW]; exact ((Chg.refl _ _).alloc _).alloc _
  have B1 : Hid (Blk W w.heap.size (towC hd (.slice a n c) vl (.slice A M ac)) 69) := by rw [hW]; exact (Blk.made w _ 69).alloc _
  have B2 : Hid (Blk W (w.heap.size + 1) (towC hd (.slice b m d) vl (.slice B M bc)) 69) := by
    rw [hW]
    have := Blk.made (w.alloc (.cells (towC hd (.slice a n c) vl (.slice A M ac)).toArray 69)) (towC hd (.slice b m d) vl (.slice B M bc)) 69
    rwa [World.size_alloc] at this
  have c0 : W.cell? ⟨w.heap.size, 0, none⟩ = some (.bool hd) := B1.out.cell 0
  have c1 : W.cell? ⟨w.heap.size, 1, none⟩ = some (.slice a n c) := B1.out.cell 1
  have d0 : W.cell? ⟨w.heap.size + 1, 0, none⟩ = some (.bool hd) := B2.out.cell 0
  have d1 : W.cell? ⟨w.heap.size + 1, 1, none⟩ = some (.slice b m d) := B2.out.cell 1
  have c3 : ∀ k, (W.drewN k).cell? ⟨w.heap.size, 35, none⟩ = some (.slice A M ac) := fun k => by
    have h9 : W.cell? ⟨w.heap.size, 35, none⟩ = some (.slice A M ac) := by rw [B1.out.cell]; exact towC_at _ _ _ _ HV
    exact h9
  have d3 : ∀ k, (W.drewN k).cell? ⟨w.heap.size + 1, 35, none⟩ = some (.slice B M bc) := fun k => by
    have h9 : W.cell? ⟨w.heap.size + 1, 35, none⟩ = some (.slice B M bc) := by rw [B2.out.cell]; exact towC_at _ _ _ _ HV
    exact h9
  have e33 := neq33 vl HV
  have SA : Hid (Src W (.slice a n c) kl) := hs.kept cW (fun _ _ e => e)
  have SB : Hid (Src W (.slice b m d) kl) := hu.kept cW (fun _ _ e => e)
  have HB : Hid (Below w.heap.size w W) := by rw [hW]; exact ((Below.refl _ _).alloc (Nat.le_refl _) _).alloc (by simp) _
  have HR : Hid _ := hr
  have CW : Hid _ := cW
  clear hs hu cW hr
  go_enter Try.func30, Try.ntmps30
  go_upto_region 1 with fail
  rw [← hW]
  clear hW
  go_wp2_with (first
    | refine wpList_load_g (by rfl) 33 (.tmp 12) rfl w.heap.size 2 (bs vl) rfl B1.out (towC_vl _ _ _ _) Try.underlying33 rfl (Try.addrSz vl HV) ?_
    | refine wpList_load_g (by rfl) 33 (.tmp 14) rfl (w.heap.size + 1) 2 (bs vl) rfl B2.out (towC_vl _ _ _ _) Try.underlying33 rfl (Try.addrSz vl HV) ?_
    | (go_at_call 15; refine Calls.mono (same_any SA.out SB.out (by omega) (by omega)) ?_; rintro e w9 ⟨rfl, n9, rfl⟩; rw [decide_eq_true rfl]))
  clear c0 c1 c3 d0 d1 d3 e33
  go_loopw [38] (fun i wr => ∃ j : Nat, j ≤ M ∧ i = .int .i64 j ∧ Hid (Below W.heap.size W wr)) (fun i _ => M - (intOf i).toNat)
  case atStart => exact ⟨0, Nat.zero_le _, rfl, ⟨rfl, rfl, rfl, Nat.le_refl _, fun _ _ => rfl⟩⟩
  case round =>
    obtain ⟨j, hj, rfl, hid⟩ := hrel
    have BL : Hid _ := hid.out
    clear hid
    by_cases hlt : j < M
    · obtain ⟨g, o, g', o', ea, eb, ra, rb⟩ := HR.out.row j hlt
      have EA : Hid _ := ea
      have EB : Hid _ := eb
      have cR : Chg (fun _ => False) W wr := Chg.of_below BL.out (fun _ => False)
      have RA : Hid (wr.rangeAt g (o + j * 68) (kdC (f j).lv (.slice (f j).a (f j).n (f j).c) (f j).ct ((f j).x ++ (f j).y))) := rangeAt_kept (rangeAt_kept ra CW.out (fun e => e)) cR (fun e => e)
      have RB : Hid (wr.rangeAt g' (o' + j * 68) (kdC (f j).lv (.slice (f j).b (f j).m (f j).d) (f j).ct ((f j).x ++ (f j).y))) := rangeAt_kept (rangeAt_kept rb CW.out (fun e => e)) cR (fun e => e)
      have BX : Hid (Blk wr w.heap.size (towC hd (.slice a n c) vl (.slice A M ac)) 69) := B1.out.keep cR (fun e => e)
      have BY : Hid (Blk wr (w.heap.size + 1) (towC hd (.slice b m d) vl (.slice B M bc)) 69) := B2.out.keep cR (fun e => e)
      have S1 : Hid (Src wr.drew (.slice (f j).a (f j).n (f j).c) (f j).kl) := ((HR.out.s1 j hlt).kept CW.out (fun _ _ e => e)).kept cR.drew (fun _ _ e => e)
      have S2 : Hid (Src wr.drew (.slice (f j).b (f j).m (f j).d) (f j).kl) := ((HR.out.s2 j hlt).kept CW.out (fun _ _ e => e)).kept cR.drew (fun _ _ e => e)
      have LZ : ((f j).x ++ (f j).y).length = 65 := by rw [List.length_append, HR.out.hx j hlt, HR.out.hy j hlt]
      clear ea eb ra rb cR
      go_upto_region 6 with fail
      refine wp_region_held_drew (S := fun w' => Blk w' w.heap.size (towC hd (.slice a n c) vl (.slice A M ac)) 69 ∧ Blk w' (w.heap.size + 1) (towC hd (.slice b m d) vl (.slice B M bc)) 69 ∧ w'.rangeAt g (o + j * 68) (kdC (f j).lv (.slice (f j).a (f j).n (f j).c) (f j).ct ((f j).x ++ (f j).y)) ∧ w'.rangeAt g' (o' + j * 68) (kdC (f j).lv (.slice (f j).b (f j).m (f j).d) (f j).ct ((f j).x ++ (f j).y))) (by kernel_rfl) ⟨Blk.drew BX.out, Blk.drew BY.out, RA.out, RB.out⟩ (fun hH => ?_)
      refine wpAnyH_take (i := 0) (v := .pointer (some ⟨w.heap.size, 35, none⟩)) rfl (by kernel_rfl) (by kernel_rfl) (by kernel_rfl) (fun _ _ _ h => h) (Or.inl ⟨by rfl, fun w' _ => by go_simp⟩) hH ?_
      refine wpAnyH_take (i := 1) (v := .slice A M ac) rfl (by kernel_rfl) (by kernel_rfl) (by kernel_rfl) (fun _ _ _ h => h) (Or.inl ⟨by rfl, fun w' hw' => by have h2 : w'.cell? ⟨w.heap.size, 35, none⟩ = some (.slice A M ac) := (by rw [Blk.cell hw'.1]; exact towC_at _ _ _ _ HV); go_simp⟩) hH ?_
      refine wpAnyH_take (i := 2) (v := .int .i64 j) rfl (by kernel_rfl) (by kernel_rfl) (by kernel_rfl) (fun _ _ _ h => h) (Or.inl ⟨by rfl, fun w' _ => by go_simp⟩) hH ?_
      refine wpAnyH_take (i := 3) (v := .pointer (some ⟨g, o + j * 68, none⟩)) rfl (by kernel_rfl) (by kernel_rfl) (by kernel_rfl) (fun _ _ _ h => h) (Or.inl ⟨by rfl, fun w' _ => by have q := EA.out; go_simp⟩) hH ?_
      refine wpAnyH_take (i := 4) (v := .agg (kdC (f j).lv (.slice (f j).a (f j).n (f j).c) (f j).ct ((f j).x ++ (f j).y)).toArray) rfl (by kernel_rfl) (by kernel_rfl) (by kernel_rfl) (fun _ _ _ h => h) (yieldsIf_load_mid (by rfl) 155 _ rfl g (o + j * 68) (by kernel_rfl) (kdC (f j).lv (.slice (f j).a (f j).n (f j).c) (f j).ct ((f j).x ++ (f j).y)) _ (fun w' h => h.2.2.1) Try.underlying155 rfl (Try.kdSz _ _ _ _ LZ)) hH ?_
      refine wpAnyH_take (i := 5) (v := .pointer (some ⟨w.heap.size + 1, 35, none⟩)) rfl (by kernel_rfl) (by kernel_rfl) (by kernel_rfl) (fun _ _ _ h => h) (Or.inl ⟨by rfl, fun w' _ => by go_simp⟩) hH ?_
      refine wpAnyH_take (i := 6) (v := .slice B M bc) rfl (by kernel_rfl) (by kernel_rfl) (by kernel_rfl) (fun _ _ _ h => h) (Or.inl ⟨by rfl, fun w' hw' => by have h2 : w'.cell? ⟨w.heap.size + 1, 35, none⟩ = some (.slice B M bc) := (by rw [Blk.cell hw'.2.1]; exact towC_at _ _ _ _ HV); go_simp⟩) hH ?_
      refine wpAnyH_take (i := 7) (v := .int .i64 j) rfl (by kernel_rfl) (by kernel_rfl) (by kernel_rfl) (fun _ _ _ h => h) (Or.inl ⟨by rfl, fun w' _ => by go_simp⟩) hH ?_
      refine wpAnyH_take (i := 8) (v := .pointer (some ⟨g', o' + j * 68, none⟩)) rfl (by kernel_rfl) (by kernel_rfl) (by kernel_rfl) (fun _ _ _ h => h) (Or.inl ⟨by rfl, fun w' _ => by have q := EB.out; go_simp⟩) hH ?_
      refine wpAnyH_take (i := 9) (v := .agg (kdC (f j).lv (.slice (f j).b (f j).m (f j).d) (f j).ct ((f j).x ++ (f j).y)).toArray) rfl (by kernel_rfl) (by kernel_rfl) (by kernel_rfl) (fun _ _ _ h => h) (yieldsIf_load_mid (by rfl) 155 _ rfl g' (o' + j * 68) (by kernel_rfl) (kdC (f j).lv (.slice (f j).b (f j).m (f j).d) (f j).ct ((f j).x ++ (f j).y)) _ (fun w' h => h.2.2.2) Try.underlying155 rfl (Try.kdSz _ _ _ _ LZ)) hH ?_
      refine wpAnyH_ready (rs := [10]) (by kernel_rfl) (by simp) ?_
      refine AllReadyH.cons rfl (fun K hK => ?_) AllReadyH.nil
      go_simp
      refine Calls.mono (sameKid_any (w := wr.drew) (HR.out.hx j hlt) (HR.out.hy j hlt) (HR.out.hk j hlt) S1.out S2.out) ?_
      rintro e w9 ⟨rfl, b9⟩
      have b8 : Below wr.heap.size wr w9 := ⟨b9.os, b9.tape, b9.output, b9.size, b9.block⟩
      have c8 : Chg (fun _ => False) wr w9 := Chg.of_below b8 (fun _ => False)
      have BL9 : Hid (Below W.heap.size W w9) := BL.out.trans (b8.mono BL.out.size)
      refine hK.out _ _ ⟨BX.out.keep c8 (fun e => e), BY.out.keep c8 (fun e => e), rangeAt_kept RA.out c8 (fun e => e), rangeAt_kept RB.out c8 (fun e => e)⟩ (fun hH => ?_)
      clear hK K b9 b8 c8
      refine wpAnyH_take (i := 11) (v := .bool false) rfl (by kernel_rfl) (by kernel_rfl) (by kernel_rfl) (fun _ _ _ h => h) (Or.inl ⟨by rfl, fun w' _ => by go_simp⟩) hH ?_
      refine wpAnyH_done (by kernel_rfl) ?_ _
      clear hH
      go_wp2_with fail
      go_roundw
      case rel => exact ⟨j + 1, by omega, by go_num, BL9.out⟩
      case measure => simp [intOf]; omega
    · have F : Hid (Below w.heap.size w wr) := HB.out.trans (BL.out.mono HB.out.size)
      go_wp2_with fail
      go_ret
      exact ⟨rfl, F.out⟩
end Go.Proofs.Ytgmheipbcopajaa
