/-
  The reference's Image.
-/
import Derived.Test.YtddnecfnjnipjaaRfI
import Derived.Test.YtddnecfnjnipjaaAct
namespace Go.Proofs.Ytddnecfnjnipjaa
open Go.RowKit

/-- The sectors, one behind the other. -/
def imI (z S : Nat) (T : Nat → List Int) : List Int := (List.range (S * z)).map fun j => (T (j / z)).getD (j % z) 0
theorem imI_len (z S : Nat) (T : Nat → List Int) : (imI z S T).length = S * z := by simp [imI]
theorem imI_F (z S : Nat) (F : Nat → Option (List Int)) : imgT z S F = imI z S (fun t => (F t).getD (zs z)) := rfl
theorem imI_get {z S : Nat} {T : Nat → List Int} {j : Nat} (hj : j < S * z) : (imI z S T)[j]? = some ((T (j / z)).getD (j % z) 0) := by
  unfold imI
  rw [List.getElem?_map, List.getElem?_eq_getElem (by simpa using hj), List.getElem_range]
  rfl
theorem place {z s a : Nat} (ha : a < z) : (s * z + a) / z = s ∧ (s * z + a) % z = a := by
  have hz : 0 < z := by omega
  constructor
  · rw [Nat.add_comm, Nat.add_mul_div_right _ _ hz, Nat.div_eq_of_lt ha, Nat.zero_add]
  · rw [Nat.add_comm, Nat.add_mul_mod_self_right, Nat.mod_eq_of_lt ha]
theorem unplace {z s a j : Nat} (h1 : j / z = s) (h2 : j % z = a) : j = s * z + a := by
  rw [← h1, ← h2, Nat.mul_comm]
  exact (Nat.div_add_mod j z).symm
theorem imI_set {z S s a : Nat} {T : Nat → List Int} (_hs : s < S) (ha : a < z) (hT : (T s).length = z) (v : Int) : (imI z S T).set (s * z + a) v = imI z S (updT T s ((T s).set a v)) := by
  apply List.ext_getElem?
  intro j
  by_cases hj : j < S * z
  · rw [imI_get hj, List.getElem?_set]
    by_cases e : s * z + a = j
    · obtain ⟨p1, p2⟩ := place (s := s) ha
      rw [if_pos e, if_pos (by rw [imI_len, e]; exact hj), ← e, p1, p2, updT_same, List.getD_eq_getElem?_getD, List.getElem?_set, if_pos rfl, if_pos (by omega)]
      rfl
    · rw [if_neg e, imI_get hj]
      by_cases e1 : j / z = s
      · rw [e1, updT_same, List.getD_eq_getElem?_getD, List.getD_eq_getElem?_getD, List.getElem?_set, if_neg (fun e2 => e (unplace e1 e2.symm).symm)]
      · rw [updT_other _ _ e1]
  · rw [List.getElem?_eq_none (by rw [List.length_set, imI_len]; omega), List.getElem?_eq_none (by rw [imI_len]; omega)]
theorem updT_same2 {α : Type} (T : Nat → α) (s : Nat) : updT T s (T s) = T := by
  funext t
  by_cases e : t = s
  · rw [e, updT_same]
  · rw [updT_other _ _ e]
theorem splice_succ {b l : List Int} {o k : Nat} (hk : k < l.length) (hb : o + k < b.length) : splice b o (l.take (k + 1)) = (splice b o (l.take k)).set (o + k) l[k] := by
  have e : l.take (k + 1) = l.take k ++ [l[k]] := by rw [List.take_add_one, List.getElem?_eq_getElem hk]; rfl
  have lk : (l.take k).length = k := by rw [List.length_take]; omega
  have lo : (b.take o).length = o := by rw [List.length_take]; omega
  unfold splice
  rw [e, List.set_append, if_neg (by omega), lo, Nat.add_sub_cancel_left, List.set_append, if_neg (by omega), lk, Nat.sub_self, List.drop_eq_getElem_cons (i := o + k) hb, List.set_cons_zero, List.append_assoc, List.length_append, lk]
  rfl
theorem imI_lay {z S s : Nat} {T : Nat → List Int} {l : List Int} (hs : s < S) (hT : (T s).length = z) (hl : l.length = z) : ∀ n, n ≤ z → splice (imI z S T) (s * z) (l.take n) = imI z S (updT T s (over l (T s) n))
  | 0, _ => by
    rw [over_zero, updT_same2]
    unfold splice
    simp
  | n + 1, hn => by
    have h1 : (s + 1) * z ≤ S * z := Nat.mul_le_mul_right z hs
    rw [Nat.add_mul, Nat.one_mul] at h1
    rw [splice_succ (by omega) (by rw [imI_len]; omega), imI_lay hs hT hl n (by omega)]
    have := imI_set (z := z) (S := S) (s := s) (a := n) (T := updT T s (over l (T s) n)) hs (by omega) (by rw [updT_same]; exact over_len hl hT n (by omega)) (l[n]'(by omega))
    rw [this, updT_same, updT_updT, over_succ (by omega) (by omega)]
theorem imI_zero (z S : Nat) : imI z S (fun _ => zs z) = zs (S * z) := by
  apply List.ext_getElem (by rw [imI_len]; simp [zs])
  intro j h1 h2
  have hj : j < S * z := by rw [imI_len] at h1; exact h1
  have := imI_get (T := fun _ => zs z) hj
  rw [List.getElem?_eq_getElem h1] at this
  injection this with this
  rw [this, List.getD_eq_getElem?_getD]
  simp only [zs, List.getElem_replicate, List.getElem?_replicate]
  split <;> rfl

/-- The sectors behind one deed more. -/
theorem ovD_fun (C : Nat → List Int) (dl : List Dd) (b : List Int) {k : Nat} {d : Dd} (h : dl[k]? = some d) : (fun t => ovD C t (dl.take (k + 1)) b) = updT (fun t => ovD C t (dl.take k) b) d.s (if d.turn then rotL d.at_ d.mask (ovD C d.s (dl.take k) b) else over (C d.g) (ovD C d.s (dl.take k) b) d.n) := by
  funext t
  rw [ovD_take C t dl b h]
  unfold ov1
  by_cases e : d.s = t
  · rw [if_pos e, ← e, updT_same]
  · rw [if_neg e, updT_other _ _ (fun e2 => e e2.symm)]

theorem step_copyR {ops : Array Oper} {o : Oper} {a : Act} {w w' : World} {K : Act → World → Prop} {Q : Exit → Act → World → Prop} {E : Prop} (hgd : o.guard = none) (s x : Operand)
    (ho : o.op = .call { callee := .builtin .copy, args := #[s, x], argTypes := #[48, 48] }) {v u v' : Value} (hs : a.eval s = v) (hx : a.eval x = u) (hr : (Builtin.copy_ #[48, 48] o.type #[v, u]).run Try.prog w = .ok v' w') (h : K (a.put o.dst v') w') :
    if Region.wanted o (yielded ops a.tmps) = true then Oper.wp Try.prog o a w K Q else E := by
  have hw : Region.wanted o (yielded ops a.tmps) = true := by simp [Region.wanted, hgd]
  rw [if_pos hw]
  unfold Oper.wp execOp
  simp only [ho, resolve, invoke, builtin, Sem.run_bind, Sem.run_pure, Result.andThen_ok, List.map_toArray, List.map_cons, List.map_nil, hs, hx, hr]
  exact h
theorem run_copy_nilR (w : World) (n c : Nat) (g : Addr) (ty : TypeId) : (Builtin.copy_ #[48, 48] ty #[.slice (some g) n c, .slice none 0 0]).run Try.prog w = .ok (.int .i64 0) w :=
  run_copy_none (P := Try.prog) w 48 48 ty 5 (some g) none n c 0 0 Try.underlying48 (by kernel_rfl) (Nat.zero_min _)

section
variable {w w' : World} {q S z b : Nat} {y : RN} {dl cl : List Dd} {dv cv : Value} {C : Nat → List Int}

set_option maxRecDepth 100000 in
set_option maxHeartbeats 8000000 in
theorem RD.image (h : RD w q S z b y dl cl dv cv C) (hb : b < 2199023255552) (hz : z ≤ 4096) (hz0 : 0 < z) (hSz : S * z ≤ 16777216) :
    Calls Try.prog 51 #[.pointer (some ⟨q, 0, none⟩)] w fun e w' => e = .returned (.slice (some ⟨w.heap.size, 0, none⟩) (S * z) (S * z)) ∧ Chg (fun _ => False) w w' ∧ Rw w' w.heap.size (bs (imI z S (fun t => ovD C t dl (zs z)))).toArray 5 := by
  obtain ⟨NN, hNN⟩ : ∃ NN, NN = S * z := ⟨_, rfl⟩
  have hmul : (S : Int) * (z : Int) = (NN : Int) := by rw [hNN, Int.natCast_mul]
  rw [← hNN] at hSz ⊢
  have hmk := run_mk NN (by omega)
  have hlen := h.len
  obtain ⟨n, hn⟩ : ∃ n, n = dl.length := ⟨_, rfl⟩
  obtain ⟨da, dc, hdv⟩ := RD.vform h.dn
  rw [← hn] at hdv
  have hnb : n < 2199023255552 := by omega
  obtain ⟨G, hG⟩ : ∃ G, G = w.heap.size := ⟨_, rfl⟩
  obtain ⟨w2, hw2⟩ : ∃ w2, w2 = (w.alloc (.cells (zer NN).toArray 5)).drew := ⟨_, rfl⟩
  have k2 : Chg (fun _ => False) w w2 := by rw [hw2]; exact ((Chg.refl _ _).alloc _).drew
  have R2 : Hid (Rw w2 G (bs (imI z S (fun t => ovD C t (dl.take 0) (zs z)))).toArray 5) := by
    show Rw w2 G (bs (imI z S (fun _ => zs z))).toArray 5
    rw [imI_zero, ← hNN, bs_zs, hw2, hG]
    exact ⟨heap_alloc_new _ _⟩
  have h2 := h.frame k2 (fun _ _ h => h)
  have c0 : w.cell? ⟨q, 0, none⟩ = some (.int .i64 S) := h.row.cell 0
  have c1 : w.cell? ⟨q, 1, none⟩ = some (.int .i64 z) := h.row.cell 1
  have e0 : w2.cell? ⟨q, 0, none⟩ = some (.int .i64 S) := h2.row.cell 0
  have e1 : w2.cell? ⟨q, 1, none⟩ = some (.int .i64 z) := h2.row.cell 1
  have e2 : w2.cell? ⟨q, 2, none⟩ = some (.slice none 0 0) := h2.row.cell 2
  have hqG : q < G := by rw [hG]; exact h.row.lt
  have HGL : Hid (∀ d ∈ dl, d.turn = false → d.g < G) := by rw [hG]; exact h.glt.1
  have hdG : Hid (∀ g, dv.ownBlock = some g → g < G) := fun g hg => by rw [hG]; exact h.dn.lt hg
  have H : Hid _ := h
  have H2 : Hid _ := h2
  have K2 : Hid _ := k2
  have HN : Hid _ := hn
  have HNN : Hid _ := hNN
  have HV : Hid _ := hdv
  have hcp := run_copy_nilR
  rw [← hG]
  have HG : Hid _ := hG
  clear h h2 k2 hn hdv hNN
  go_enter Try.func51, Try.ntmps51
  go_upto_region 1 with fail
  refine wp_region_noPanic ?_
  refine wp_region_held_drew (S := fun w' => w'.cell? ⟨q, 0, none⟩ = some (.int .i64 S) ∧ w'.cell? ⟨q, 1, none⟩ = some (.int .i64 z)) (by kernel_rfl) ⟨c0, c1⟩ (fun hH => ?_)
  refine wpAnyH_take (i := 0) (v := .pointer (some ⟨q, 0, none⟩)) rfl (by kernel_rfl) (by kernel_rfl) (by kernel_rfl) (fun _ _ _ h => h) (Or.inl ⟨by rfl, fun w' hw' => by go_simp⟩) hH ?_
  refine wpAnyH_take (i := 1) (v := .pointer (some ⟨q, 0, none⟩)) rfl (by kernel_rfl) (by kernel_rfl) (by kernel_rfl) (fun _ _ _ h => h) (Or.inl ⟨by rfl, fun w' hw' => by go_simp⟩) hH ?_
  refine wpAnyH_take (i := 2) (v := .pointer (some ⟨q, 0, none⟩)) rfl (by kernel_rfl) (by kernel_rfl) (by kernel_rfl) (fun _ _ _ h => h) (Or.inl ⟨by rfl, fun w' hw' => by go_simp⟩) hH ?_
  refine wpAnyH_take (i := 3) (v := .int .i64 S) rfl (by kernel_rfl) (by kernel_rfl) (by kernel_rfl) (fun _ _ _ h => h) (Or.inl ⟨by rfl, fun w' hw' => by have q1 := hw'.1; go_simp⟩) hH ?_
  refine wpAnyH_take (i := 4) (v := .pointer (some ⟨q, 0, none⟩)) rfl (by kernel_rfl) (by kernel_rfl) (by kernel_rfl) (fun _ _ _ h => h) (Or.inl ⟨by rfl, fun w' hw' => by go_simp⟩) hH ?_
  refine wpAnyH_take (i := 5) (v := .pointer (some ⟨q, 0, none⟩)) rfl (by kernel_rfl) (by kernel_rfl) (by kernel_rfl) (fun _ _ _ h => h) (Or.inl ⟨by rfl, fun w' hw' => by go_simp⟩) hH ?_
  refine wpAnyH_take (i := 6) (v := .pointer (some ⟨q, 1, none⟩)) rfl (by kernel_rfl) (by kernel_rfl) (by kernel_rfl) (fun _ _ _ h => h) (Or.inl ⟨by rfl, fun w' hw' => by go_simp⟩) hH ?_
  refine wpAnyH_take (i := 7) (v := .int .i64 z) rfl (by kernel_rfl) (by kernel_rfl) (by kernel_rfl) (fun _ _ _ h => h) (Or.inl ⟨by rfl, fun w' hw' => by have q1 := hw'.2; go_simp⟩) hH ?_
  refine wpAnyH_take (i := 8) (v := .int .i64 NN) rfl (by kernel_rfl) (by kernel_rfl) (by kernel_rfl) (fun _ _ _ h => h) (Or.inl ⟨by rfl, fun w' _ => by go_simp; exact IntWalk.i64_in _ (by omega)⟩) hH ?_
  refine wpAnyH_ready (rs := [9]) (by kernel_rfl) (by simp) ?_
  refine AllReadyH.cons rfl (fun KK hKK => ?_) AllReadyH.nil
  go_simp
  rw [← hw2, ← hG]
  clear hw2 hG
  refine hKK.out _ _ ⟨e0, e1⟩ (fun hS2 => ?_)
  clear hKK KK
  refine wpAnyH_ready (rs := [10]) (by kernel_rfl) (by simp) ?_
  refine AllReadyH.cons rfl (fun KK hKK => ?_) AllReadyH.nil
  go_simp
  refine hKK.out _ _ hS2 (fun _ => ?_)
  clear hKK KK
  refine wpAnyH_done (by kernel_rfl) (NoPanic.normal ?_) _
  clear hH hS2 hmk c0 c1 e0 e1
  go_wp2_with fail
  clear e2 hcp
  go_loopw [4] (fun i wr => ∃ k : Nat, k ≤ n ∧ i = .int .i64 k ∧ Hid (OI w2 wr G NN (imI z S (fun t => ovD C t (dl.take k) (zs z))))) (fun i _ => n - (intOf i).toNat)
  case atStart => exact ⟨0, Nat.zero_le _, rfl, Chg.refl _ _, R2.out, by rw [imI_len, HNN.out]⟩
  case round =>
    obtain ⟨k, hk, rfl, hid⟩ := hrel
    have q3 : wr.cell? ⟨q, 3, none⟩ = some (.slice da n dc) := by rw [← HV.out]; exact hid.out.1.cell_some (H2.out.row.cell 3) (fun e => Nat.ne_of_lt hqG e)
    by_cases hlt : k < n
    · obtain ⟨d, hd⟩ : ∃ d, dl[k]? = some d := ⟨dl[k]'(by have := HN.out; omega), List.getElem?_eq_getElem _⟩
      obtain ⟨g, c, e, hcl⟩ := H2.out.dn.cell hd
      rw [HV.out] at e
      injection e with e1 e2 e3
      subst e1
      clear e2 e3
      have hdm := List.mem_of_getElem? hd
      have hgG : g < G := hdG.out g (by rw [HV.out]; rfl)
      obtain ⟨ch, rB, lB⟩ := hid.out
      have hkc : ∀ j u, (d.cells z)[j]? = some u → wr.cell? ⟨g, k * 6 + j, none⟩ = some u := fun j u hu => ch.cell_some (hcl j u hu) (fun e => Nat.ne_of_lt hgG e)
      obtain ⟨T, hT⟩ : ∃ T, T = (fun t => ovD C t (dl.take k) (zs z)) := ⟨_, rfl⟩
      have hE := ovD_fun C dl (zs z) hd
      have hTl : (T d.s).length = z := by rw [hT]; exact ovD_len _ _ (by simp [zs]) (fun d hd => H2.out.dbl d (List.mem_of_mem_take hd))
      rw [← hT] at rB lB
      have hE : (fun t => ovD C t (dl.take (k + 1)) (zs z)) = updT T d.s (if d.turn then rotL d.at_ d.mask (T d.s) else over (C d.g) (T d.s) d.n) := by rw [hE, hT]
      have hdb := H2.out.db d hdm
      have hdt := H2.out.dt d hdm
      have hds := H2.out.ds d hdm
      have hdG := HGL.out d hdm
      obtain ⟨ds, dg, dcp, dn, tn, dat, dm⟩ := d
      simp only [Dd.cells, Dd.bv] at hkc
      simp only at hE hTl hdt hds
      obtain ⟨F0, hF0⟩ : ∃ F0, F0 = ds * z := ⟨_, rfl⟩
      have hF : (ds : Int) * (z : Int) = (F0 : Int) := by rw [hF0, Int.natCast_mul]
      have hFb : F0 + z ≤ NN := by
        have h1 : (ds + 1) * z ≤ S * z := Nat.mul_le_mul_right z hds
        rw [Nat.add_mul, Nat.one_mul, ← HNN.out, ← hF0] at h1
        exact h1
      have k0 : wr.cell? ⟨g, k * 6, none⟩ = some (.int .i64 ds) := hkc 0 _ rfl
      have k2 : wr.cell? ⟨g, k * 6 + 2, none⟩ = some (.int .i64 dn) := hkc 2 _ rfl
      have k3 : wr.cell? ⟨g, k * 6 + 3, none⟩ = some (.bool tn) := hkc 3 _ rfl
      have k4 : wr.cell? ⟨g, k * 6 + 4, none⟩ = some (.int .i64 dat) := hkc 4 _ rfl
      have k5 : wr.cell? ⟨g, k * 6 + 5, none⟩ = some (.int .u8 dm) := hkc 5 _ rfl
      have k1 := hkc 1 _ rfl
      have hGw : G < wr.heap.size := rB.lt
      have q1w : wr.cell? ⟨q, 1, none⟩ = some (.int .i64 z) := ch.cell_some (H2.out.row.cell 1) (fun e => Nat.ne_of_lt hqG e)
      obtain ⟨X, hX⟩ : ∃ X, X = wr.heap.size := ⟨_, rfl⟩
      have HF0 : Hid _ := hF0
      have HE : Hid _ := hE
      have HTL : Hid _ := hTl
      have LB : Hid _ := lB
      clear hkc hcl hid hd hdm hT hF0 hE hTl lB
      cases tn with
      | true =>
        have k1' : wr.cell? ⟨g, k * 6 + 1, none⟩ = some (.slice none 0 0) := k1
        obtain ⟨w3, hw3⟩ : ∃ w3, w3 = wr.alloc (.cells #[.int .i64 ds, .slice none 0 0, .int .i64 dn, .bool true, .int .i64 dat, .int .u8 dm] 110) := ⟨_, rfl⟩
        have X3 : w3.heap[X]? = some (.cells #[.int .i64 ds, .slice none 0 0, .int .i64 dn, .bool true, .int .i64 dat, .int .u8 dm] 110 (0, 0)) := by rw [hw3, hX]; exact heap_alloc_new _ _
        have CH3 : Hid (Chg (fun i => i = G) w2 w3) := by rw [hw3]; exact ch.alloc _
        have RB3 : Hid (Rw w3 G (bs (imI z S T)).toArray 5) := by rw [hw3]; exact rB.alloc _
        have HDB : Hid _ := hdb
        have HDT : Hid _ := hdt
        have HDG : Hid _ := hdG
        clear ch rB hdb hdt hdG
        have q13 : w3.cell? ⟨q, 1, none⟩ = some (.int .i64 z) := by rw [hw3]; exact ((Chg.refl (fun _ => False) wr).alloc _).cell_some q1w (fun h => h)
        have hXG : G < X := by rw [hX]; exact hGw
        have hXq : q < X := by omega
        clear k1 q1w
        go_upto_region 7 with fail
        rw [← hw3, ← hX]
        clear hw3 hX k0 k1' k2 k3 k4 k5
        have q13d : w3.drew.cell? ⟨q, 1, none⟩ = some (.int .i64 z) := q13
        have X3d : w3.drew.heap[X]? = some (.cells #[.int .i64 ds, .slice none 0 0, .int .i64 dn, .bool true, .int .i64 dat, .int .u8 dm] 110 (0, 0)) := X3
        refine wp_region_noPanic ?_
        refine wp_region_held_drew (S := fun w' => w'.heap[X]? = some (.cells #[.int .i64 ds, .slice none 0 0, .int .i64 dn, .bool true, .int .i64 dat, .int .u8 dm] 110 (0, 0)) ∧ w'.cell? ⟨q, 1, none⟩ = some (.int .i64 z)) (by kernel_rfl) ⟨X3, q13⟩ (fun hH => ?_)
        refine wpAnyH_take (i := 0) (v := .pointer (some ⟨X, 0, none⟩)) rfl (by kernel_rfl) (by kernel_rfl) (by kernel_rfl) (fun _ _ _ h => h) (Or.inl ⟨by rfl, fun w' hw' => by go_simp⟩) hH ?_
        refine wpAnyH_take (i := 1) (v := .int .i64 ds) rfl (by kernel_rfl) (by kernel_rfl) (by kernel_rfl) (fun _ _ _ h => h) (Or.inl ⟨by rfl, fun w' hw' => by have q1 := (cell_of_row _ X 0 _ _ _ hw'.1 : w'.cell? ⟨X, 0, none⟩ = some (.int .i64 ds)); go_simp⟩) hH ?_
        refine wpAnyH_take (i := 2) (v := .pointer (some ⟨q, 0, none⟩)) rfl (by kernel_rfl) (by kernel_rfl) (by kernel_rfl) (fun _ _ _ h => h) (Or.inl ⟨by rfl, fun w' hw' => by go_simp⟩) hH ?_
        refine wpAnyH_take (i := 3) (v := .pointer (some ⟨q, 0, none⟩)) rfl (by kernel_rfl) (by kernel_rfl) (by kernel_rfl) (fun _ _ _ h => h) (Or.inl ⟨by rfl, fun w' hw' => by go_simp⟩) hH ?_
        refine wpAnyH_take (i := 4) (v := .pointer (some ⟨q, 1, none⟩)) rfl (by kernel_rfl) (by kernel_rfl) (by kernel_rfl) (fun _ _ _ h => h) (Or.inl ⟨by rfl, fun w' hw' => by go_simp⟩) hH ?_
        refine wpAnyH_take (i := 5) (v := .int .i64 z) rfl (by kernel_rfl) (by kernel_rfl) (by kernel_rfl) (fun _ _ _ h => h) (Or.inl ⟨by rfl, fun w' hw' => by have q1 := hw'.2; go_simp⟩) hH ?_
        refine wpAnyH_take (i := 6) (v := .int .i64 F0) rfl (by kernel_rfl) (by kernel_rfl) (by kernel_rfl) (fun _ _ _ h => h) (Or.inl ⟨by rfl, fun w' _ => by go_simp; exact IntWalk.i64_in _ (by omega)⟩) hH ?_
        refine wpAnyH_ready (rs := [7]) (by kernel_rfl) (by simp) ?_
        refine AllReadyH.cons rfl (fun KK hKK => ?_) AllReadyH.nil
        go_simp
        refine hKK.out _ _ hH (fun _ => ?_)
        clear hKK KK
        refine wpAnyH_done (by kernel_rfl) (NoPanic.normal ?_) _
        clear hH
        have hat : dat < z := HDT.out rfl
        have hF0 := HF0.out
        have hE := HE.out
        have hTl := HTL.out
        have lB := LB.out
        have ch3 := CH3.out
        have rB3 := RB3.out
        have x3 : w3.drew.cell? ⟨X, 3, none⟩ = some (.bool true) := cell_of_row _ _ _ _ _ _ X3
        have hlk : F0 + dat < (imI z S T).length := by rw [lB]; omega
        obtain ⟨bv, hbv⟩ : ∃ bv, bv = (imI z S T)[F0 + dat]'hlk := ⟨_, rfl⟩
        obtain ⟨P0, hP0⟩ : ∃ P0, P0 = F0 + dat := ⟨_, rfl⟩
        have hP : (F0 : Int) + (dat : Int) = (P0 : Int) := by rw [hP0]; omega
        have hPb : P0 < NN := by omega
        have dY : w3.drew.cell? ⟨G, P0, none⟩ = some (.int .u8 bv) := by
          show w3.cell? _ = _
          rw [hbv, hP0, Rw.cell rB3 (F0 + dat), List.getElem?_toArray, bs_get _ _ hlk]
        have fY : w3.drew.frozen? ⟨G, P0, none⟩ = false := rB3.fr P0
        have S1 : ∀ v', (w3.drew.setCell ⟨G, P0, none⟩ (.int .u8 v')).heap[X]? = some (.cells #[.int .i64 ds, .slice none 0 0, .int .i64 dn, .bool true, .int .i64 dat, .int .u8 dm] 110 (0, 0)) := fun v' => ((Chg.refl (fun i => i = G) w3.drew).setCell (.inl rfl) _).heap_some X3d (fun e => by omega)
        have K5 : Hid (∀ v', v' = bits BinOp.xor IntKind.u8 bv dm → OI w2 (w3.drew.setCell ⟨G, P0, none⟩ (.int .u8 v')).drew G NN (imI z S (fun t => ovD C t (dl.take (k + 1)) (zs z)))) := fun v' hv' => by
          have e : imI z S (fun t => ovD C t (dl.take (k + 1)) (zs z)) = (imI z S T).set P0 v' := by
            have hget := imI_get (z := z) (S := S) (T := T) (j := ds * z + dat) (by rw [← HNN.out, ← hF0]; omega)
            obtain ⟨p1, p2⟩ := place (s := ds) hat
            rw [p1, p2, ← hF0, List.getElem?_eq_getElem hlk, ← hbv] at hget
            injection hget with hget
            rw [hE, if_pos rfl, hP0, hF0, imI_set hds hat hTl, hv', hget]
            rfl
          rw [e]
          refine ⟨((ch3.drew).trans ((Chg.refl (fun i => i = G) w3.drew).setCell (.inl rfl) _) (fun _ e => .inl e)).drew, ⟨?_⟩, by rw [List.length_set]; exact lB⟩
          have rd : Rw w3.drew G (bs (imI z S T)).toArray 5 := ⟨rB3.eq⟩
          have := Rw.set rd P0 (.int .u8 v')
          rw [set_bs] at this
          exact this.eq
        clear ch3 rB3 hbv hE hTl lB hlk q13 X3 hF0 hP0 HE HF0 HTL LB CH3 RB3 HDB HDT HDG hF
        go_upto_region 9 with fail
        refine wp_region_noPanic ?_
        refine wp_region_held_drew (S := fun w' => w'.heap[X]? = some (.cells #[.int .i64 ds, .slice none 0 0, .int .i64 dn, .bool true, .int .i64 dat, .int .u8 dm] 110 (0, 0))) (by kernel_rfl) X3d (fun hH => ?_)
        refine wpAnyH_take (i := 0) (v := .slice (some ⟨G, 0, none⟩) NN NN) rfl (by kernel_rfl) (by kernel_rfl) (by kernel_rfl) (fun _ _ _ h => h) (Or.inl ⟨by rfl, fun w' hw' => by go_simp⟩) hH ?_
        refine wpAnyH_take (i := 1) (v := .int .i64 F0) rfl (by kernel_rfl) (by kernel_rfl) (by kernel_rfl) (fun _ _ _ h => h) (Or.inl ⟨by rfl, fun w' hw' => by go_simp⟩) hH ?_
        refine wpAnyH_take (i := 2) (v := .pointer (some ⟨X, 4, none⟩)) rfl (by kernel_rfl) (by kernel_rfl) (by kernel_rfl) (fun _ _ _ h => h) (Or.inl ⟨by rfl, fun w' hw' => by go_simp⟩) hH ?_
        refine wpAnyH_take (i := 3) (v := .int .i64 dat) rfl (by kernel_rfl) (by kernel_rfl) (by kernel_rfl) (fun _ _ _ h => h) (Or.inl ⟨by rfl, fun w' hw' => by have q1 := (cell_of_row _ X 4 _ _ _ hw' : w'.cell? ⟨X, 4, none⟩ = some (.int .i64 dat)); go_simp⟩) hH ?_
        refine wpAnyH_take (i := 4) (v := .int .i64 P0) rfl (by kernel_rfl) (by kernel_rfl) (by kernel_rfl) (fun _ _ _ h => h) (Or.inl ⟨by rfl, fun w' _ => by go_simp; exact IntWalk.i64_in _ (by omega)⟩) hH ?_
        refine wpAnyH_take (i := 5) (v := .slice (some ⟨G, 0, none⟩) NN NN) rfl (by kernel_rfl) (by kernel_rfl) (by kernel_rfl) (fun _ _ _ h => h) (Or.inl ⟨by rfl, fun w' hw' => by go_simp⟩) hH ?_
        refine wpAnyH_take (i := 6) (v := .int .i64 F0) rfl (by kernel_rfl) (by kernel_rfl) (by kernel_rfl) (fun _ _ _ h => h) (Or.inl ⟨by rfl, fun w' hw' => by go_simp⟩) hH ?_
        refine wpAnyH_take (i := 7) (v := .pointer (some ⟨X, 4, none⟩)) rfl (by kernel_rfl) (by kernel_rfl) (by kernel_rfl) (fun _ _ _ h => h) (Or.inl ⟨by rfl, fun w' hw' => by go_simp⟩) hH ?_
        refine wpAnyH_take (i := 8) (v := .int .i64 dat) rfl (by kernel_rfl) (by kernel_rfl) (by kernel_rfl) (fun _ _ _ h => h) (Or.inl ⟨by rfl, fun w' hw' => by have q1 := (cell_of_row _ X 4 _ _ _ hw' : w'.cell? ⟨X, 4, none⟩ = some (.int .i64 dat)); go_simp⟩) hH ?_
        refine wpAnyH_take (i := 9) (v := .int .i64 P0) rfl (by kernel_rfl) (by kernel_rfl) (by kernel_rfl) (fun _ _ _ h => h) (Or.inl ⟨by rfl, fun w' _ => by go_simp; exact IntWalk.i64_in _ (by omega)⟩) hH ?_
        refine wpAnyH_take (i := 10) (v := .pointer (some ⟨G, P0, none⟩)) rfl (by kernel_rfl) (by kernel_rfl) (by kernel_rfl) (fun _ _ _ h => h) (Or.inl ⟨by rfl, fun w' hw' => by go_simp⟩) hH ?_
        refine wpAnyH_take (i := 12) (v := .pointer (some ⟨X, 5, none⟩)) rfl (by kernel_rfl) (by kernel_rfl) (by kernel_rfl) (fun _ _ _ h => h) (Or.inl ⟨by rfl, fun w' hw' => by go_simp⟩) hH ?_
        refine wpAnyH_take (i := 13) (v := .int .u8 dm) rfl (by kernel_rfl) (by kernel_rfl) (by kernel_rfl) (fun _ _ _ h => h) (Or.inl ⟨by rfl, fun w' hw' => by have q1 := (cell_of_row _ X 5 _ _ _ hw' : w'.cell? ⟨X, 5, none⟩ = some (.int .u8 dm)); go_simp⟩) hH ?_
        refine wpAnyH_ready (rs := [11]) (by kernel_rfl) (by simp) ?_
        refine AllReadyH.cons rfl (fun KK hKK => ?_) AllReadyH.nil
        go_simp
        refine hKK.out _ _ hH (fun h1 => ?_)
        clear hKK KK
        refine wpAnyH_take (i := 14) (v := .int .u8 (bits BinOp.xor IntKind.u8 bv dm)) rfl (by kernel_rfl) (by kernel_rfl) (by kernel_rfl) (fun _ _ _ h => h) (Or.inl ⟨by rfl, fun w' hw' => by go_simp⟩) hH ?_
        refine wpAnyH_take (i := 15) (v := .pointer (some ⟨G, P0, none⟩)) rfl (by kernel_rfl) (by kernel_rfl) (by kernel_rfl) (fun _ _ _ h => h) (Or.inl ⟨by rfl, fun w' hw' => by go_simp⟩) hH ?_
        refine wpAnyH_ready (rs := [16]) (by kernel_rfl) (by simp) ?_
        refine AllReadyH.cons rfl (fun KK hKK => ?_) AllReadyH.nil
        go_simp
        refine hKK.out _ _ (S1 _) (fun _ => ?_)
        clear hKK KK
        refine wpAnyH_done (by kernel_rfl) (NoPanic.normal ?_) _
        clear h1 hH dY fY S1 X3d
        go_wp2_with fail
        go_roundw
        case rel => exact ⟨k + 1, by omega, by go_num, K5.out _ rfl⟩
        case measure => simp [intOf]; omega
      | false =>
        have k1' : wr.cell? ⟨g, k * 6 + 1, none⟩ = some (.slice (some ⟨dg, 0, none⟩) z dcp) := k1
        obtain ⟨w3, hw3⟩ : ∃ w3, w3 = wr.alloc (.cells #[.int .i64 ds, .slice (some ⟨dg, 0, none⟩) z dcp, .int .i64 dn, .bool false, .int .i64 dat, .int .u8 dm] 110) := ⟨_, rfl⟩
        have X3 : w3.heap[X]? = some (.cells #[.int .i64 ds, .slice (some ⟨dg, 0, none⟩) z dcp, .int .i64 dn, .bool false, .int .i64 dat, .int .u8 dm] 110 (0, 0)) := by rw [hw3, hX]; exact heap_alloc_new _ _
        have CH3 : Hid (Chg (fun i => i = G) w2 w3) := by rw [hw3]; exact ch.alloc _
        have RB3 : Hid (Rw w3 G (bs (imI z S T)).toArray 5) := by rw [hw3]; exact rB.alloc _
        have HDB : Hid _ := hdb
        have HDT : Hid _ := hdt
        have HDG : Hid _ := hdG
        clear ch rB hdb hdt hdG
        have q13 : w3.cell? ⟨q, 1, none⟩ = some (.int .i64 z) := by rw [hw3]; exact ((Chg.refl (fun _ => False) wr).alloc _).cell_some q1w (fun h => h)
        have hXG : G < X := by rw [hX]; exact hGw
        have hXq : q < X := by omega
        clear k1 q1w
        go_upto_region 7 with fail
        rw [← hw3, ← hX]
        clear hw3 hX k0 k1' k2 k3 k4 k5
        have q13d : w3.drew.cell? ⟨q, 1, none⟩ = some (.int .i64 z) := q13
        have X3d : w3.drew.heap[X]? = some (.cells #[.int .i64 ds, .slice (some ⟨dg, 0, none⟩) z dcp, .int .i64 dn, .bool false, .int .i64 dat, .int .u8 dm] 110 (0, 0)) := X3
        refine wp_region_noPanic ?_
        refine wp_region_held_drew (S := fun w' => w'.heap[X]? = some (.cells #[.int .i64 ds, .slice (some ⟨dg, 0, none⟩) z dcp, .int .i64 dn, .bool false, .int .i64 dat, .int .u8 dm] 110 (0, 0)) ∧ w'.cell? ⟨q, 1, none⟩ = some (.int .i64 z)) (by kernel_rfl) ⟨X3, q13⟩ (fun hH => ?_)
        refine wpAnyH_take (i := 0) (v := .pointer (some ⟨X, 0, none⟩)) rfl (by kernel_rfl) (by kernel_rfl) (by kernel_rfl) (fun _ _ _ h => h) (Or.inl ⟨by rfl, fun w' hw' => by go_simp⟩) hH ?_
        refine wpAnyH_take (i := 1) (v := .int .i64 ds) rfl (by kernel_rfl) (by kernel_rfl) (by kernel_rfl) (fun _ _ _ h => h) (Or.inl ⟨by rfl, fun w' hw' => by have q1 := (cell_of_row _ X 0 _ _ _ hw'.1 : w'.cell? ⟨X, 0, none⟩ = some (.int .i64 ds)); go_simp⟩) hH ?_
        refine wpAnyH_take (i := 2) (v := .pointer (some ⟨q, 0, none⟩)) rfl (by kernel_rfl) (by kernel_rfl) (by kernel_rfl) (fun _ _ _ h => h) (Or.inl ⟨by rfl, fun w' hw' => by go_simp⟩) hH ?_
        refine wpAnyH_take (i := 3) (v := .pointer (some ⟨q, 0, none⟩)) rfl (by kernel_rfl) (by kernel_rfl) (by kernel_rfl) (fun _ _ _ h => h) (Or.inl ⟨by rfl, fun w' hw' => by go_simp⟩) hH ?_
        refine wpAnyH_take (i := 4) (v := .pointer (some ⟨q, 1, none⟩)) rfl (by kernel_rfl) (by kernel_rfl) (by kernel_rfl) (fun _ _ _ h => h) (Or.inl ⟨by rfl, fun w' hw' => by go_simp⟩) hH ?_
        refine wpAnyH_take (i := 5) (v := .int .i64 z) rfl (by kernel_rfl) (by kernel_rfl) (by kernel_rfl) (fun _ _ _ h => h) (Or.inl ⟨by rfl, fun w' hw' => by have q1 := hw'.2; go_simp⟩) hH ?_
        refine wpAnyH_take (i := 6) (v := .int .i64 F0) rfl (by kernel_rfl) (by kernel_rfl) (by kernel_rfl) (fun _ _ _ h => h) (Or.inl ⟨by rfl, fun w' _ => by go_simp; exact IntWalk.i64_in _ (by omega)⟩) hH ?_
        refine wpAnyH_ready (rs := [7]) (by kernel_rfl) (by simp) ?_
        refine AllReadyH.cons rfl (fun KK hKK => ?_) AllReadyH.nil
        go_simp
        refine hKK.out _ _ hH (fun _ => ?_)
        clear hKK KK
        refine wpAnyH_done (by kernel_rfl) (NoPanic.normal ?_) _
        clear hH
        obtain ⟨od, ld, hnz⟩ := HDB.out rfl
        have hgG2 := HDG.out rfl
        have hF0 := HF0.out
        have hE := HE.out
        have hTl := HTL.out
        have lB := LB.out
        have ch3 := CH3.out
        have rB3 := RB3.out
        simp only at ld hnz hgG2
        have x3 : w3.drew.cell? ⟨X, 3, none⟩ = some (.bool false) := cell_of_row _ _ _ _ _ _ X3
        obtain ⟨P0, hP0⟩ : ∃ P0, P0 = F0 + dn := ⟨_, rfl⟩
        have hP : (F0 : Int) + (dn : Int) = (P0 : Int) := by rw [hP0]; omega
        have ow : Own w3 (.slice (some ⟨dg, 0, none⟩) z dcp) (C dg) := Own.kept od ch3 (fun k hk e => by have : some dg = some k := hk; injection this with this; omega)
        have hcpy := run_copy_row (P := Try.prog) w3.drew.drew 48 48 3 5 G F0 dn (NN - F0) ⟨dg, 0, none⟩ z dcp (bs (imI z S T)).toArray 5 (bs ((C dg).take dn)) Try.underlying48 (by kernel_rfl) rB3.eq (by rw [bs_len, List.length_take, ld, Nat.min_eq_left hnz]; exact (Nat.min_eq_right hnz).symm) (fun j v hv => by
          have := World.ownsRow.cells ow (g := dg) rfl j v (bs_take hv)
          exact this) (by simp [bs_len, lB, ld]; omega) (bs_one _)
        obtain ⟨w4, hw4⟩ : ∃ w4, w4 = w3.drew.drew.setRow G ((bs (imI z S T)).toArray.toList.take F0 ++ bs ((C dg).take dn) ++ (bs (imI z S T)).toArray.toList.drop (F0 + (bs ((C dg).take dn)).length)).toArray := ⟨_, rfl⟩
        rw [← hw4] at hcpy
        have c4 : Chg (fun i => i = G) w3.drew.drew w4 := by rw [hw4]; exact setRow_chg _ _ _
        have r4 : Rw w4 G (bs (imI z S (fun t => ovD C t (dl.take (k + 1)) (zs z)))).toArray 5 := by
          rw [hE, if_neg (by decide), ← imI_lay hds hTl ld dn hnz, hw4]
          have := setRow_heap w3.drew.drew G _ ((bs (imI z S T)).toArray.toList.take F0 ++ bs ((C dg).take dn) ++ (bs (imI z S T)).toArray.toList.drop (F0 + (bs ((C dg).take dn)).length)).toArray 5 _ rB3.eq
          refine ⟨?_⟩
          rw [← hF0]
          simpa [splice, bs] using this
        have X4 : w4.heap[X]? = some (.cells #[.int .i64 ds, .slice (some ⟨dg, 0, none⟩) z dcp, .int .i64 dn, .bool false, .int .i64 dat, .int .u8 dm] 110 (0, 0)) := c4.heap_some X3d (fun e => by omega)
        have K5 : Hid (OI w2 w4 G NN (imI z S (fun t => ovD C t (dl.take (k + 1)) (zs z)))) := ⟨ch3.drew.drew.trans c4 (fun _ e => .inl e), r4, by rw [imI_len, HNN.out]⟩
        have HC : Hid _ := hcpy
        have HLD : Hid _ := ld
        clear ch3 rB3 hE hTl lB od q13 X3 hw4 c4 r4 hcpy ow hF0 hP0 HE HF0 HTL LB CH3 RB3 HDB HDT HDG hF ld
        have hs1 : (F0 : Int) ≤ (P0 : Int) := by omega
        have hs2 : (P0 : Int) ≤ (NN : Int) := by omega
        have hs3 : P0 - F0 = dn := by omega
        go_upto_region 10 with fail
        refine wp_region_noPanic ?_
        refine wp_region_held_drew (S := fun w' => w'.heap[X]? = some (.cells #[.int .i64 ds, .slice (some ⟨dg, 0, none⟩) z dcp, .int .i64 dn, .bool false, .int .i64 dat, .int .u8 dm] 110 (0, 0))) (by kernel_rfl) X3d (fun hH => ?_)
        refine wpAnyH_take (i := 0) (v := .slice (some ⟨G, 0, none⟩) NN NN) rfl (by kernel_rfl) (by kernel_rfl) (by kernel_rfl) (fun _ _ _ h => h) (Or.inl ⟨by rfl, fun w' hw' => by go_simp⟩) hH ?_
        refine wpAnyH_take (i := 1) (v := .int .i64 F0) rfl (by kernel_rfl) (by kernel_rfl) (by kernel_rfl) (fun _ _ _ h => h) (Or.inl ⟨by rfl, fun w' hw' => by go_simp⟩) hH ?_
        refine wpAnyH_take (i := 2) (v := .int .i64 F0) rfl (by kernel_rfl) (by kernel_rfl) (by kernel_rfl) (fun _ _ _ h => h) (Or.inl ⟨by rfl, fun w' hw' => by go_simp⟩) hH ?_
        refine wpAnyH_take (i := 3) (v := .pointer (some ⟨X, 2, none⟩)) rfl (by kernel_rfl) (by kernel_rfl) (by kernel_rfl) (fun _ _ _ h => h) (Or.inl ⟨by rfl, fun w' hw' => by go_simp⟩) hH ?_
        refine wpAnyH_take (i := 4) (v := .int .i64 dn) rfl (by kernel_rfl) (by kernel_rfl) (by kernel_rfl) (fun _ _ _ h => h) (Or.inl ⟨by rfl, fun w' hw' => by have q1 := (cell_of_row _ X 2 _ _ _ hw' : w'.cell? ⟨X, 2, none⟩ = some (.int .i64 dn)); go_simp⟩) hH ?_
        refine wpAnyH_take (i := 5) (v := .int .i64 P0) rfl (by kernel_rfl) (by kernel_rfl) (by kernel_rfl) (fun _ _ _ h => h) (Or.inl ⟨by rfl, fun w' _ => by go_simp; exact IntWalk.i64_in _ (by omega)⟩) hH ?_
        refine wpAnyH_take (i := 6) (v := .slice (some ⟨G, F0, none⟩) dn (NN - F0)) rfl (by kernel_rfl) (by kernel_rfl) (by kernel_rfl) (fun _ _ _ h => h) (Or.inl ⟨by rfl, fun w' hw' => by go_simp; omega⟩) hH ?_
        refine wpAnyH_take (i := 7) (v := .pointer (some ⟨X, 1, none⟩)) rfl (by kernel_rfl) (by kernel_rfl) (by kernel_rfl) (fun _ _ _ h => h) (Or.inl ⟨by rfl, fun w' hw' => by go_simp⟩) hH ?_
        refine wpAnyH_take (i := 8) (v := .slice (some ⟨dg, 0, none⟩) z dcp) rfl (by kernel_rfl) (by kernel_rfl) (by kernel_rfl) (fun _ _ _ h => h) (Or.inl ⟨by rfl, fun w' hw' => by have q1 := (cell_of_row _ X 1 _ _ _ hw' : w'.cell? ⟨X, 1, none⟩ = some (.slice (some ⟨dg, 0, none⟩) z dcp)); go_simp⟩) hH ?_
        refine wpAnyH_ready (rs := [9]) (by kernel_rfl) (by simp) ?_
        refine AllReadyH.cons rfl (fun KK hKK => ?_) AllReadyH.nil
        refine step_copyR rfl (.tmp 70) (.tmp 72) rfl (v := .slice (some ⟨G, F0, none⟩) dn (NN - F0)) (u := .slice (some ⟨dg, 0, none⟩) z dcp) (by kernel_rfl) (by kernel_rfl) HC.out ?_
        refine hKK.out _ _ X4 (fun _ => ?_)
        clear hKK KK
        refine wpAnyH_done (by kernel_rfl) (NoPanic.normal ?_) _
        clear hH X4 X3d
        go_wp2_with fail
        go_roundw
        case rel => exact ⟨k + 1, by omega, by go_num, K5.out⟩
        case measure => simp [intOf]; omega
    · have hkn : k = n := by omega
      subst hkn
      have R : Hid (OI w2 wr G NN (imI z S (fun t => ovD C t dl (zs z)))) := by
        have := hid.out
        rwa [List.take_of_length_le (by have := HN.out; omega)] at this
      clear hid
      go_wp2_with fail
      go_ret
      exact ⟨rfl, K2.out.trans R.out.1 (fun i e => .inr (by have := HG.out; omega)), R.out.2.1⟩
end
end Go.Proofs.Ytddnecfnjnipjaa
