/-
  The reference's sure and Read.
-/
import Derived.Test.YtddnecfnjnipjaaRfH
namespace Go.Proofs.Ytddnecfnjnipjaa
open Go.RowKit

/-- What the cache makes of a sector. -/
def caD (C : Nat → List Int) (t : Nat) (cl : List Dd) (b : List Int) : List Int := cl.foldl (fun b d => if d.s = t then C d.g else b) b
theorem caD_take (C : Nat → List Int) (t : Nat) (cl : List Dd) (b : List Int) {k : Nat} {d : Dd} (h : cl[k]? = some d) : caD C t (cl.take (k + 1)) b = if d.s = t then C d.g else caD C t (cl.take k) b := by
  rw [List.take_add_one, h]
  unfold caD
  rw [show (some d).toList = [d] from rfl, List.foldl_append]
  rfl

section
variable {w w' : World} {q S z b : Nat} {y : RN} {dl cl : List Dd} {dv cv : Value} {C : Nat → List Int}

theorem RD.dbl (h : RD w q S z b y dl cl dv cv C) : ∀ d ∈ dl, d.turn = false → (C d.g).length = z ∧ d.n ≤ z := fun d hd ht => (h.db d hd ht).2
theorem RD.glt (h : RD w q S z b y dl cl dv cv C) : (∀ d ∈ dl, d.turn = false → d.g < w.heap.size) ∧ ∀ d ∈ cl, d.g < w.heap.size :=
  ⟨fun d hd ht => Own.lt (h.db d hd ht).1 (Dd.own ht), fun d hd => Own.lt (h.cb d hd).2.2.1 (Dd.own (h.cb d hd).1)⟩
theorem RD.blt (h : RD w q S z b y dl cl dv cv C) {g : Nat} (hg : RD.blk q dl cl dv cv g) : g < w.heap.size := by
  rcases hg with e | e | e | ⟨d, hd, ht, e⟩ | ⟨d, hd, e⟩
  · rw [e]; exact h.row.lt
  · exact h.dn.lt e
  · exact h.cn.lt e
  · rw [← e]; exact h.glt.1 d hd ht
  · rw [← e]; exact h.glt.2 d hd

set_option maxRecDepth 100000 in
set_option maxHeartbeats 4000000 in
theorem RD.sure_any (h : RD w q S z b y dl cl dv cv C) (hb : b < 2199023255552) (hz : z ≤ 4096) (t : Nat) :
    Calls Try.prog 79 #[.pointer (some ⟨q, 0, none⟩), .int .i64 t] w fun e w' => e = .returned (.slice (some ⟨w.heap.size, 0, none⟩) z z) ∧ Chg (fun _ => False) w w' ∧ Rw w' w.heap.size (bs (ovD C t dl (zs z))).toArray 5 := by
  have c1 : w.cell? ⟨q, 1, none⟩ = some (.int .i64 z) := h.row.cell 1
  have hmk := run_mk z (by omega)
  obtain ⟨w1, hw1⟩ : ∃ w1, w1 = w.alloc (.cells (zer z).toArray 5) := ⟨_, rfl⟩
  have k1 : Chg (fun _ => False) w w1 := by rw [hw1]; exact (Chg.refl _ _).alloc _
  have h1 := h.frame k1 (fun _ _ h => h)
  have r1 : Rw w1 w.heap.size (bs (zs z)).toArray 5 := by rw [hw1, bs_zs]; exact ⟨heap_alloc_new _ _⟩
  have d2 : w1.cell? ⟨q, 2, none⟩ = some (.slice none 0 0) := h1.row.cell 2
  have d3 : w1.cell? ⟨q, 3, none⟩ = some dv := h1.row.cell 3
  have OV : Hid _ := h1.over_any hb hz r1 (by simp [zs]) (fun d hd ht e => by have := h.glt.1 d hd ht; omega) t
  have K1 : Hid _ := k1
  clear h h1 r1 k1
  go_enter Try.func79, Try.ntmps79
  go_upto_region 2 with fail
  rw [← hw1]
  clear hw1 c1 hmk
  go_wp2_with fail
  refine Calls.mono OV.out ?_
  rintro e w2 ⟨rfl, ch, rB, _⟩
  have CH : Hid _ := ch
  have RB : Hid _ := rB
  clear ch rB
  go_wp2_with fail
  go_ret
  exact ⟨rfl, K1.out.trans CH.out (fun i e => .inr (by omega)), RB.out⟩

set_option maxRecDepth 100000 in
set_option maxHeartbeats 4000000 in
theorem RD.readNo (h : RD w q S z b y dl cl dv cv C) (i : Int) (hi : ¬ (0 ≤ i ∧ i < S)) :
    Calls Try.prog 45 #[.pointer (some ⟨q, 0, none⟩), .int .i64 i] w fun e w' => e = .returned (.tuple #[.slice none 0 0, .int .i64 31]) ∧ w' = w := by
  have hhas := rhas_any h.row i
  rw [decide_eq_false hi] at hhas
  have HH : Hid _ := hhas
  clear h hhas
  go_enter Try.func45, Try.ntmps45
  go_wp2_with (go_at_call 58; refine Calls.mono HH.out ?_; rintro e w9 ⟨rfl, h9⟩; subst h9)
  go_ret2
  exact ⟨rfl, rfl⟩

set_option maxRecDepth 100000 in
set_option maxHeartbeats 4000000 in
theorem RD.readOff (h : RD w q S z b y dl cl dv cv C) (i : Int) (hi : 0 ≤ i ∧ i < S) (ho : y.off = true) :
    Calls Try.prog 45 #[.pointer (some ⟨q, 0, none⟩), .int .i64 i] w fun e w' => e = .returned (.tuple #[.slice none 0 0, .int .i64 32]) ∧ w' = w := by
  have hhas := rhas_any h.row i
  rw [decide_eq_true hi] at hhas
  have HH : Hid _ := hhas
  have c7 : w.cell? ⟨q, 7, none⟩ = some (.bool true) := by rw [← ho]; exact h.row.cell 7
  clear h hhas
  go_enter Try.func45, Try.ntmps45
  go_wp2_with (go_at_call 58; refine Calls.mono HH.out ?_; rintro e w9 ⟨rfl, h9⟩; subst h9)
  go_ret2
  exact ⟨rfl, rfl⟩

set_option maxRecDepth 100000 in
set_option maxHeartbeats 8000000 in
theorem RD.read (h : RD w q S z b y dl cl dv cv C) (hb : b < 2199023255552) (hz : z ≤ 4096) (t : Nat) (ht : t < S) (ho : y.off = false) :
    Calls Try.prog 45 #[.pointer (some ⟨q, 0, none⟩), .int .i64 t] w fun e w' => e = .returned (.tuple #[.slice (some ⟨w.heap.size, 0, none⟩) z z, .int .i64 0]) ∧ Chg (fun i => i = q) w w' ∧ RD w' q S z b { y with rd := inc y.rd } dl cl dv cv C ∧ Rw w' w.heap.size (bs (caD C t cl (ovD C t dl (zs z)))).toArray 5 := by
  have hhas := rhas_any h.row (t : Int)
  rw [decide_eq_true ⟨by omega, by omega⟩] at hhas
  have HH : Hid _ := hhas
  have c7 : w.cell? ⟨q, 7, none⟩ = some (.bool false) := by rw [← ho]; exact h.row.cell 7
  have c8 : w.cell? ⟨q, 8, none⟩ = some (.int .u64 y.rd) := h.row.cell 8
  have f8 := h.row.fr 8
  have hlen := h.len
  obtain ⟨n, hn⟩ : ∃ n, n = cl.length := ⟨_, rfl⟩
  obtain ⟨ca, cc, hcv⟩ := RD.vform h.cn
  rw [← hn] at hcv
  have hnb : n < 2199023255552 := by omega
  obtain ⟨G, hG⟩ : ∃ G, G = w.heap.size := ⟨_, rfl⟩
  obtain ⟨w2, hw2⟩ : ∃ w2, w.setCell ⟨q, 8, none⟩ (.int .u64 (inc y.rd)) = w2 := ⟨_, rfl⟩
  have r2 : Rw w2 q (rrow S z dv cv { y with rd := inc y.rd }) 52 := by rw [← hw2]; exact Rw.set h.row 8 (.int .u64 (inc y.rd))
  have k2 : Chg (fun i => i = q) w w2 := by rw [← hw2]; exact (Chg.refl (fun i => i = q) w).setCell (.inl rfl) _
  have s2 : w2.heap.size = G := by rw [← hw2, hG]; simp
  have h2 := h.turn k2 r2
  have SU : Hid _ := h2.sure_any hb hz t
  rw [s2] at SU
  have hw2' : w.setCell ⟨q, 8, none⟩ (.int .u64 (IntKind.u64.wrap (y.rd + 1))) = w2 := hw2
  have HN : Hid _ := hn
  have HV : Hid _ := hcv
  have H2 : Hid _ := h2
  have K2 : Hid _ := k2
  have hGl : ∀ d ∈ cl, d.g < G := fun d hd => by rw [← s2]; exact h2.glt.2 d hd
  have HGL : Hid _ := hGl
  have U0 : Hid ((ovD C t dl (zs z)).length = z) := ovD_len dl _ (by simp [zs]) h.dbl
  have hqG : q < G := by rw [hG]; exact h.row.lt
  rw [← hG]
  clear h hhas hn hcv r2 h2 k2 hw2 hGl hG
  go_enter Try.func45, Try.ntmps45
  go_wp2_with (first | (go_at_call 58; refine Calls.mono HH.out ?_; rintro e w9 ⟨rfl, h9⟩; subst h9) | (go_at_call 79; refine Calls.mono SU.out ?_; rintro e w3 ⟨rfl, k3, r3⟩; have K3 : Hid _ := k3; have R3 : Hid _ := r3; clear k3 r3))
  obtain ⟨u, hu⟩ : ∃ u, u = ovD C t dl (zs z) := ⟨_, rfl⟩
  rw [← hu] at U0 R3
  have HU : Hid _ := hu
  have s2 : Hid _ := s2
  clear hu c7 c8 f8 hw2' SU HH
  have HH3 : Hid (RD w3 q S z b { y with rd := inc y.rd } dl cl dv cv C) := H2.out.frame K3.out (fun _ _ h => h)
  have hlt3 : G < w3.heap.size := R3.out.lt
  go_loopw [7] (fun i wr => ∃ k : Nat, k ≤ n ∧ i = .int .i64 k ∧ Hid (OI w3 wr G z (caD C t (cl.take k) u))) (fun i _ => n - (intOf i).toNat)
  case atStart => exact ⟨0, Nat.zero_le _, rfl, Chg.refl _ _, R3.out, U0.out⟩
  case round =>
    obtain ⟨k, hk, rfl, hid⟩ := hrel
    have q4 : wr.cell? ⟨q, 4, none⟩ = some (.slice ca n cc) := by rw [← HV.out]; exact hid.out.1.cell_some (HH3.out.row.cell 4) (fun e => Nat.ne_of_lt hqG e)
    by_cases hlt : k < n
    · obtain ⟨d, hd⟩ : ∃ d, cl[k]? = some d := ⟨cl[k]'(by have := HN.out; omega), List.getElem?_eq_getElem _⟩
      obtain ⟨g, c, e, hcl⟩ := HH3.out.cn.cell hd
      rw [HV.out] at e
      injection e with e1 e2 e3
      subst e1
      clear e2 e3
      have hdm := List.mem_of_getElem? hd
      have hcb := HH3.out.cb d hdm
      have hgG : g ≠ G := fun e => by
        have ho : cv.ownBlock = some g := by rw [HV.out]; rfl
        have := H2.out.cn.lt ho
        have := s2.out
        omega
      have hkc : ∀ wr, Chg (fun i => i = G) w3 wr → ∀ j u, (d.cells z)[j]? = some u → wr.cell? ⟨g, k * 6 + j, none⟩ = some u := fun wr ch j u hu => ch.cell_some (hcl j u hu) (fun e => hgG e)
      have k0 : wr.cell? ⟨g, k * 6, none⟩ = some (.int .i64 d.s) := hkc wr hid.out.1 0 _ rfl
      have HKC : Hid _ := hkc
      have HCB : Hid _ := hcb
      have HE : Hid _ := caD_take C t cl u hd
      have hdG := HGL.out d hdm
      obtain ⟨m, hm⟩ : ∃ m, m = caD C t (cl.take k) u := ⟨_, rfl⟩
      rw [← hm] at hid HE
      clear hkc hcl hcb hd hdm hm
      by_cases hds : d.s = t
      · have hdse : (d.s : Int) = t := by rw [hds]
        rw [hdse] at k0
        have OI1 : Hid _ := hid.out
        clear hid
        go_wp2_with fail
        go_loopw [8] (fun j wq => ∃ i : Nat, i ≤ z ∧ j = .int .i64 i ∧ Hid (OI w3 wq G z (over (C d.g) m i))) (fun j _ => z - (intOf j).toNat)
        case atStart => exact ⟨0, Nat.zero_le _, rfl, by rw [over_zero]; exact OI1.out⟩
        case round =>
          obtain ⟨i, hi, rfl, hid⟩ := hrel
          obtain ⟨ch, rB, lB⟩ := hid.out
          have p4 : wr.cell? ⟨q, 4, none⟩ = some (.slice (some ⟨g, 0, none⟩) n cc) := by rw [← HV.out]; exact ch.cell_some (HH3.out.row.cell 4) (fun e => Nat.ne_of_lt hqG e)
          have p1 : wr.cell? ⟨q, 1, none⟩ = some (.int .i64 z) := ch.cell_some (HH3.out.row.cell 1) (fun e => Nat.ne_of_lt hqG e)
          have x1 : wr.cell? ⟨g, k * 6 + 1, none⟩ = some (.slice (some ⟨d.g, 0, none⟩) z d.cp) := by
            have := HKC.out wr ch 1 _ rfl
            rwa [show d.bv z = .slice (some ⟨d.g, 0, none⟩) z d.cp by unfold Dd.bv; rw [HCB.out.1]; rfl] at this
          by_cases hin : i < z
          · have od := HCB.out.2.2.1
            have LD' := HCB.out.2.2.2
            have LB' := OI1.out.2.2
            rw [show d.bv z = .slice (some ⟨d.g, 0, none⟩) z d.cp by unfold Dd.bv; rw [HCB.out.1]; rfl] at od
            have ow : Own wr (.slice (some ⟨d.g, 0, none⟩) z d.cp) (C d.g) := Own.kept od ch (fun k hk e => by have : some d.g = some k := hk; injection this with this; omega)
            have dS : wr.cell? ⟨d.g, i, none⟩ = some (.int .u8 ((C d.g)[i]'(by omega))) := ow.byte i (by omega)
            obtain ⟨bv, hbv⟩ : ∃ bv, bv = (C d.g)[i]'(by omega) := ⟨_, rfl⟩
            rw [← hbv] at dS
            have dB : wr.cell? ⟨G, i, none⟩ = some (.int .u8 ((over (C d.g) m i)[i]'(by omega))) := by rw [Rw.cell rB i, List.getElem?_toArray, bs_get _ _ (by omega)]
            obtain ⟨ov, hov⟩ : ∃ ov, ov = (over (C d.g) m i)[i]'(by omega) := ⟨_, rfl⟩
            rw [← hov] at dB
            have fB := rB.fr i
            have c9 : Chg (fun i => i = G) wr (wr.setCell ⟨G, i, none⟩ (.int .u8 bv)) := (Chg.refl (fun i => i = G) wr).setCell (.inl rfl) _
            have K5 : Hid (OI w3 (wr.setCell ⟨G, i, none⟩ (.int .u8 bv)) G z (over (C d.g) m (i + 1))) := by
              refine ⟨ch.trans c9 (fun _ e => .inl e), ?_, ?_⟩
              · have := Rw.set rB i (.int .u8 bv)
                rw [set_bs, hbv, over_succ (by omega) (by omega)] at this
                rw [hbv]
                exact this
              · exact over_len LD' LB' (i + 1) (by omega)
            clear ch rB lB ow od hbv hov c9 hid
            go_wp2_with fail
            go_roundw
            case rel => exact ⟨i + 1, by omega, by go_num, K5.out⟩
            case measure => simp [intOf]; omega
          · have e : i = z := by omega
            have R : Hid (OI w3 wr G z (caD C t (cl.take (k + 1)) u)) := by
              rw [HE.out, if_pos hds, ← over_all HCB.out.2.2.2 OI1.out.2.2, ← e]
              exact ⟨ch, rB, by rw [e]; rw [e] at lB; exact lB⟩
            have hin' : ¬ (i : Int) < (z : Int) := by omega
            clear ch rB lB hid e
            go_wp2_with fail
            go_roundw
            case rel => exact ⟨k + 1, by omega, by go_num, R.out⟩
            case measure => simp [intOf]; omega
      · have hds' : ¬ (d.s : Int) = t := by omega
        have R : Hid (OI w3 wr G z (caD C t (cl.take (k + 1)) u)) := by rw [HE.out, if_neg hds]; exact hid.out
        clear hid
        go_wp2_with fail
        go_roundw
        case rel => exact ⟨k + 1, by omega, by go_num, R.out⟩
        case measure => simp [intOf]; omega
    · have hkn : k = n := by omega
      subst hkn
      have R : Hid (OI w3 wr G z (caD C t cl u)) := by
        have := hid.out
        rwa [List.take_of_length_le (by have := HN.out; omega)] at this
      clear hid
      go_wp2_with fail
      go_ret2
      refine ⟨rfl, ?_, ?_, by rw [← HU.out]; exact R.out.2.1⟩
      · exact (K2.out.trans K3.out (fun _ h => h.elim)).trans R.out.1 (fun i e => .inr (by have := s2.out; have := K2.out.size; omega))
      · exact HH3.out.frame R.out.1 (fun g hg e => by have := H2.out.blt hg; have := s2.out; omega)
end
end Go.Proofs.Ytddnecfnjnipjaa
