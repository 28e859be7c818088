/-
  Rot over both maps.
-/
import Derived.Test.YtddnecfnjnipjaaPend
namespace Go.Proofs.Ytddnecfnjnipjaa
open Go.RowKit Go.RwLone

set_option maxRecDepth 100000 in
set_option maxHeartbeats 2000000 in
theorem rot_no {w : World} {p m c : Nat} {S z : Nat} {x : Nums} (h : Rw w p (dkG S z m c x) 86) (s at_ mask : Int) (hno : ¬ (0 ≤ s ∧ s < S) ∨ ¬ (0 ≤ at_ ∧ at_ < z)) :
    Calls Try.prog 13 #[.pointer (some ⟨p, 0, none⟩), .int .i64 s, .int .i64 at_, .int .u8 mask] w fun e w' => e = .returned (.int .i64 31) ∧ w = w' := by
  have hh := has_row h rfl s
  have c1 : w.cell? ⟨p, 1, none⟩ = some (.int .i64 z) := Rw.cell h 1
  clear h
  by_cases hs : 0 ≤ s ∧ s < S
  · rw [decide_eq_true hs] at hh
    have HH : Hid _ := hh
    clear hh
    have hno : ¬ (0 ≤ at_ ∧ at_ < z) := by
      rcases hno with h | h
      · exact absurd hs h
      · exact h
    by_cases ha : at_ < 0
    · clear hno
      go_enter_defers Try.func13, Try.ntmps13
      go_wp2_with (go_at_call 36; refine Calls.mono HH.out ?_; rintro e w9 ⟨rfl, h9⟩; subst h9)
      exact ⟨_, results_tmp rfl _ _ _, rfl, rfl⟩
    · have hb : (z : Int) ≤ at_ := by omega
      clear hno
      go_enter_defers Try.func13, Try.ntmps13
      go_wp2_with (go_at_call 36; refine Calls.mono HH.out ?_; rintro e w9 ⟨rfl, h9⟩; subst h9)
      exact ⟨_, results_tmp rfl _ _ _, rfl, rfl⟩
  · rw [decide_eq_false hs] at hh
    have HH : Hid _ := hh
    clear hh hno
    go_enter_defers Try.func13, Try.ntmps13
    go_wp2_with (go_at_call 36; refine Calls.mono HH.out ?_; rintro e w9 ⟨rfl, h9⟩; subst h9)
    exact ⟨_, results_tmp rfl _ _ _, rfl, rfl⟩

theorem set_bs (l : List Int) (k : Nat) (v : Int) : ((bs l).toArray).setIfInBounds k (.int .u8 v) = (bs (l.set k v)).toArray := by
  rw [List.setIfInBounds_toArray]
  simp [bs, List.map_set]

/-- A byte's bits turned. -/
def rotL (at_ : Nat) (mask : Int) (l : List Int) : List Int := l.set at_ (bits BinOp.xor IntKind.u8 (l.getD at_ 0) mask)

/-- own, whether there are bytes or not. -/
theorem own_any {w : World} {p m km z : Nat} {K : Nat → Option Nat} {E : DataW Unit} {C : Nat → List Int} {cs : Array Value} (h : Rw w p cs 86) (h8 : cs[8]? = some (.map (some m))) (h1 : cs[1]? = some (.int .i64 z)) (hd : Du w m km z K E) (hmp : m ≠ p) (s : Nat) (hs : s ≤ 65536) (hz : z ≤ 4096) (hk : km ≤ 4398046511104) (hr : ∀ g, K s = some g → Rw w g (bs (C g)).toArray 5 ∧ (C g).length = z) :
    Calls Try.prog 41 #[.pointer (some ⟨p, 0, none⟩), .int .i64 s] w fun e w' => ∃ G l, e = .returned (.slice (some ⟨G, 0, none⟩) z z) ∧ Rw w' G (bs l).toArray 5 ∧ l.length = z ∧ Chg (fun i => i = m) w w' ∧ (∃ km' E', km' ≤ km + 1 ∧ Du w' m km' z (updT K s (some G)) E') ∧ (K s = some G ∨ (K s = none ∧ w.heap.size ≤ G)) ∧ l = ((K s).map C).getD (zs z) := by
  cases hK : K s with
  | some G =>
    obtain ⟨r, l⟩ := hr G hK
    refine (own_have h h8 hd s hs G hK).mono ?_
    rintro e w9 ⟨rfl, h9⟩
    subst h9
    have e9 : updT K s (some G) = K := by
      funext t
      unfold updT
      split
      · rename_i e
        rw [e, hK]
      · rfl
    exact ⟨G, C G, rfl, r, l, Chg.refl _ _, ⟨km, E, by omega, by rw [e9]; exact hd⟩, .inl rfl, rfl⟩
  | none =>
    refine (own_new h h8 h1 hd hmp s hs hz hk hK).mono ?_
    rintro e w9 ⟨rfl, r, ch, E', d⟩
    exact ⟨_, zs z, rfl, by rw [bs_zs]; exact r, by simp [zs], ch, ⟨km + 1, E', Nat.le_refl _, d⟩, .inr ⟨rfl, Nat.le_refl _⟩, rfl⟩

set_option maxRecDepth 100000 in
set_option maxHeartbeats 4000000 in
theorem DC.rot {w : World} {p m c S z kc km b : Nat} {x : Nums} {L : Nat → List (Nat × Nat)} {V : Nat → Value} {D : DataW Unit} {K : Nat → Option Nat} {E : DataW Unit} {C : Nat → List Int} (h : DC w p m c S z kc km b x L V D K E C) (hS : S ≤ 65536) (hb : b ≤ 4398046511104) (hz : z ≤ 4096) (s : Nat) (hsS : s < S) (at_ : Nat) (hat : at_ < z) (mask : Int) :
    Calls Try.prog 13 #[.pointer (some ⟨p, 0, none⟩), .int .i64 s, .int .i64 at_, .int .u8 mask] w fun e w' => e = .returned (.int .i64 0) ∧ Chg (fun i => i = p ∨ i = m ∨ K s = some i ∨ ∃ y ∈ L s, y.2 = i) w w' ∧
      ∃ km' E' C' G, DC w' p m c S z kc km' (b + 1) x L V D (updT K s (some G)) E' C' ∧ (K s = some G ∨ w.heap.size ≤ G) ∧ (∀ t, t ≠ s → ∀ y ∈ L t, C' y.2 = C y.2) ∧ (∀ t, t ≠ s → ∀ g, K t = some g → C' g = C g) ∧ (∀ y ∈ L s, C' y.2 = rotL at_ mask (C y.2)) ∧ C' G = rotL at_ mask (((K s).map C).getD (zs z)) := by
  have hh := has_row h.dd.row rfl (s : Int)
  rw [decide_eq_true ⟨by omega, by omega⟩] at hh
  have HH : Hid _ := hh
  have r0 := h.dd.row
  have c1 : w.cell? ⟨p, 1, none⟩ = some (.int .i64 z) := Rw.cell r0 1
  have c2 : w.cell? ⟨p, 2, none⟩ = some (.int .i32 0) := Rw.cell r0 2
  have c4 : w.cell? ⟨p, 4, none⟩ = some (.int .u32 0) := Rw.cell r0 4
  have c5 : w.cell? ⟨p, 5, none⟩ = some (.int .u32 0) := Rw.cell r0 5
  have c6 : w.cell? ⟨p, 6, none⟩ = some (.int .i32 0) := Rw.cell r0 6
  have f6 := Rw.fr r0 6
  have f2 := Rw.fr r0 2
  have ha1 : ¬ (at_ : Int) < 0 := by omega
  have ha2 : ¬ (z : Int) ≤ (at_ : Int) := by omega
  have ha3 : (at_ : Int) < (z : Int) := by omega
  have H : Hid _ := h
  clear h r0 hh
  go_enter_defers Try.func13, Try.ntmps13
  go_wp2_with (go_at_call 36; refine Calls.mono HH.out ?_; rintro e w9 ⟨rfl, h9⟩; subst h9)
  refine (wlock_free Try.rwWLib p 2 _ _ _ c2 c4 c5 c6 f2 f6).mono ?_
  rintro e w' ⟨rfl, rfl⟩
  have R1 : Rw ((w.setCell ⟨p, 2, none⟩ (.int .i32 1)).setCell ⟨p, 6, none⟩ (.int .i32 (-1073741824))) p (heldG S z m c x) 86 := Rw.two H.out.dd.row 2 6 (.int .i32 1) (.int .i32 (-1073741824))
  obtain ⟨w2, hw2⟩ : ∃ w2, w2 = (w.setCell ⟨p, 2, none⟩ (.int .i32 1)).setCell ⟨p, 6, none⟩ (.int .i32 (-1073741824)) := ⟨_, rfl⟩
  rw [← hw2] at R1
  have e1 : (w.setCell ⟨p, 2, none⟩ (.int .i32 1)).setCell ⟨p, 2 + 4, none⟩ (.int .i32 (-1073741824)) = w2 := hw2.symm
  rw [e1]
  have ch2 : Chg (fun i => i = p) w w2 := by rw [hw2]; exact ((Chg.refl (fun i => i = p) w).setCell (.inl rfl) _).setCell (.inl rfl) _
  have du2 : Du w2 m km z K E := H.out.dd.du.kept (grown_of ch2) (fun e => H.out.dd.mp (by injection e))
  have ca2 : Ca w2 c kc z L V D := H.out.dd.ca.kept (grown_of ch2) (fun e => H.out.dd.cp (by injection e)) (fun t g hg e => H.out.dd.vp t (by rw [hg, e]))
  have lr2 : ∀ t y, y ∈ L t → Rw w2 y.2 (bs (C y.2)).toArray 5 := fun t y hy => Rw.chg1 (H.out.lr t y hy).1 ch2 (Rw.ne (H.out.lr t y hy).1 H.out.dd.row (by decide))
  have kr2 : ∀ t g, K t = some g → Rw w2 g (bs (C g)).toArray 5 := fun t g hg => Rw.chg1 (H.out.kr t g hg).1 ch2 (Rw.ne (H.out.kr t g hg).1 H.out.dd.row (by decide))
  have hkk := H.out.dd.kk
  have OW : Hid _ := own_any R1 rfl rfl du2 H.out.dd.mp s (by omega) hz (by omega) (fun g hg => ⟨kr2 s g hg, (H.out.kr s g hg).2⟩)
  have R2 : Hid _ := R1
  have CA2 : Hid _ := ca2
  have C2 : Hid _ := ch2
  have LR2 : Hid _ := lr2
  have KR2 : Hid _ := kr2
  have DU2 : Hid _ := du2
  clear c1 c2 c4 c5 c6 f2 f6 R1 hw2 e1 ch2 du2 ca2 lr2 kr2 HH
  go_wp2_with fail
  refine Calls.mono OW.out ?_
  rintro e w3 ⟨G, l, rfl, rG, lG, ch3, ⟨km', E', hkm, du3⟩, hG, hl0⟩
  have dG : w3.cell? ⟨G, at_, none⟩ = some (.int .u8 (l[at_]'(by omega))) := by
    rw [Rw.cell rG at_, List.getElem?_toArray, bs_get _ _ (by omega)]
  have fG := Rw.fr rG at_
  obtain ⟨lv, hlv⟩ : ∃ lv, lv = l[at_]'(by omega) := ⟨_, rfl⟩
  rw [← hlv] at dG
  have HLV : Hid (lv = l.getD at_ 0) := by
    rw [hlv, List.getD_eq_getElem?_getD, List.getElem?_eq_getElem (by omega)]
    rfl
  have HL0 : Hid _ := hl0
  clear hlv hl0
  have RG : Hid _ := rG
  have C3 : Hid _ := ch3
  have DU3 : Hid _ := du3
  have HG : Hid _ := hG
  clear rG ch3 du3 hG OW
  go_upto_region 6 with fail
  obtain ⟨v, hv⟩ : ∃ v, v = bits BinOp.xor IntKind.u8 lv mask := ⟨_, rfl⟩
  rw [← hv]
  have HV : Hid (l.set at_ v = rotL at_ mask (((K s).map C).getD (zs z))) := by
    rw [hv, HLV.out, ← HL0.out]
    rfl
  obtain ⟨w4, hw4⟩ : ∃ w4, w4 = w3.setCell ⟨G, at_, none⟩ (.int .u8 v) := ⟨_, rfl⟩
  rw [← hw4]
  have r4 : Rw w4 G (bs (l.set at_ v)).toArray 5 := by rw [hw4, ← set_bs]; exact RG.out.set at_ _
  have ch4 : Chg (fun i => i = G) w3 w4 := by rw [hw4]; exact (Chg.refl (fun i => i = G) w3).setCell (.inl rfl) _
  have hmG : m ≠ G := ne_map RG.out DU3.out.map
  have hpG : p ≠ G := fun e => Rw.ne RG.out (Rw.chg1 R2.out C3.out H.out.dd.mp.symm) (by decide) e.symm
  have hGw : K s = some G ∨ w.heap.size ≤ G := by
    rcases HG.out with e | ⟨_, e⟩
    · exact .inl e
    · exact .inr (Nat.le_trans C2.out.size e)
  have p4 : Rw w4 p (heldG S z m c x) 86 := Rw.chg1 (Rw.chg1 R2.out C3.out H.out.dd.mp.symm) ch4 hpG
  have du4 : Du w4 m km' z (updT K s (some G)) E' := DU3.out.kept (grown_of ch4) (fun e => hmG (by injection e))
  have vne : ∀ t g, (V t).ownBlock = some g → g ≠ m ∧ g ≠ G := fun t g hg => by
    obtain ⟨cur, hcur⟩ := CA2.out.cells hg
    have hm3 : g ≠ m := fun e => by
      obtain ⟨es, cl, hm⟩ := DU2.out.map
      rw [e, hm] at hcur
      cases hcur
    refine ⟨hm3, fun e => ?_⟩
    have h3 := C3.out.heap_some hcur hm3
    rw [e, RG.out.eq] at h3
    injection h3 with h3
    injection h3 with _ h3
    cases h3
  have cne : c ≠ m ∧ c ≠ G := ⟨H.out.dd.mc.symm, fun e => by
    obtain ⟨es, cl, hm⟩ := CA2.out.map
    have h3 := C3.out.heap_some hm H.out.dd.mc.symm
    rw [e, RG.out.eq] at h3
    cases h3⟩
  have ca4 : Ca w4 c kc z L V D := (CA2.out.kept (grown_of C3.out) (fun e => cne.1 (by injection e)) (fun t g hg e => (vne t g hg).1 (by injection e))).kept (grown_of ch4) (fun e => cne.2 (by injection e)) (fun t g hg e => (vne t g hg).2 (by injection e))
  have c24 : Chg (fun i => i = m ∨ i = G) w2 w4 := grown_tr C3.out ch4
  have lG4 : (l.set at_ v).length = z := by rw [List.length_set]; exact lG
  have ynG : ∀ t y, y ∈ L t → y.2 ≠ G ∧ y.2 ≠ m := fun t y hy => by
    refine ⟨fun e => ?_, fun e => ne_map (LR2.out t y hy) DU2.out.map e.symm⟩
    rcases HG.out with h9 | ⟨_, h9⟩
    · exact H.out.kl s t G y h9 hy e
    · have := (LR2.out t y hy).lt
      omega
  have lr4 : ∀ t y, y ∈ L t → Rw w4 y.2 (bs (updT C G (l.set at_ v) y.2)).toArray 5 ∧ (updT C G (l.set at_ v) y.2).length = z := fun t y hy => by
    rw [updT_other _ _ (ynG t y hy).1]
    refine ⟨⟨c24.heap_some (LR2.out t y hy).eq (fun e => ?_)⟩, (H.out.lr t y hy).2⟩
    rcases e with e | e
    · exact (ynG t y hy).2 e
    · exact (ynG t y hy).1 e
  have kr4 : ∀ t g, updT K s (some G) t = some g → Rw w4 g (bs (updT C G (l.set at_ v) g)).toArray 5 ∧ (updT C G (l.set at_ v) g).length = z := fun t g hg => by
    by_cases e : g = G
    · subst e
      rw [updT_same]
      exact ⟨r4, lG4⟩
    · have hts : t ≠ s := fun e2 => by
        rw [e2, updT_same] at hg
        injection hg with hg
        exact e hg.symm
      rw [updT_other _ _ hts] at hg
      rw [updT_other _ _ e]
      refine ⟨⟨c24.heap_some (KR2.out t g hg).eq (fun e2 => ?_)⟩, (H.out.kr t g hg).2⟩
      rcases e2 with e2 | e2
      · exact ne_map (KR2.out t g hg) DU2.out.map e2.symm
      · exact e e2
  have ki4 : ∀ t t' g, updT K s (some G) t = some g → updT K s (some G) t' = some g → t = t' := fun t t' g h1 h2 => by
    have other : ∀ t, t ≠ s → K t ≠ some G := fun t ht e => by
      rcases HG.out with h9 | ⟨_, h9⟩
      · exact ht (H.out.ki t s G e h9)
      · have := (KR2.out t G e).lt
        omega
    by_cases e : t = s
    · by_cases e' : t' = s
      · rw [e, e']
      · rw [e, updT_same] at h1
        rw [updT_other _ _ e'] at h2
        injection h1 with h1
        exact absurd (by rw [h1]; exact h2) (other t' e')
    · by_cases e' : t' = s
      · rw [e', updT_same] at h2
        rw [updT_other _ _ e] at h1
        injection h2 with h2
        exact absurd (by rw [h2]; exact h1) (other t e)
      · rw [updT_other _ _ e] at h1
        rw [updT_other _ _ e'] at h2
        exact H.out.ki t t' g h1 h2
  have kl4 : ∀ t t' g y, updT K s (some G) t = some g → y ∈ L t' → y.2 ≠ g := fun t t' g y h1 hy => by
    by_cases e : t = s
    · rw [e, updT_same] at h1
      injection h1 with h1
      rw [← h1]
      exact (ynG t' y hy).1
    · rw [updT_other _ _ e] at h1
      exact H.out.kl t t' g y h1 hy
  have look := ca4.lookup s (by omega)
  obtain ⟨n, hn⟩ : ∃ n, n = (L s).length := ⟨_, rfl⟩
  have hnb : n ≤ 4398046511104 := by rw [hn]; exact Nat.le_trans (H.out.dd.ll s) hb
  obtain ⟨va, vc, hVs⟩ : ∃ va vc, V s = .slice va n vc := by
    rcases (ca4.row s).2 with ⟨e, h0⟩ | ⟨g, cap, cur, e, _⟩
    · exact ⟨none, 0, by rw [e, hn, h0]⟩
    · exact ⟨_, cap, by rw [e, hn]⟩
  have d9 : w4.cell? ⟨p, 9, none⟩ = some (.map (some c)) := p4.cell 9
  have vrow := ca4.row s
  rw [hVs] at look
  have CELL : Hid (∀ (wq : World), Chg (fun g => ∃ y ∈ L s, y.2 = g) w4 wq → ∀ i y, (L s)[i]? = some y → ∃ g, va = some ⟨g, 0, none⟩ ∧ wq.cell? ⟨g, i * 2, none⟩ = some (.int .i64 y.1) ∧ wq.cell? ⟨g, i * 2 + 1, none⟩ = some (.slice (some ⟨y.2, 0, none⟩) z z)) := fun wq hq i y hy => by
    obtain ⟨a1, a2⟩ := wcells_get z (L s) i y hy
    rcases vrow.2 with ⟨e, h0⟩ | ⟨g, cap, cur, e, _, hgg, _⟩
    · rw [List.eq_nil_of_length_eq_zero h0] at hy
      cases hy
    · have b1 := World.ownsRow.cells vrow (g := g) (by rw [e]; rfl) (i * 2) _ a1
      have b2 := World.ownsRow.cells vrow (g := g) (by rw [e]; rfl) (i * 2 + 1) _ a2
      rw [addr_add, Nat.zero_add] at b1 b2
      have hn9 : ¬ ∃ y ∈ L s, y.2 = g := fun ⟨y', hy', e'⟩ => by
        have := (lr4 s y' hy').1.eq
        rw [e', hgg] at this
        injection this with this
        injection this with _ this
        cases this
      rw [hVs] at e
      injection e with e
      exact ⟨g, e, hq.cell_some (a := ⟨g, i * 2, none⟩) b1 hn9, hq.cell_some (a := ⟨g, i * 2 + 1, none⟩) b2 hn9⟩
  have HN : Hid _ := hn
  have P4 : Hid _ := p4
  have DU4 : Hid _ := du4
  have CA4 : Hid _ := ca4
  have C24 : Hid _ := c24
  have LR4 : Hid _ := lr4
  have KR4 : Hid _ := kr4
  have KI4 : Hid _ := ki4
  have KL4 : Hid _ := kl4
  have HGW : Hid _ := hGw
  have YNG : Hid _ := ynG
  clear hn p4 du4 ca4 c24 lr4 kr4 ki4 kl4 hGw ynG vrow r4 ch4 hw4 RG C3 DU3 hv dG fG lG4 vne cne hVs
  go_wp2_with fail
  obtain ⟨C4, hC4⟩ : ∃ C4, C4 = updT C G (l.set at_ v) := ⟨_, rfl⟩
  rw [← hC4] at LR4 KR4
  have HC4 : Hid _ := hC4
  clear hC4
  go_loopg [50] (n + 1) (fun gk si wr => ∃ i : Nat, si = .int .i64 i ∧ i ≤ n ∧ n < gk + i ∧ Hid (Chg (fun g => ∃ y ∈ L s, y.2 = g) w4 wr ∧ ∃ C' : Nat → List Int, (∀ t y, y ∈ L t → Rw wr y.2 (bs (C' y.2)).toArray 5 ∧ (C' y.2).length = z) ∧ (∀ g, (∀ y ∈ L s, y.2 ≠ g) → C' g = C4 g) ∧ ∀ j y, (L s)[j]? = some y → C' y.2 = if j < i then rotL at_ mask (C4 y.2) else C4 y.2))
  case atStart => exact ⟨0, rfl, by omega, by omega, Chg.refl _ _, C4, LR4.out, fun _ _ => rfl, fun j y _ => by rw [if_neg (by omega)]⟩
  case round =>
    obtain ⟨i, rfl, hi, hgk, hid⟩ := hrel
    obtain ⟨ch, C', lr, oth, ex⟩ := hid.out
    clear hid
    by_cases hin : i = n
    · subst hin
      have nS : ∀ g cs t, t ≠ 5 → Rw w4 g cs t → Rw wr g cs t := fun g cs t ht hg => ⟨ch.heap_some hg.eq (fun ⟨y, hy, e⟩ => Rw.ne (LR4.out s y hy).1 hg (fun e => ht e.symm) e)⟩
      have nM : ∀ g, (∃ es cl, w4.heap[g]? = some (.map es cl)) → ¬ ∃ y ∈ L s, y.2 = g := fun g hg ⟨y, hy, e⟩ => ne_map (LR4.out s y hy).1 hg e.symm
      have pr : Rw wr p (heldG S z m c x) 86 := nS _ _ _ (by decide) P4.out
      have P9 : Hid _ := pr
      have NM : Hid _ := nM
      have CH : Hid _ := ch
      have LR : Hid _ := lr
      have OT : Hid _ := oth
      have EX : Hid _ := ex
      clear nS nM pr ch lr oth ex
      go_wp2_with fail
      refine leaves_cons (f := 38) (args := #[.pointer (some ⟨p, 2, none⟩)]) (by simp) (by simp [go_sem]) ?_
      refine (wunlock_deferred Try.rwWLib p 2 _ _ .returning _ (Rw.cell P9.out 2) (Rw.cell P9.out 4) (Rw.cell P9.out 5) (Rw.cell P9.out 6) (Rw.fr P9.out 2) (Rw.fr P9.out 6)).mono ?_
      rintro e u' w'' ⟨rfl, rfl, rfl⟩
      have ch9 : Chg (fun i => i = p) wr ((wr.setCell ⟨p, 2 + 4, none⟩ (.int .i32 0)).setCell ⟨p, 2, none⟩ (.int .i32 0)) := ((Chg.refl (fun i => i = p) wr).setCell (.inl rfl) _).setCell (.inl rfl) _
      have r9 : Rw ((wr.setCell ⟨p, 2 + 4, none⟩ (.int .i32 0)).setCell ⟨p, 2, none⟩ (.int .i32 0)) p (dkG S z m c x) 86 := Rw.two P9.out 6 2 (.int .i32 0) (.int .i32 0)
      obtain ⟨w9, hw9⟩ : ∃ w9, w9 = (wr.setCell ⟨p, 2 + 4, none⟩ (.int .i32 0)).setCell ⟨p, 2, none⟩ (.int .i32 0) := ⟨_, rfl⟩
      rw [← hw9] at ch9 r9 ⊢
      clear hw9
      have kp5 : ∀ g cs, Rw wr g cs 5 → Rw w9 g cs 5 := fun g cs hg => Rw.chg1 hg ch9 (Rw.ne hg P9.out (by decide))
      have kr9 : ∀ t g, updT K s (some G) t = some g → Rw w9 g (bs (C' g)).toArray 5 ∧ (C' g).length = z := fun t g hg => by
        have hno : ∀ y ∈ L s, y.2 ≠ g := fun y hy => KL4.out t s g y hg hy
        rw [OT.out g hno]
        exact ⟨kp5 _ _ ⟨CH.out.heap_some (KR4.out t g hg).1.eq (fun ⟨y, hy, e⟩ => hno y hy e)⟩, (KR4.out t g hg).2⟩
      have lr9 : ∀ t y, y ∈ L t → Rw w9 y.2 (bs (C' y.2)).toArray 5 ∧ (C' y.2).length = z := fun t y hy => ⟨kp5 _ _ (LR.out t y hy).1, (LR.out t y hy).2⟩
      have hkk9 := H.out.dd.kk
      have ca9 : Ca w9 c kc z L V D := by
        obtain ⟨es, cl, hm, rest⟩ := CA4.out.own
        have hm9 : w9.heap[c]? = some (.map es cl) := ch9.heap_some (CH.out.heap_some hm (NM.out c ⟨es, cl, hm⟩)) H.out.dd.cp
        refine ⟨⟨es, cl, hm9, rest⟩, CA4.out.at_, CA4.out.has, fun t => ?_, CA4.out.ne⟩
        refine ⟨(CA4.out.row t).1, ?_⟩
        rcases (CA4.out.row t).2 with e | ⟨b, cap, cur, e, hb, hgg, rest⟩
        · exact .inl e
        · refine .inr ⟨b, cap, cur, e, hb, ch9.heap_some (CH.out.heap_some hgg (fun ⟨y, hy, e⟩ => ?_)) (fun e2 => ?_), rest⟩
          · exact ne_row (LR4.out s y hy).1 ⟨cur, hgg⟩ (by decide) e.symm
          · exact ne_row P4.out ⟨cur, hgg⟩ (by decide) e2
      have du9 : Du w9 m km' z (updT K s (some G)) E' := by
        obtain ⟨es, cl, hm, rest⟩ := DU4.out.own
        exact ⟨⟨es, cl, ch9.heap_some (CH.out.heap_some hm (NM.out m ⟨es, cl, hm⟩)) H.out.dd.mp, rest⟩, DU4.out.at_, DU4.out.has⟩
      obtain ⟨pn, hp1, hp2⟩ := H.out.dd.pn
      have hdd : DD w9 p m c S z kc km' (b + 1) x L V D (updT K s (some G)) E' := ⟨r9, ca9, du9, H.out.dd.mc, fun t y hy => ⟨_, (lr9 t y hy).2, (lr9 t y hy).1⟩, fun t g hg => ⟨_, (kr9 t g hg).2, (kr9 t g hg).1⟩, H.out.dd.low, ⟨pn, hp1, by omega⟩, fun t => Nat.le_succ_of_le (H.out.dd.ll t), by omega, fun t y hy => Nat.le_succ_of_le (H.out.dd.nm t y hy)⟩
      have chw : Chg (fun i => i = p ∨ i = m ∨ K s = some i ∨ ∃ y ∈ L s, y.2 = i) w w9 := by
        refine (((C2.out.mono (fun _ _ e => .inl e)).trans C24.out (fun i e => ?_)).trans CH.out (fun i e => .inl (.inr (.inr (.inr e))))).trans ch9 (fun _ e => .inl (.inl e))
        rcases e with e | e
        · exact .inl (.inr (.inl e))
        · rcases HGW.out with h9 | h9
          · exact .inl (.inr (.inr (.inl (by rw [e]; exact h9))))
          · exact .inr (by omega)
      refine ⟨_, results_tmp rfl _ _ _, rfl, chw, km', E', C', G, ⟨hdd, lr9, kr9, KI4.out, KL4.out, H.out.li, H.out.nd, H.out.pk⟩, HGW.out, fun t ht y hy => ?_, fun t ht g hg => ?_, fun y hy => ?_, ?_⟩
      · rw [OT.out _ (fun y' hy' e => ht (H.out.li s t y' y hy' hy e).symm), HC4.out, updT_other _ _ (YNG.out t y hy).1]
      · have hg' : updT K s (some G) t = some g := by rw [updT_other _ _ ht]; exact hg
        rw [OT.out _ (fun y hy => KL4.out t s g y hg' hy), HC4.out]
        by_cases e : g = G
        · exact absurd (KI4.out t s g hg' (by rw [updT_same, e])) ht
        · rw [updT_other _ _ e]
      · obtain ⟨j, hj, ej⟩ := List.getElem_of_mem hy
        have hj2 : (L s)[j]? = some y := by rw [List.getElem?_eq_getElem hj, ej]
        rw [EX.out j y hj2, if_pos (by have := HN.out; omega), HC4.out, updT_other _ _ (YNG.out s y hy).1]
      · rw [OT.out G (fun y hy => (YNG.out s y hy).1), HC4.out, updT_same]
        exact HV.out
    · have hil : (i : Int) < (n : Int) := by omega
      obtain ⟨y, hy⟩ : ∃ y, (L s)[i]? = some y := ⟨(L s)[i]'(by have := HN.out; omega), List.getElem?_eq_getElem _⟩
      obtain ⟨g, rfl, a1, a2⟩ := CELL.out wr ch i y hy
      have hym := List.mem_of_getElem? hy
      obtain ⟨ry, ly⟩ := lr s y hym
      obtain ⟨yn, yb⟩ := y
      simp only at a1 a2 ry ly
      have hybl := ry.lt
      have dY : wr.cell? ⟨yb, at_, none⟩ = some (.int .u8 ((C' yb)[at_]'(by omega))) := by
        rw [Rw.cell ry at_, List.getElem?_toArray, bs_get _ _ (by omega)]
      obtain ⟨bv, hbv⟩ : ∃ bv, bv = (C' yb)[at_]'(by omega) := ⟨_, rfl⟩
      rw [← hbv] at dY
      have dY2 : (wr.alloc (.cells #[.int .i64 yn, .slice (some ⟨yb, 0, none⟩) z z] 90)).cell? ⟨yb, at_, none⟩ = some (.int .u8 bv) := ((Chg.refl (fun _ => False) wr).alloc _).cell_some dY (fun h => h)
      have fY2 : (wr.alloc (.cells #[.int .i64 yn, .slice (some ⟨yb, 0, none⟩) z z] 90)).frozen? ⟨yb, at_, none⟩ = false := Rw.fr (Rw.alloc ry _) at_
      have K5 : Hid (∀ v' : Int, v' = bits BinOp.xor IntKind.u8 bv mask → Chg (fun g => ∃ y ∈ L s, y.2 = g) w4 ((wr.setCell ⟨yb, at_, none⟩ (.int .u8 v')).alloc (.cells #[.int .i64 yn, .slice (some ⟨yb, 0, none⟩) z z] 90)) ∧ ∃ C' : Nat → List Int, (∀ t y, y ∈ L t → Rw ((wr.setCell ⟨yb, at_, none⟩ (.int .u8 v')).alloc (.cells #[.int .i64 yn, .slice (some ⟨yb, 0, none⟩) z z] 90)) y.2 (bs (C' y.2)).toArray 5 ∧ (C' y.2).length = z) ∧ (∀ g, (∀ y ∈ L s, y.2 ≠ g) → C' g = C4 g) ∧ ∀ j y, (L s)[j]? = some y → C' y.2 = if j < i + 1 then rotL at_ mask (C4 y.2) else C4 y.2) := fun v' hv' => by
        have cc : Chg (fun i => i = yb) wr ((wr.setCell ⟨yb, at_, none⟩ (.int .u8 v')).alloc (.cells #[.int .i64 yn, .slice (some ⟨yb, 0, none⟩) z z] 90)) := ((Chg.refl (fun i => i = yb) wr).setCell (.inl rfl) _).alloc _
        refine ⟨ch.trans cc (fun i e => .inl ⟨(yn, yb), hym, e.symm⟩), updT C' yb ((C' yb).set at_ v'), fun t y hy => ?_, fun g hg => ?_, fun j y hj => ?_⟩
        · by_cases e : y.2 = yb
          · rw [e, updT_same]
            refine ⟨?_, by rw [List.length_set]; exact ly⟩
            have := Rw.set ry at_ (.int .u8 v')
            rw [set_bs] at this
            exact Rw.alloc this _
          · rw [updT_other _ _ e]
            exact ⟨Rw.chg1 (lr t y hy).1 cc e, (lr t y hy).2⟩
        · rw [updT_other _ _ (fun e => hg (yn, yb) hym e.symm)]
          exact oth g hg
        · by_cases e : j = i
          · rw [e, hy] at hj
            injection hj with hj
            rw [← hj]
            show updT C' yb ((C' yb).set at_ v') yb = _
            have h4 : C' yb = C4 yb := by
              have := ex i (yn, yb) hy
              rw [if_neg (by omega)] at this
              exact this
            rw [updT_same, e, if_pos (by omega), hv', hbv]
            show _ = rotL at_ mask (C4 yb)
            unfold rotL
            rw [List.getD_eq_getElem?_getD, ← h4, List.getElem?_eq_getElem (by omega)]
            rfl
          · have hne : y.2 ≠ yb := fun e2 => e (by
              have hnd := H.out.nd s
              have hi1 := (List.getElem?_eq_some_iff.1 hy)
              have hj1 := (List.getElem?_eq_some_iff.1 hj)
              obtain ⟨hi2, hi3⟩ := hi1
              obtain ⟨hj2, hj3⟩ := hj1
              have hpw := List.pairwise_iff_getElem.1 hnd
              have li : i < ((L s).map Prod.snd).length := by rw [List.length_map]; exact hi2
              have lj : j < ((L s).map Prod.snd).length := by rw [List.length_map]; exact hj2
              have ei : ((L s).map Prod.snd)[i]'li = yb := by rw [List.getElem_map, hi3]
              have ej : ((L s).map Prod.snd)[j]'lj = yb := by rw [List.getElem_map, hj3]; exact e2
              rcases Nat.lt_trichotomy j i with h7 | h7 | h7
              · exact absurd (ej.trans ei.symm) (hpw j i lj li h7)
              · exact h7
              · exact absurd (ei.trans ej.symm) (hpw i j li lj h7))
            rw [updT_other _ _ hne, ex j y hj]
            by_cases h5 : j < i
            · rw [if_pos h5, if_pos (by omega)]
            · rw [if_neg h5, if_neg (by omega)]
      clear ch lr oth ex hy hym ry ly hbv dY
      go_wp2_with fail
      go_roundg (n - i)
      case measure => omega
      case rel => exact ⟨i + 1, by go_num, by omega, by omega, K5.out _ rfl⟩
end Go.Proofs.Ytddnecfnjnipjaa
