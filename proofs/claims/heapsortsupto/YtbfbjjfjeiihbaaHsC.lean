import Derived.Test.YtbfbjjfjeiihbaaLsB
import Derived.Test.YtbfbjjfjeiihbaaLe
import Derived.Test.YtbfbjjfjeiihbaaSmall
import Derived.Deep.RegionWith
import Derived.Test.YtbfbjjfjeiihbaaDrB
/-
  The document's Least; listed.
-/
namespace Go.Proofs.Ytbfbjjfjeiihbaa
open Go.RowKit

theorem Ths.take0 {w : World} {b c : Nat} {L : List (Int × Int)} (hc : ∀ i, i < L.length → w.cell? ⟨b, 0 + i * 2, none⟩ = some (.int .i64 (tnth L i).1) ∧ w.cell? ⟨b, 0 + i * 2 + 1, none⟩ = some (.int .i64 (tnth L i).2)) (k : Nat) (hk : k ≤ L.length) : Ths w (.slice (some ⟨b, 0, none⟩) k c) (L.take k) := by
  have := Ths.cut (n := k) (c := c) hc 0 k (by omega) rfl
  simpa using this

set_option maxRecDepth 100000 in
set_option maxHeartbeats 2000000 in
theorem refleast_any {W : World} {s : Value} {L : List (Int × Int)} (h : Tc W s L) (hl : L.length ≤ 2097152) (n : Int) (kk : Nat) (hk : (kk : Int) = max (min n L.length) 0) (all : Bool) :
    Calls Try.prog 32 #[s, .int .i64 n, .bool all] W fun e w' => ∃ v, e = .returned v ∧ Ths w' v ((srt all L.length L).take kk) ∧ Chg (fun _ => False) W w' := by
  have RS : Hid _ := refsort_any h hl all
  obtain ⟨sa, sc, rfl⟩ := h.ths.form
  clear h
  go_enter Try.func32, Try.ntmps32
  go_wp2_with fail
  refine Calls.mono RS.out ?_
  rintro e w1 ⟨v, rfl, ho, ch, _⟩
  have hsl := srt_len all L.length L
  have hf := ho.form
  rw [hsl] at hf
  obtain ⟨va, vc, rfl⟩ := hf
  have OW : Hid (OwnT _ _ _) := ho
  have CH : Hid _ := ch
  have SL : Hid _ := hsl
  clear ho ch RS hsl
  by_cases h1 : n < 0
  · have hk0 : kk = 0 := by omega
    subst hk0
    by_cases h2 : 0 < L.length
    · have h2' : (0 : Int) < (L.length : Int) := by omega
      obtain ⟨b, c, hv, hcc, _, hcel⟩ := OW.out.at (i := 0) (by rw [SL.out]; exact h2)
      rw [SL.out] at hv hcc
      injection hv with hva _ hvc
      subst hva hvc
      have HC : Hid _ := hcel
      clear hcel
      go_wp2_with fail
      go_ret
      exact ⟨_, rfl, .inr (.inl ⟨_, _, rfl, by simp⟩), CH.out⟩
    · have h2' : (L.length : Int) = 0 := by omega
      go_wp2_with fail
      go_ret
      refine ⟨_, rfl, ?_, CH.out⟩
      have := OW.out.ths
      have e : srt all L.length L = [] := List.eq_nil_of_length_eq_zero (by rw [SL.out]; omega)
      rw [e] at this ⊢
      simpa using this
  · by_cases h2 : n < L.length
    · obtain rfl : n = (kk : Int) := by omega
      have hkl : kk < L.length := by omega
      clear hk
      obtain ⟨b, c, hv, hcc, _, hcel⟩ := OW.out.at (i := 0) (by rw [SL.out]; omega)
      rw [SL.out] at hv hcc
      injection hv with hva _ hvc
      subst hva hvc
      have HC : Hid _ := hcel
      have hkc : (kk : Int) ≤ (vc : Int) := by omega
      clear hcel
      go_wp2_with fail
      go_ret
      exact ⟨_, rfl, Ths.take0 HC.out kk (by rw [SL.out]; omega), CH.out⟩
    · obtain rfl : kk = L.length := by omega
      clear hk
      go_wp2_with fail
      go_ret
      refine ⟨_, rfl, ?_, CH.out⟩
      rw [List.take_of_length_le (by rw [SL.out]; exact Nat.le_refl _)]
      exact OW.out.ths

end Go.Proofs.Ytbfbjjfjeiihbaa

/-
  listed: a list handed to Sort and Least.
-/
namespace Go.Proofs.Ytbfbjjfjeiihbaa
open Go.RowKit

theorem fB_form (all : Bool) : fB all = .nilFunc ∨ ∃ g caps, fB all = .func (.func g) #[] caps := by
  cases all
  · exact .inr ⟨11, #[], rfl⟩
  · exact .inl rfl
theorem fB_plain (all : Bool) : ∀ cs, fB all ≠ .agg cs := fun cs e => by cases all <;> cases e

set_option maxRecDepth 100000 in
set_option maxHeartbeats 4000000 in
theorem listed_any {w : World} {s : Value} {L : List (Int × Int)} (hL : Ths w s L) (hl : L.length ≤ 1048576) (n : Int) (kk : Nat) (hk : (kk : Int) = max (min n L.length) 0) (all : Bool) :
    Calls Try.prog 30 #[s, .int .i64 n, fB all] w fun e w' => ∃ va vb, e = .returned (.tuple #[va, vb, .bool true]) ∧ Ths w' va (srt all L.length L) ∧ Ths w' vb ((srt all L.length L).take kk) ∧ Chg (fun _ => False) w w' := by
  obtain ⟨sa, sc, rfl⟩ := hL.form
  obtain ⟨f, hf⟩ : ∃ f, f = fB all := ⟨_, rfl⟩
  have O := od_B all
  have ff := fB_form all
  have fp := fB_plain all
  rw [← hf] at O ff fp ⊢
  obtain ⟨v3, w3, hr3, ho3, hc3, hv3⟩ := run_app2 w 28 (OwnT.nil w) hL (by simp; omega)
  rw [List.nil_append] at ho3
  have hC3 : Chg (fun _ => False) w w3 := hc3.mono (fun k _ e => by simp [Value.ownBlock] at e)
  have hv3' : ∀ k, v3.ownBlock = some k → w.heap.size ≤ k := fun k hk => by
    rcases hv3 with e | e
    · rw [hk] at e; simp [Value.ownBlock] at e
    · rw [hk] at e
      have : k = w.heap.size := by simpa using e
      omega
  obtain ⟨w4, hw4⟩ : ∃ w4, w4 = w3.alloc (.cells #[.int .i64 0, .int .i64 (-7)] 26) := ⟨_, rfl⟩
  have hc4 : Chg (fun _ => False) w3 w4 := by rw [hw4]; exact (Chg.refl _ _).alloc _
  have hX4 : Blk w4 w3.heap.size [.int .i64 0, .int .i64 (-7)] 26 := by rw [hw4]; exact Blk.made w3 [.int .i64 0, .int .i64 (-7)] 26
  have src4 : Ths w4 (.slice (some ⟨w3.heap.size, 0, none⟩) 1 1) [(0, -7)] := .inr (.inr ⟨w3.heap.size, 0, 1, rfl, fun i z hz => by
    cases i with
    | zero => have h9 : ((0 : Int), (-7 : Int)) = z := by simpa using hz
              subst h9; exact ⟨hX4.cell 0, hX4.cell 1⟩
    | succ i => simp at hz⟩)
  obtain ⟨v5, w5, hr5, ho5, hc5, hv5⟩ := run_app2 w4 28 (ho3.keep hc4 (fun _ _ h => h)) src4 (by simp; omega)
  have hC5 : Chg (fun _ => False) w w5 := (hC3.trans hc4 (fun _ h => h.elim)).trans hc5 (fun k hk => .inr (hv3' k hk.symm))
  obtain ⟨a3, c3, e3⟩ := ho3.form
  subst e3
  have hl5 : (L ++ [((0 : Int), (-7 : Int))]).length = L.length + 1 := by simp
  obtain ⟨g, cap, e5, hcap, hg5, hcell5⟩ := ho5.at (i := 0) (by omega)
  subst e5
  have hget : ∀ i, i < L.length → tnth (L ++ [((0 : Int), (-7 : Int))]) i = tnth L i := fun i hi => by unfold tnth; rw [List.getD_eq_getElem?_getD, List.getD_eq_getElem?_getD, List.getElem?_append_left hi]
  have give5 : Ths w5 (.slice (some ⟨g, 0, none⟩) L.length cap) L := by
    have := Ths.take0 (c := cap) hcell5 L.length (by omega)
    rwa [List.take_left' rfl] at this
  rw [hl5] at hr5 hcap
  have hlast : tnth (L ++ [((0 : Int), (-7 : Int))]) L.length = (0, -7) := by unfold tnth; rw [List.getD_eq_getElem?_getD, List.getElem?_append_right (Nat.le_refl _)]; simp
  obtain ⟨x0, x1⟩ := hcell5 L.length (by omega)
  rw [hlast, Nat.zero_add] at x0 x1
  simp only at x0 x1
  have SO : Hid _ := sort_any O (oneB_le all) ff give5 (fun _ _ _ h => h) 0 hl trivial (by omega)
  have LE : Hid (∀ w', Chg (fun _ => False) w5 w' → _) := fun w' (k : Chg (fun _ => False) w5 w') => least_any O (oneB_le all) fp (give5.keep k (fun _ _ h => h)) (fun _ _ _ h => h) n kk 0 hk hl trivial (by omega)
  have SM : Hid (∀ w', Chg (fun _ => False) w5 w' → _) := fun w' (k : Chg (fun _ => False) w5 w') => same_any (give5.keep k (fun _ _ h => h)) ((hL.keep hC5 (fun _ _ h => h)).keep k (fun _ _ h => h)) (by omega)
  have R3 : Hid _ := hr3
  have R5 : Hid _ := hr5
  have W4 : Hid _ := hw4
  have C5 : Hid _ := hC5
  have X0 : Hid _ := x0
  have X1 : Hid _ := x1
  have hlc : (L.length : Int) ≤ (cap : Int) := by omega
  have EQ := eql26
  have HK : Hid _ := hk
  clear O ff fp hf hr3 ho3 hc3 hv3 hC3 hv3' hw4 hc4 hX4 src4 hr5 ho5 hc5 hv5 hC5 hl5 hcell5 hget give5 hlast x0 x1 hL hk
  go_enter Try.func30, Try.ntmps30
  go_upto_region 5 with (at_builtin; first | (refine wpList_app2 rfl (.tmp 14) (.tmp 15) rfl rfl rfl R3.out ?_) | (rw [← W4.out]; refine wpList_app2 rfl (.tmp 17) (.tmp 19) rfl rfl rfl R5.out ?_))
  go_wp2_with fail
  refine Calls.mono SO.out ?_
  rintro e w6 ⟨va, rfl, oa, _, _, ch6⟩
  have A6 : Hid (OwnT _ _ _) := oa
  have C6 : Hid (Chg _ _ _) := ch6
  clear oa ch6 SO
  go_wp2_with fail
  refine Calls.mono (SM.out w6 C6.out) ?_
  rintro e w7 ⟨rfl, ch7⟩
  have C7 : Hid (Chg (fun _ => False) w5 w7) := C6.out.trans ch7 (fun _ h => h.elim)
  have A7 : Hid (OwnT _ _ _) := A6.out.keep ch7 (fun _ _ h => h)
  clear ch7 A6 C6
  go_wp2_with fail
  refine Calls.mono (LE.out w7 C7.out) ?_
  rintro e w8 ⟨vb, rfl, ob, _, _, ch8⟩
  have C8 : Hid (Chg (fun _ => False) w5 w8) := C7.out.trans ch8 (fun _ h => h.elim)
  have A8 : Hid (OwnT _ _ _) := A7.out.keep ch8 (fun _ _ h => h)
  have B8 : Hid (OwnT _ _ _) := ob
  clear ch8 ob A7 C7 LE
  have SM8 : Hid _ := SM.out w8.drew C8.out.drew
  have hNn : (L.length : Int) < (L.length : Int) + 1 := by omega
  have NQ : Hid (∀ w9, Chg (fun _ => False) w8.drew w9 → w9.cell? ⟨g, L.length * 2, none⟩ = some (.int .i64 0) ∧ w9.cell? ⟨g, L.length * 2 + 1, none⟩ = some (.int .i64 (-7))) := fun w9 k => by
    have hb : w9.heap[g]? = w5.heap[g]? := (C8.out.drew.trans k (fun _ h => h.elim)).block g hg5 (fun h => h)
    exact ⟨(World.cell?_of_block (a := ⟨g, L.length * 2, none⟩) hb).trans X0.out, (World.cell?_of_block (a := ⟨g, L.length * 2 + 1, none⟩) hb).trans X1.out⟩
  clear SM X0 X1
  go_wp2_with fail
  go_region_with (go_at_call 19; refine Calls.mono SM8.out ?_; rintro e w9 ⟨rfl, ch9⟩; obtain ⟨x0, x1⟩ := NQ.out w9 ch9; have C9 : Hid (Chg _ _ _) := ch9; clear ch9)
  go_wp2_with fail
  refine bodyPost_ret (results_tmp3 rfl _ _ _) rfl ?_
  have hkl : kk ≤ L.length := by have := HK.out; omega
  have hall : Chg (fun _ => False) w8 w9 := ((Chg.refl (fun _ => False) w8).drew).trans C9.out (fun _ h => h.elim)
  have qa := (A8.out.keep hall (fun _ _ h => h)).ths
  have qb := (B8.out.keep hall (fun _ _ h => h)).ths
  rw [sort_srt] at qa
  rw [least_is all L kk hkl, sort_srt] at qb
  exact ⟨va, vb, rfl, qa, qb, (C5.out.trans C8.out (fun _ h => h.elim)).trans hall (fun _ h => h.elim)⟩

end Go.Proofs.Ytbfbjjfjeiihbaa

/-
  HeapSorts: the heap's things against those that came and those that have gone.
-/
namespace Go.Proofs.Ytbfbjjfjeiihbaa
open Go.RowKit

/-- Each thing of the heap is one that came and has not gone. -/
structure HS (H : List E) (L : List (Int × Int)) (G : List Bool) : Prop where
  nn : ∀ j, j < L.length → (tnth L j).2 = j
  mem : ∀ e ∈ H, ∃ n : Nat, n < L.length ∧ e.th = tnth L n ∧ e.num = n + 1 ∧ G[n]? = some false
  nd : H.Pairwise (fun a b => a.num ≠ b.num)
  cnt : H.length = G.count false
  gl : G.length = L.length

theorem HS.nil : HS [] [] [] := ⟨fun j h => by simp at h, fun _ h => by simp at h, List.Pairwise.nil, rfl, rfl⟩

theorem HS.perm {H H' : List E} {L : List (Int × Int)} {G : List Bool} (h : HS H L G) (p : H'.Perm H) : HS H' L G :=
  ⟨h.nn, fun e he => h.mem e (p.mem_iff.1 he), (List.Perm.pairwise_iff (fun h e => h e.symm) p).2 h.nd, by rw [p.length_eq]; exact h.cnt, h.gl⟩

theorem tnth_app (L : List (Int × Int)) (a : Int × Int) (j : Nat) (h : j < L.length) : tnth (L ++ [a]) j = tnth L j := by
  unfold tnth
  rw [List.getD_eq_getElem?_getD, List.getD_eq_getElem?_getD, List.getElem?_append_left h]
theorem tnth_last (L : List (Int × Int)) (a : Int × Int) : tnth (L ++ [a]) L.length = a := by
  unfold tnth
  rw [List.getD_eq_getElem?_getD, List.getElem?_concat_length]; rfl

theorem HS.snoc {H : List E} {L : List (Int × Int)} {G : List Bool} (h : HS H L G) (k : Int) : HS (⟨k, L.length, (L.length : Int) + 1⟩ :: H) (L ++ [(k, (L.length : Int))]) (G ++ [false]) := by
  refine ⟨fun j hj => ?_, fun e he => ?_, List.pairwise_cons.2 ⟨fun y hy => ?_, h.nd⟩, ?_, by simp [h.gl]⟩
  · rw [List.length_append] at hj
    by_cases e : j < L.length
    · rw [tnth_app _ _ _ e]; exact h.nn j e
    · have : j = L.length := by simp at hj; omega
      subst this
      rw [tnth_last]
  · rcases List.mem_cons.1 he with rfl | he
    · exact ⟨L.length, by simp, by rw [tnth_last]; rfl, rfl, by rw [← h.gl, List.getElem?_concat_length]⟩
    · obtain ⟨n, h1, h2, h3, h4⟩ := h.mem e he
      exact ⟨n, by simp; omega, by rw [tnth_app _ _ _ h1]; exact h2, h3, by rw [List.getElem?_append_left (by rw [h.gl]; exact h1)]; exact h4⟩
  · obtain ⟨n, h1, _, h3, _⟩ := h.mem y hy
    show (L.length : Int) + 1 ≠ y.num
    omega
  · rw [List.length_cons, List.count_append, h.cnt]; simp

theorem HS.out {x : E} {X : List E} {L : List (Int × Int)} {G : List Bool} (h : HS (x :: X) L G) : ∃ n : Nat, n < L.length ∧ x.th = tnth L n ∧ x.n = n ∧ G[n]? = some false ∧ HS X L (G.set n true) := by
  obtain ⟨n, h1, h2, h3, h4⟩ := h.mem x (List.mem_cons_self ..)
  obtain ⟨d1, d2⟩ := List.pairwise_cons.1 h.nd
  have hg : n < G.length := by rw [h.gl]; exact h1
  refine ⟨n, h1, h2, ?_, h4, h.nn, fun e he => ?_, d2, ?_, by rw [List.length_set]; exact h.gl⟩
  · have := h.nn n h1
    rw [← h2] at this
    exact this
  · obtain ⟨m, k1, k2, k3, k4⟩ := h.mem e (List.mem_cons_of_mem _ he)
    refine ⟨m, k1, k2, k3, ?_⟩
    have : n ≠ m := fun e' => d1 e he (by rw [h3, k3, e'])
    rw [List.getElem?_set_ne this]
    exact k4
  · have hc := h.cnt
    have hp : 0 < G.count false := by rw [← hc]; simp
    have e4 : G[n] = false := by
      have := List.getElem?_eq_getElem hg
      rw [h4] at this
      exact (Option.some.inj this).symm
    rw [List.count_set hg, e4]
    simp at hc ⊢
    omega

/-- The first goes ahead of all. -/
theorem HS.low {H : List E} {L : List (Int × Int)} {G : List Bool} (h : HS H L G) (ho : HO (odB false) H) (hl : 0 < H.length) : ∀ y ∈ H, ¬ (y.k < (nth H 0).k) ∧ ((nth H 0).k = y.k → ¬ (y.n < (nth H 0).n)) := fun y hy => by
  obtain ⟨i, hi, e⟩ := List.mem_iff_getElem.1 hy
  have h1 := ho.first (tot_B false) i hi
  have h2 : nth H i = y := by unfold nth; rw [List.getD_eq_getElem?_getD, List.getElem?_eq_getElem hi]; exact e
  rw [h2, lt_B] at h1
  have h3 := of_decide_eq_false h1
  obtain ⟨n, n1, n2, n3, _⟩ := h.mem y hy
  obtain ⟨m, m1, m2, m3, _⟩ := h.mem _ (nth_mem hl)
  have e1 : y.n = n := by have := h.nn n n1; rw [← n2] at this; exact this
  have e2 : (nth H 0).n = m := by have := h.nn m m1; rw [← m2] at this; exact this
  refine ⟨fun h => h3 (.inl ⟨rfl, h⟩), fun e h => h3 (.inr ⟨.inr e.symm, by omega⟩)⟩

theorem pushF_snoc (od : E → E → Int) (a : Int × Int) : ∀ (L : List (Int × Int)) (H : List E) (c : Nat), (pushF od (L ++ [a]) H c).1 = (push1 od (pushF od L H c).1 (c + L.length) a).1
  | [], H, c => rfl
  | b :: L, H, c => by
    show (pushF od (L ++ [a]) (push1 od H c b).1 (c + 1)).1 = (push1 od (pushF od L (push1 od H c b).1 (c + 1)).1 (c + (L.length + 1)) a).1
    rw [pushF_snoc od a L, show c + 1 + L.length = c + (L.length + 1) by omega]

/-- Bools in a row of their own. -/
def OwnG (w : World) (v : Value) (G : List Bool) : Prop := w.ownsRow 0 4 1 v G.length (G.map Value.bool)
theorem OwnG.nil (w : World) : OwnG w (.slice none 0 0) [] := World.ownsRow_nil w 0 4 1
theorem info4 : (Try.prog.info? 4).map (fun i => (i.zero, i.size, i.bytes)) = some (some (.bool false), 1, 1) := by kernel_rfl
theorem OwnG.keep {w w' : World} {S : Nat → Prop} {v : Value} {l : List Bool} (h : OwnG w v l) (c : Chg S w w') (hn : ∀ k, v.ownBlock = some k → ¬ S k) : OwnG w' v l := by
  refine ⟨h.1, ?_⟩
  rcases h.2 with hn' | ⟨g, cap, cur, rfl, hb, hgg, rest⟩
  · exact .inl hn'
  · exact .inr ⟨g, cap, cur, rfl, hb, c.heap_some hgg (hn g rfl), rest⟩
theorem OwnG.lt {w : World} {v : Value} {l : List Bool} (h : OwnG w v l) {k : Nat} (hk : v.ownBlock = some k) : k < w.heap.size := (World.ownsRow.lt h k hk).2
theorem OwnG.form {w : World} {v : Value} {l : List Bool} (h : OwnG w v l) : ∃ a c, v = .slice a l.length c := by
  rcases h.2 with ⟨rfl, h0⟩ | ⟨g, cap, cur, rfl, hb, hgg, rest⟩
  · exact ⟨none, 0, by rw [h0]⟩
  · exact ⟨_, _, rfl⟩
theorem OwnG.at {w : World} {v : Value} {l : List Bool} (h : OwnG w v l) {i : Nat} (hi : i < l.length) : ∃ b c, v = .slice (some ⟨b, 0, none⟩) l.length c ∧ b < w.heap.size ∧ (∀ j x, l[j]? = some x → w.cell? ⟨b, 0 + j, none⟩ = some (.bool x)) ∧ ∀ j, w.frozen? ⟨b, j, none⟩ = false := by
  rcases h.2 with ⟨rfl, h0⟩ | ⟨g, cap, cur, rfl, hb, hgg, rest⟩
  · omega
  · refine ⟨g, cap, rfl, (Array.getElem?_eq_some_iff.1 hgg).1, fun j x hx => ?_, fun j => frozen_of_row w g j _ 4 hgg⟩
    have k := World.ownsRow.cells h (g := g) rfl j (.bool x) (by rw [List.getElem?_map, hx]; rfl)
    rw [addr_add] at k
    exact k

theorem run_appG (w : World) (ty : TypeId) {v : Value} {l : List Bool} {x : Bool} {b c : Nat} (hv : OwnG w v l) (hs : w.cell? ⟨b, 0, none⟩ = some (.bool x)) (hb : l.length + 1 ≤ 1099511627776) :
    ∃ v' w', (Builtin.append_ #[40, 40] ty #[v, .slice (some ⟨b, 0, none⟩) 1 c]).run Try.prog w = .ok v' w' ∧ OwnG w' v' (l ++ [x]) ∧ Chg (fun k => some k = v.ownBlock) w w' ∧ (v'.ownBlock = v.ownBlock ∨ v'.ownBlock = some w.heap.size) := by
  obtain ⟨i0, hi, hz0, hz1, hz2⟩ := info_parts info4
  obtain ⟨v', w', h1, h2, h3, _, h5⟩ := run_append_own_at (P := Try.prog) w 0 40 ty 4 i0 _ 1 1 Try.underlying40 hi hz0 hz1 hz2 rfl (by decide) v l.length (l.map Value.bool) hv ⟨b, 0, none⟩ 1 c [.bool x] rfl (fun j u hu => by
      rw [addr_add]
      cases j with
      | zero => obtain rfl := Option.some.inj hu; exact hs
      | succ j => simp at hu) (fun u hu => by obtain rfl := List.mem_singleton.1 hu; rfl) (by unfold maxLen; omega) (by omega) (Nat.zero_le _)
  exact ⟨v', w', h1, by unfold OwnG; rw [List.length_append, List.map_append]; exact h2, Chg.of_grown h3, h5⟩

theorem wpList_appG {ops : Array Oper} {rest : List Oper} {o : Oper} {a : Act} {w : World} {Q : Exit → Act → World → Prop} (hgd : o.guard = none) (s x : Operand)
    (ho : o.op = .call { callee := .builtin .append, args := #[s, x], argTypes := #[40, 40] })
    {v u v' : Value} {w' : World} (hs : a.eval s = v) (hx : a.eval x = u) (hr : (Builtin.append_ #[40, 40] o.type #[v, u]).run Try.prog w = .ok v' w')
    (h : wpList Try.prog ops Q rest (a.put o.dst v') w') : wpList Try.prog ops Q (o :: rest) a w := by
  refine wpList_plain hgd fun K hK => ?_
  unfold Oper.wp execOp
  simp only [ho, resolve, invoke, builtin, Sem.run_bind, Sem.run_pure, Result.andThen_ok, List.map_toArray, List.map_cons, List.map_nil, hs, hx, hr]
  exact hK _ _ h

theorem OwnG.put {w : World} {g cap : Nat} {l : List Bool} (h : OwnG w (.slice (some ⟨g, 0, none⟩) l.length cap) l) (i : Nat) (x : Bool) : OwnG (w.setCell ⟨g, i, none⟩ (.bool x)) (.slice (some ⟨g, 0, none⟩) (l.set i x).length cap) (l.set i x) := by
  unfold OwnG at h ⊢
  obtain ⟨h1, h2⟩ := h
  refine ⟨by rw [List.length_map, List.length_set]; rw [List.length_map] at h1; exact h1, ?_⟩
  rcases h2 with ⟨e, _⟩ | ⟨g', cap', cur, e, hb, hg, hle, hm, hs, ht⟩
  · cases e
  · injection e with e1 e2 e3
    injection e1 with e1
    injection e1 with e1 _ _
    subst e1 e3
    have b1 : Blk w g cur.toList 4 := ⟨by simpa using hg⟩
    have b2 := b1.set i (.bool x)
    refine .inr ⟨g, cap, (cur.toList.set i (.bool x)).toArray, by rw [List.length_set], hb, b2.eq, by rw [List.length_set]; exact hle, hm, by simpa using hs, ?_⟩
    rw [List.map_set, ← ht, List.length_set]
    simp only [List.take_set]

end Go.Proofs.Ytbfbjjfjeiihbaa

/-
  HeapSorts: what lies in memory, each block with its own colour.
-/
namespace Go.Proofs.Ytbfbjjfjeiihbaa
open Go.RowKit

structure HW (W w : World) (p : Nat) (v : Value) (H : List E) (came : Nat) (lv : Value) (L : List (Int × Int)) (gv : Value) (G : List Bool) (ov : Value) (O : List (Int × Int)) (Bs : List (Nat × Int × Int)) : Prop where
  hq : Hq w p (fB false) v H came
  li : OwnT w lv L
  gi : OwnG w gv G
  oi : OwnT w ov O
  bk : ∀ x ∈ Bs, Blk w x.1 [.int .i64 x.2.1, .int .i64 x.2.2] 26
  ch : Chg (fun _ => False) W w
  nw : ∀ k, (k = p ∨ v.ownBlock = some k ∨ lv.ownBlock = some k ∨ gv.ownBlock = some k ∨ ov.ownBlock = some k) → W.heap.size ≤ k
  col : ∃ c : Nat → Nat, c p = 1 ∧ (∀ k, v.ownBlock = some k → c k = 2) ∧ (∀ k, lv.ownBlock = some k → c k = 3) ∧ (∀ k, gv.ownBlock = some k → c k = 4) ∧ (∀ k, ov.ownBlock = some k → c k = 5) ∧ ∀ x ∈ Bs, c x.1 = 6

section
variable {W w w' : World} {p : Nat} {v : Value} {H : List E} {came : Nat} {lv : Value} {L : List (Int × Int)} {gv : Value} {G : List Bool} {ov : Value} {O : List (Int × Int)} {Bs : List (Nat × Int × Int)}

theorem HW.keep (h : HW W w p v H came lv L gv G ov O Bs) (k : Chg (fun _ => False) w w') : HW W w' p v H came lv L gv G ov O Bs :=
  ⟨h.hq.keep k (fun h => h) (fun _ _ h => h), h.li.keep k (fun _ _ h => h), h.gi.keep k (fun _ _ h => h), h.oi.keep k (fun _ _ h => h), fun x hx => (h.bk x hx).keep k (fun h => h), h.ch.trans k (fun _ h => h.elim), h.nw, h.col⟩

theorem HW.less (h : HW W w p v H came lv L gv G ov O Bs) : HW W w p v H came lv L gv G ov O [] := by
  obtain ⟨c, c1, c2, c3, c4, c5, _⟩ := h.col
  exact ⟨h.hq, h.li, h.gi, h.oi, fun _ h => by simp at h, h.ch, h.nw, c, c1, c2, c3, c4, c5, fun _ h => by simp at h⟩

theorem HW.box (h : HW W w p v H came lv L gv G ov O Bs) (a b : Int) : HW W (w.alloc (.cells #[.int .i64 a, .int .i64 b] 26)) p v H came lv L gv G ov O (Bs ++ [(w.heap.size, a, b)]) := by
  obtain ⟨c, c1, c2, c3, c4, c5, c6⟩ := h.col
  have h1 := h.keep (w' := w.alloc (.cells #[.int .i64 a, .int .i64 b] 26)) ((Chg.refl _ _).alloc _)
  have e : ∀ k, k < w.heap.size → (fun k => if w.heap.size ≤ k then 6 else c k) k = c k := fun k hk => if_neg (by omega)
  refine ⟨h1.hq, h1.li, h1.gi, h1.oi, fun x hx => ?_, h1.ch, h1.nw, fun k => if w.heap.size ≤ k then 6 else c k, (e _ h.hq.lt).trans c1, fun k hk => (e _ (h.hq.vlt k hk)).trans (c2 k hk), fun k hk => (e _ (h.li.lt hk)).trans (c3 k hk), fun k hk => (e _ (h.gi.lt hk)).trans (c4 k hk), fun k hk => (e _ (h.oi.lt hk)).trans (c5 k hk), fun x hx => ?_⟩
  · rcases List.mem_append.1 hx with hx | hx
    · exact h1.bk x hx
    · obtain rfl := List.mem_singleton.1 hx
      exact Blk.made w [.int .i64 a, .int .i64 b] 26
  · rcases List.mem_append.1 hx with hx | hx
    · exact (e _ (h.bk x hx).lt).trans (c6 x hx)
    · obtain rfl := List.mem_singleton.1 hx
      exact if_pos (Nat.le_refl _)

theorem HW.heap (h : HW W w p v H came lv L gv G ov O Bs) {H' : List E} {came' c : Nat} (s : Stt w w' p (fB false) v.ownBlock H' came' c (fun _ => False) (fun _ _ => True)) : ∃ v', HW W w' p v' H' came' lv L gv G ov O Bs := by
  obtain ⟨⟨v', q1, q2⟩, _, k⟩ := s
  obtain ⟨c, c1, c2, c3, c4, c5, c6⟩ := h.col
  have e : ∀ k, k < w.heap.size → (fun k => if w.heap.size ≤ k then 2 else c k) k = c k := fun k hk => if_neg (by omega)
  have no : ∀ i, c i ≠ 1 → c i ≠ 2 → ¬ (i = p ∨ some i = v.ownBlock ∨ False) := fun i n1 n2 hh => by
    rcases hh with hh | hh | hh
    · rw [hh] at n1; exact n1 c1
    · exact n2 (c2 i hh.symm)
    · exact hh
  refine ⟨v', q1, h.li.keep k (fun i hi => no i (by rw [c3 i hi]; decide) (by rw [c3 i hi]; decide)), h.gi.keep k (fun i hi => no i (by rw [c4 i hi]; decide) (by rw [c4 i hi]; decide)), h.oi.keep k (fun i hi => no i (by rw [c5 i hi]; decide) (by rw [c5 i hi]; decide)), fun x hx => (h.bk x hx).keep k (no x.1 (by rw [c6 x hx]; decide) (by rw [c6 x hx]; decide)), h.ch.trans k (fun i hi => ?_), fun i hi => ?_, fun k => if w.heap.size ≤ k then 2 else c k, (e _ h.hq.lt).trans c1, fun k hk => ?_, fun k hk => (e _ (h.li.lt hk)).trans (c3 k hk), fun k hk => (e _ (h.gi.lt hk)).trans (c4 k hk), fun k hk => (e _ (h.oi.lt hk)).trans (c5 k hk), fun x hx => (e _ (h.bk x hx).lt).trans (c6 x hx)⟩
  · rcases hi with hi | hi | hi
    · exact .inr (h.nw i (.inl hi))
    · exact .inr (h.nw i (.inr (.inl hi.symm)))
    · exact hi.elim
  · rcases hi with hi | hi | hi
    · exact h.nw i (.inl hi)
    · rcases q2 i hi with e | e
      · exact h.nw i (.inr (.inl e.symm))
      · exact Nat.le_trans h.ch.size e
    · exact h.nw i (.inr (.inr hi))
  · rcases q2 k hk with e' | e'
    · exact (e _ (h.hq.vlt k e'.symm)).trans (c2 k e'.symm)
    · exact if_pos e'

theorem HW.appL (h : HW W w p v H came lv L gv G ov O Bs) {lv' : Value} {L' : List (Int × Int)} (o : OwnT w' lv' L') (k : Chg (fun k => some k = lv.ownBlock) w w') (hb : lv'.ownBlock = lv.ownBlock ∨ lv'.ownBlock = some w.heap.size) : HW W w' p v H came lv' L' gv G ov O Bs := by
  obtain ⟨c, c1, c2, c3, c4, c5, c6⟩ := h.col
  have e : ∀ k, k < w.heap.size → (fun k => if w.heap.size ≤ k then 3 else c k) k = c k := fun k hk => if_neg (by omega)
  have no : ∀ i, c i ≠ 3 → ¬ some i = lv.ownBlock := fun i n1 hh => n1 (c3 i hh.symm)
  have hb' : ∀ i, lv'.ownBlock = some i → lv.ownBlock = some i ∨ i = w.heap.size := fun i hi => by
    rcases hb with e | e
    · exact .inl (by rw [← e]; exact hi)
    · rw [e] at hi; exact .inr (Option.some.inj hi).symm
  refine ⟨h.hq.keep k (no p (by rw [c1]; decide)) (fun i hi => no i (by rw [c2 i hi]; decide)), o, h.gi.keep k (fun i hi => no i (by rw [c4 i hi]; decide)), h.oi.keep k (fun i hi => no i (by rw [c5 i hi]; decide)), fun x hx => (h.bk x hx).keep k (no x.1 (by rw [c6 x hx]; decide)), h.ch.trans k (fun i hi => .inr (h.nw i (.inr (.inr (.inl hi.symm))))), fun i hi => ?_, fun k => if w.heap.size ≤ k then 3 else c k, (e _ h.hq.lt).trans c1, fun k hk => (e _ (h.hq.vlt k hk)).trans (c2 k hk), fun k hk => ?_, fun k hk => (e _ (h.gi.lt hk)).trans (c4 k hk), fun k hk => (e _ (h.oi.lt hk)).trans (c5 k hk), fun x hx => (e _ (h.bk x hx).lt).trans (c6 x hx)⟩
  · rcases hi with hi | hi | hi | hi
    · exact h.nw i (.inl hi)
    · exact h.nw i (.inr (.inl hi))
    · rcases hb' i hi with e | e
      · exact h.nw i (.inr (.inr (.inl e)))
      · rw [e]; exact h.ch.size
    · exact h.nw i (.inr (.inr (.inr hi)))
  · rcases hb' k hk with e' | e'
    · exact (e _ (h.li.lt e')).trans (c3 k e')
    · exact if_pos (by omega)

theorem HW.appG (h : HW W w p v H came lv L gv G ov O Bs) {gv' : Value} {G' : List Bool} (o : OwnG w' gv' G') (k : Chg (fun k => some k = gv.ownBlock) w w') (hb : gv'.ownBlock = gv.ownBlock ∨ gv'.ownBlock = some w.heap.size) : HW W w' p v H came lv L gv' G' ov O Bs := by
  obtain ⟨c, c1, c2, c3, c4, c5, c6⟩ := h.col
  have e : ∀ k, k < w.heap.size → (fun k => if w.heap.size ≤ k then 4 else c k) k = c k := fun k hk => if_neg (by omega)
  have no : ∀ i, c i ≠ 4 → ¬ some i = gv.ownBlock := fun i n1 hh => n1 (c4 i hh.symm)
  have hb' : ∀ i, gv'.ownBlock = some i → gv.ownBlock = some i ∨ i = w.heap.size := fun i hi => by
    rcases hb with e | e
    · exact .inl (by rw [← e]; exact hi)
    · rw [e] at hi; exact .inr (Option.some.inj hi).symm
  refine ⟨h.hq.keep k (no p (by rw [c1]; decide)) (fun i hi => no i (by rw [c2 i hi]; decide)), h.li.keep k (fun i hi => no i (by rw [c3 i hi]; decide)), o, h.oi.keep k (fun i hi => no i (by rw [c5 i hi]; decide)), fun x hx => (h.bk x hx).keep k (no x.1 (by rw [c6 x hx]; decide)), h.ch.trans k (fun i hi => .inr (h.nw i (.inr (.inr (.inr (.inl hi.symm)))))), fun i hi => ?_, fun k => if w.heap.size ≤ k then 4 else c k, (e _ h.hq.lt).trans c1, fun k hk => (e _ (h.hq.vlt k hk)).trans (c2 k hk), fun k hk => (e _ (h.li.lt hk)).trans (c3 k hk), fun k hk => ?_, fun k hk => (e _ (h.oi.lt hk)).trans (c5 k hk), fun x hx => (e _ (h.bk x hx).lt).trans (c6 x hx)⟩
  · rcases hi with hi | hi | hi | hi | hi
    · exact h.nw i (.inl hi)
    · exact h.nw i (.inr (.inl hi))
    · exact h.nw i (.inr (.inr (.inl hi)))
    · rcases hb' i hi with e | e
      · exact h.nw i (.inr (.inr (.inr (.inl e))))
      · rw [e]; exact h.ch.size
    · exact h.nw i (.inr (.inr (.inr (.inr hi))))
  · rcases hb' k hk with e' | e'
    · exact (e _ (h.gi.lt e')).trans (c4 k e')
    · exact if_pos (by omega)

theorem HW.appO (h : HW W w p v H came lv L gv G ov O Bs) {ov' : Value} {O' : List (Int × Int)} (o : OwnT w' ov' O') (k : Chg (fun k => some k = ov.ownBlock) w w') (hb : ov'.ownBlock = ov.ownBlock ∨ ov'.ownBlock = some w.heap.size) : HW W w' p v H came lv L gv G ov' O' Bs := by
  obtain ⟨c, c1, c2, c3, c4, c5, c6⟩ := h.col
  have e : ∀ k, k < w.heap.size → (fun k => if w.heap.size ≤ k then 5 else c k) k = c k := fun k hk => if_neg (by omega)
  have no : ∀ i, c i ≠ 5 → ¬ some i = ov.ownBlock := fun i n1 hh => n1 (c5 i hh.symm)
  have hb' : ∀ i, ov'.ownBlock = some i → ov.ownBlock = some i ∨ i = w.heap.size := fun i hi => by
    rcases hb with e | e
    · exact .inl (by rw [← e]; exact hi)
    · rw [e] at hi; exact .inr (Option.some.inj hi).symm
  refine ⟨h.hq.keep k (no p (by rw [c1]; decide)) (fun i hi => no i (by rw [c2 i hi]; decide)), h.li.keep k (fun i hi => no i (by rw [c3 i hi]; decide)), h.gi.keep k (fun i hi => no i (by rw [c4 i hi]; decide)), o, fun x hx => (h.bk x hx).keep k (no x.1 (by rw [c6 x hx]; decide)), h.ch.trans k (fun i hi => .inr (h.nw i (.inr (.inr (.inr (.inr hi.symm)))))), fun i hi => ?_, fun k => if w.heap.size ≤ k then 5 else c k, (e _ h.hq.lt).trans c1, fun k hk => (e _ (h.hq.vlt k hk)).trans (c2 k hk), fun k hk => (e _ (h.li.lt hk)).trans (c3 k hk), fun k hk => (e _ (h.gi.lt hk)).trans (c4 k hk), fun k hk => ?_, fun x hx => (e _ (h.bk x hx).lt).trans (c6 x hx)⟩
  · rcases hi with hi | hi | hi | hi | hi
    · exact h.nw i (.inl hi)
    · exact h.nw i (.inr (.inl hi))
    · exact h.nw i (.inr (.inr (.inl hi)))
    · exact h.nw i (.inr (.inr (.inr (.inl hi))))
    · rcases hb' i hi with e | e
      · exact h.nw i (.inr (.inr (.inr (.inr e))))
      · rw [e]; exact h.ch.size
  · rcases hb' k hk with e' | e'
    · exact (e _ (h.oi.lt e')).trans (c5 k e')
    · exact if_pos (by omega)

/-- A thing is marked as gone. -/
theorem HW.putG {g cap : Nat} (h : HW W w p v H came lv L (.slice (some ⟨g, 0, none⟩) G.length cap) G ov O Bs) (n : Nat) (x : Bool) : HW W (w.setCell ⟨g, n, none⟩ (.bool x)) p v H came lv L (.slice (some ⟨g, 0, none⟩) (G.set n x).length cap) (G.set n x) ov O Bs :=
  h.appG (h.gi.put n x) ((Chg.refl (fun k => some k = (Value.slice (some ⟨g, 0, none⟩) G.length cap).ownBlock) w).setCell (p := ⟨g, n, none⟩) (.inl rfl) _) (.inl rfl)
end

/-- A new heap. -/
theorem HW.made {W w : World} (hq : Hq w W.heap.size (fB false) (.slice none 0 0) [] 0) (ch : Chg (fun _ => False) W w) : HW W w W.heap.size (.slice none 0 0) [] 0 (.slice none 0 0) [] (.slice none 0 0) [] (.slice none 0 0) [] [] := by
  refine ⟨hq, OwnT.nil _, OwnG.nil _, OwnT.nil _, fun _ h => by simp at h, ch, fun k hk => ?_, fun _ => 1, rfl, fun k h => ?_, fun k h => ?_, fun k h => ?_, fun k h => ?_, fun _ h => by simp at h⟩
  · rcases hk with rfl | h | h | h | h
    · exact Nat.le_refl _
    all_goals simp [Value.ownBlock] at h
  all_goals simp [Value.ownBlock] at h

end Go.Proofs.Ytbfbjjfjeiihbaa

/-
  HeapSorts: each call at one blow.
-/
namespace Go.Proofs.Ytbfbjjfjeiihbaa
open Go.RowKit

section
variable {W w : World} {p : Nat} {v : Value} {H : List E} {came : Nat} {lv : Value} {L : List (Int × Int)} {gv : Value} {G : List Bool} {ov : Value} {O : List (Int × Int)} {Bs : List (Nat × Int × Int)}

theorem ths_one {w : World} {b : Nat} {a : Int × Int} (h : Blk w b [.int .i64 a.1, .int .i64 a.2] 26) : Ths w (.slice (some ⟨b, 0, none⟩) 1 1) [a] := .inr (.inr ⟨b, 0, 1, rfl, fun i z hz => by
    cases i with
    | zero => have h9 : a = z := by simpa using hz
              subst h9; exact ⟨h.cell 0, h.cell 1⟩
    | succ i => simp at hz⟩)

/-- A thing is laid into the list of those that came, and a mark beside it. -/
theorem HW.adds (h : HW W w p v H came lv L gv G ov O Bs) (a : Int × Int) (hl : L.length ≤ 2097152) (hg : G.length ≤ 2097152) :
    ∃ lv' w5 gv' w7, (Builtin.append_ #[28, 28] 28 #[lv, .slice (some ⟨w.heap.size, 0, none⟩) 1 1]).run Try.prog (w.alloc (.cells #[.int .i64 a.1, .int .i64 a.2] 26)) = .ok lv' w5 ∧
      (Builtin.append_ #[40, 40] 40 #[gv, .slice (some ⟨w5.heap.size, 0, none⟩) 1 1]).run Try.prog (w5.alloc (.cells #[.bool false] 4)) = .ok gv' w7 ∧ HW W w7 p v H came lv' (L ++ [a]) gv' (G ++ [false]) ov O Bs := by
  have h4 := h.keep (w' := w.alloc (.cells #[.int .i64 a.1, .int .i64 a.2] 26)) ((Chg.refl _ _).alloc _)
  obtain ⟨lv', w5, r5, o5, c5, b5⟩ := run_app2 _ 28 h4.li (ths_one (Blk.made w [.int .i64 a.1, .int .i64 a.2] 26)) (by simp; omega)
  have h5 := h4.appL o5 c5 b5
  have h6 := h5.keep (w' := w5.alloc (.cells #[.bool false] 4)) ((Chg.refl _ _).alloc _)
  obtain ⟨gv', w7, r7, o7, c7, b7⟩ := run_appG (x := false) (c := 1) _ 40 h6.gi ((Blk.made w5 [.bool false] 4).cell 0) (by omega)
  exact ⟨lv', w5, gv', w7, r5, r7, h6.appG o7 c7 b7⟩

theorem HW.addO (h : HW W w p v H came lv L gv G ov O Bs) (a : Int × Int) (hl : O.length ≤ 2097152) :
    ∃ ov' w5, (Builtin.append_ #[28, 28] 28 #[ov, .slice (some ⟨w.heap.size, 0, none⟩) 1 1]).run Try.prog (w.alloc (.cells #[.int .i64 a.1, .int .i64 a.2] 26)) = .ok ov' w5 ∧ HW W w5 p v H came lv L gv G ov' (O ++ [a]) Bs := by
  have h4 := h.keep (w' := w.alloc (.cells #[.int .i64 a.1, .int .i64 a.2] 26)) ((Chg.refl _ _).alloc _)
  obtain ⟨ov', w5, r5, o5, c5, b5⟩ := run_app2 _ 28 h4.oi (ths_one (Blk.made w [.int .i64 a.1, .int .i64 a.2] 26)) (by simp; omega)
  exact ⟨ov', w5, r5, h4.appO o5 c5 b5⟩

theorem HW.push (h : HW W w p v H came lv L gv G ov O Bs) (a : Int × Int) (hH : H.length + 1 ≤ 2097152) (hc : came + 1 ≤ 2097152) :
    Calls Try.prog 14 #[.pointer (some ⟨p, 0, none⟩), .slice (some ⟨w.heap.size, 0, none⟩) 1 1] (w.alloc (.cells #[.int .i64 a.1, .int .i64 a.2] 26)) fun e w' => e = .returned (.tuple #[]) ∧ ∃ v', HW W w' p v' (pushF (odB false) [a] H came).1 (came + 1) lv L gv G ov O Bs := by
  have h4 := h.keep (w' := w.alloc (.cells #[.int .i64 a.1, .int .i64 a.2] 26)) ((Chg.refl _ _).alloc _)
  have hb := Blk.made w [.int .i64 a.1, .int .i64 a.2] 26
  refine (push_any (od_B false) h4.hq (fun h => h) (fun _ _ h => h) 0 (ths_one hb) (fun k _ hk => ?_) (by simp; omega) (by simp; omega) trivial (by simp) (oneB_le false)).mono ?_
  · have hk' : w.heap.size = k := by simpa [Value.ownBlock] using hk
    subst hk'
    refine ⟨fun e => by have := h.hq.lt; omega, fun e => by have := h.hq.vlt _ e.symm; omega, fun h => h, hb.lt⟩
  · rintro e w' ⟨rfl, s⟩
    exact ⟨rfl, h4.heap s⟩

theorem HW.swap0 (h : HW W w p v [] came lv L gv G ov O Bs) (a : Int × Int) (hc : came + 1 ≤ 2097152) :
    Calls Try.prog 17 #[.pointer (some ⟨p, 0, none⟩), two a] w fun e w' => e = .returned (.tuple #[two (0, 0), .bool false]) ∧ ∃ v', HW W w' p v' (pushF (odB false) [a] [] came).1 (came + 1) lv L gv G ov O Bs :=
  (swap_none (od_B false) h.hq (fun h => h) (fun _ _ h => h) 0 a hc trivial (by omega) (oneB_le false)).mono fun _ _ ⟨he, s⟩ => ⟨he, h.heap s⟩

theorem HW.swap1 (h : HW W w p v H came lv L gv G ov O Bs) (a : Int × Int) (hH : 0 < H.length) (hn : H.length ≤ 2097152) (hc : came + 1 ≤ 2097152) :
    Calls Try.prog 17 #[.pointer (some ⟨p, 0, none⟩), two a] w fun e w' => e = .returned (.tuple #[two (nth H 0).th, .bool true]) ∧ ∃ v', HW W w' p v' (swapF (odB false) H ⟨a.1, a.2, (came : Int) + 1⟩).1 (came + 1) lv L gv G ov O Bs := by
  rcases h.hq.cases with ⟨_, rfl⟩ | ⟨g, cap, sp, e, hp⟩
  · simp at hH
  · subst e
    obtain ⟨m, hm⟩ : ∃ m, H.length = m + 1 := ⟨H.length - 1, by omega⟩
    rw [hm] at hp
    refine (swap_some (od_B false) hp (fun h => h) (fun h => h) 0 a hc (by omega) trivial (by omega) (oneB_le false)).mono ?_
    rintro e w' ⟨rfl, s⟩
    exact ⟨rfl, h.heap s⟩

theorem HW.pop (h : HW W w p v H came lv L gv G ov O Bs) (hH : 0 < H.length) (hn : H.length ≤ 2097152) :
    Calls Try.prog 16 #[.pointer (some ⟨p, 0, none⟩)] w fun e w' => e = .returned (.tuple #[two (nth H 0).th, .bool true]) ∧ ∃ v', HW W w' p v' (popF (odB false) H).1 came lv L gv G ov O Bs := by
  have hp := pop_any (od_B false) h.hq hn (oneB_le false)
  rw [decide_eq_true hH, if_pos hH] at hp
  refine hp.mono ?_
  rintro e w' ⟨rfl, s⟩
  exact ⟨rfl, h.heap s⟩
end

/-- The pure facts of a Push, a Swap, a Pop. -/
theorem HS.pushed {H : List E} {L : List (Int × Int)} {G : List Bool} (h : HS H L G) (k : Int) : HS (pushF (odB false) [(k, (L.length : Int))] H L.length).1 (L ++ [(k, (L.length : Int))]) (G ++ [false]) :=
  (h.snoc k).perm ((push1_perm (odB false) H L.length (k, (L.length : Int))).trans (List.perm_append_singleton _ _))

theorem HS.popped {H : List E} {L : List (Int × Int)} {G : List Bool} (h : HS H L G) (hH : 0 < H.length) : ∃ n : Nat, n < L.length ∧ (nth H 0).th = tnth L n ∧ (nth H 0).n = n ∧ G[n]? = some false ∧ HS (popF (odB false) H).1 L (G.set n true) :=
  (h.perm (popF_perm (odB false) hH).symm).out

theorem HS.swapped {H : List E} {L : List (Int × Int)} {G : List Bool} (h : HS H L G) (hH : 0 < H.length) (k : Int) : ∃ n : Nat, n < L.length ∧ (nth H 0).th = tnth L n ∧ (nth H 0).n = n ∧ G[n]? = some false ∧
    HS (swapF (odB false) H ⟨k, L.length, (L.length : Int) + 1⟩).1 (L ++ [(k, (L.length : Int))]) (G.set n true ++ [false]) := by
  obtain ⟨X, p1, p2⟩ := swapF_perm (odB false) hH ⟨k, L.length, (L.length : Int) + 1⟩
  obtain ⟨n, n1, n2, n3, n4, n5⟩ := (h.perm p1.symm).out
  exact ⟨n, n1, n2, n3, n4, (n5.snoc k).perm p2⟩

end Go.Proofs.Ytbfbjjfjeiihbaa
