import Derived.Test.YtpkcabbfblhekaaFrP
import Derived.Test.YtpkcabbfblhekaaLe
import Derived.Test.YtpkcabbfblhekaaSmall
import Derived.Deep.RegionWith
import Derived.Test.YtpkcabbfblhekaaFrB
import Derived.Test.YtpkcabbfblhekaaSo
import Derived.Test.YtpkcabbfblhekaaRfR
/-
  The document's Least; listed.
-/
namespace Go.Proofs.Ytpkcabbfblhekaa
open Go.RowKit

theorem Ths.take0 {w : World} {b c : Nat} {L : List (Int × Int)} (hc : ∀ i, i < L.length → w.cell? ⟨b, 0 + i * 2, none⟩ = some (.int .i64 (tnth L i).1) ∧ w.cell? ⟨b, 0 + i * 2 + 1, none⟩ = some (.int .i64 (tnth L i).2)) (k : Nat) (hk : k ≤ L.length) : Ths w (.slice (some ⟨b, 0, none⟩) k c) (L.take k) := by
  have := Ths.cut (n := k) (c := c) hc 0 k (by omega) rfl
  simpa using this

set_option maxRecDepth 100000 in
set_option maxHeartbeats 2000000 in
theorem refleast_any {W : World} {s : Value} {L : List (Int × Int)} (h : Tc W s L) (hl : L.length ≤ 2097152) (n : Int) (kk : Nat) (hk : (kk : Int) = max (min n L.length) 0) (all : Bool) :
    Calls Try.prog 28 #[s, .int .i64 n, .bool all] W fun e w' => ∃ v, e = .returned v ∧ Ths w' v ((srt all L.length L).take kk) ∧ Chg (fun _ => False) W w' := by
  have RS : Hid _ := refsort_any h hl all
  obtain ⟨sa, sc, rfl⟩ := h.ths.form
  clear h
  go_enter Try.func28, Try.ntmps28
  go_wp2_with fail
  refine Calls.mono RS.out ?_
  rintro e w1 ⟨v, rfl, ho, ch, _⟩
  have hsl := srt_len all L.length L
  have hf := ho.form
  rw [hsl] at hf
  obtain ⟨va, vc, rfl⟩ := hf
  have OW : Hid (OwnT _ _ _) := ho
  have CH : Hid _ := ch
  have SL : Hid _ := hsl
  clear ho ch RS hsl
  by_cases h1 : n < 0
  · have hk0 : kk = 0 := by omega
    subst hk0
    by_cases h2 : 0 < L.length
    · have h2' : (0 : Int) < (L.length : Int) := by omega
      obtain ⟨b, c, hv, hcc, _, hcel⟩ := OW.out.at (i := 0) (by rw [SL.out]; exact h2)
      rw [SL.out] at hv hcc
      injection hv with hva _ hvc
      subst hva hvc
      have HC : Hid _ := hcel
      clear hcel
      go_wp2_with fail
      go_ret
      exact ⟨_, rfl, .inr (.inl ⟨_, _, rfl, by simp⟩), CH.out⟩
    · have h2' : (L.length : Int) = 0 := by omega
      go_wp2_with fail
      go_ret
      refine ⟨_, rfl, ?_, CH.out⟩
      have := OW.out.ths
      have e : srt all L.length L = [] := List.eq_nil_of_length_eq_zero (by rw [SL.out]; omega)
      rw [e] at this ⊢
      simpa using this
  · by_cases h2 : n < L.length
    · obtain rfl : n = (kk : Int) := by omega
      have hkl : kk < L.length := by omega
      clear hk
      obtain ⟨b, c, hv, hcc, _, hcel⟩ := OW.out.at (i := 0) (by rw [SL.out]; omega)
      rw [SL.out] at hv hcc
      injection hv with hva _ hvc
      subst hva hvc
      have HC : Hid _ := hcel
      have hkc : (kk : Int) ≤ (vc : Int) := by omega
      clear hcel
      go_wp2_with fail
      go_ret
      exact ⟨_, rfl, Ths.take0 HC.out kk (by rw [SL.out]; omega), CH.out⟩
    · obtain rfl : kk = L.length := by omega
      clear hk
      go_wp2_with fail
      go_ret
      refine ⟨_, rfl, ?_, CH.out⟩
      rw [List.take_of_length_le (by rw [SL.out]; exact Nat.le_refl _)]
      exact OW.out.ths

end Go.Proofs.Ytpkcabbfblhekaa

/-
  listed: a list handed to Sort and Least.
-/
namespace Go.Proofs.Ytpkcabbfblhekaa
open Go.RowKit

theorem fB_form (all : Bool) : fB all = .nilFunc ∨ ∃ g caps, fB all = .func (.func g) #[] caps := by
  cases all
  · exact .inr ⟨11, #[], rfl⟩
  · exact .inl rfl
theorem fB_plain (all : Bool) : ∀ cs, fB all ≠ .agg cs := fun cs e => by cases all <;> cases e

set_option maxRecDepth 100000 in
set_option maxHeartbeats 4000000 in
theorem listed_any {w : World} {s : Value} {L : List (Int × Int)} (hL : Ths w s L) (hl : L.length ≤ 1048576) (n : Int) (kk : Nat) (hk : (kk : Int) = max (min n L.length) 0) (all : Bool) :
    Calls Try.prog 26 #[s, .int .i64 n, fB all] w fun e w' => ∃ va vb, e = .returned (.tuple #[va, vb, .bool true]) ∧ Ths w' va (srt all L.length L) ∧ Ths w' vb ((srt all L.length L).take kk) ∧ Chg (fun _ => False) w w' := by
  obtain ⟨sa, sc, rfl⟩ := hL.form
  obtain ⟨f, hf⟩ : ∃ f, f = fB all := ⟨_, rfl⟩
  have O := od_B all
  have ff := fB_form all
  have fp := fB_plain all
  rw [← hf] at O ff fp ⊢
  obtain ⟨v3, w3, hr3, ho3, hc3, hv3⟩ := run_app2 w 28 (OwnT.nil w) hL (by simp; omega)
  rw [List.nil_append] at ho3
  have hC3 : Chg (fun _ => False) w w3 := hc3.mono (fun k _ e => by simp [Value.ownBlock] at e)
  have hv3' : ∀ k, v3.ownBlock = some k → w.heap.size ≤ k := fun k hk => by
    rcases hv3 with e | e
    · rw [hk] at e; simp [Value.ownBlock] at e
    · rw [hk] at e
      have : k = w.heap.size := by simpa using e
      omega
  obtain ⟨w4, hw4⟩ : ∃ w4, w4 = w3.alloc (.cells #[.int .i64 0, .int .i64 (-7)] 26) := ⟨_, rfl⟩
  have hc4 : Chg (fun _ => False) w3 w4 := by rw [hw4]; exact (Chg.refl _ _).alloc _
  have hX4 : Blk w4 w3.heap.size [.int .i64 0, .int .i64 (-7)] 26 := by rw [hw4]; exact Blk.made w3 [.int .i64 0, .int .i64 (-7)] 26
  have src4 : Ths w4 (.slice (some ⟨w3.heap.size, 0, none⟩) 1 1) [(0, -7)] := .inr (.inr ⟨w3.heap.size, 0, 1, rfl, fun i z hz => by
    cases i with
    | zero => have h9 : ((0 : Int), (-7 : Int)) = z := by simpa using hz
              subst h9; exact ⟨hX4.cell 0, hX4.cell 1⟩
    | succ i => simp at hz⟩)
  obtain ⟨v5, w5, hr5, ho5, hc5, hv5⟩ := run_app2 w4 28 (ho3.keep hc4 (fun _ _ h => h)) src4 (by simp; omega)
  have hC5 : Chg (fun _ => False) w w5 := (hC3.trans hc4 (fun _ h => h.elim)).trans hc5 (fun k hk => .inr (hv3' k hk.symm))
  obtain ⟨a3, c3, e3⟩ := ho3.form
  subst e3
  have hl5 : (L ++ [((0 : Int), (-7 : Int))]).length = L.length + 1 := by simp
  obtain ⟨g, cap, e5, hcap, hg5, hcell5⟩ := ho5.at (i := 0) (by omega)
  subst e5
  have hget : ∀ i, i < L.length → tnth (L ++ [((0 : Int), (-7 : Int))]) i = tnth L i := fun i hi => by unfold tnth; rw [List.getD_eq_getElem?_getD, List.getD_eq_getElem?_getD, List.getElem?_append_left hi]
  have give5 : Ths w5 (.slice (some ⟨g, 0, none⟩) L.length cap) L := by
    have := Ths.take0 (c := cap) hcell5 L.length (by omega)
    rwa [List.take_left' rfl] at this
  rw [hl5] at hr5 hcap
  have hlast : tnth (L ++ [((0 : Int), (-7 : Int))]) L.length = (0, -7) := by unfold tnth; rw [List.getD_eq_getElem?_getD, List.getElem?_append_right (Nat.le_refl _)]; simp
  obtain ⟨x0, x1⟩ := hcell5 L.length (by omega)
  rw [hlast, Nat.zero_add] at x0 x1
  simp only at x0 x1
  have SO : Hid _ := sort_any O (oneB_le all) ff give5 (fun _ _ _ h => h) 0 hl trivial (by omega)
  have LE : Hid (∀ w', Chg (fun _ => False) w5 w' → _) := fun w' (k : Chg (fun _ => False) w5 w') => least_any O (oneB_le all) fp (give5.keep k (fun _ _ h => h)) (fun _ _ _ h => h) n kk 0 hk hl trivial (by omega)
  have SM : Hid (∀ w', Chg (fun _ => False) w5 w' → _) := fun w' (k : Chg (fun _ => False) w5 w') => same_any (give5.keep k (fun _ _ h => h)) ((hL.keep hC5 (fun _ _ h => h)).keep k (fun _ _ h => h)) (by omega)
  have R3 : Hid _ := hr3
  have R5 : Hid _ := hr5
  have W4 : Hid _ := hw4
  have C5 : Hid _ := hC5
  have X0 : Hid _ := x0
  have X1 : Hid _ := x1
  have hlc : (L.length : Int) ≤ (cap : Int) := by omega
  have EQ := eql26
  have HK : Hid _ := hk
  clear O ff fp hf hr3 ho3 hc3 hv3 hC3 hv3' hw4 hc4 hX4 src4 hr5 ho5 hc5 hv5 hC5 hl5 hcell5 hget give5 hlast x0 x1 hL hk
  go_enter Try.func26, Try.ntmps26
  go_upto_region 5 with (at_builtin; first | (refine wpList_app2 rfl (.tmp 14) (.tmp 15) rfl rfl rfl R3.out ?_) | (rw [← W4.out]; refine wpList_app2 rfl (.tmp 17) (.tmp 19) rfl rfl rfl R5.out ?_))
  go_wp2_with fail
  refine Calls.mono SO.out ?_
  rintro e w6 ⟨va, rfl, oa, _, _, ch6⟩
  have A6 : Hid (OwnT _ _ _) := oa
  have C6 : Hid (Chg _ _ _) := ch6
  clear oa ch6 SO
  go_wp2_with fail
  refine Calls.mono (SM.out w6 C6.out) ?_
  rintro e w7 ⟨rfl, ch7⟩
  have C7 : Hid (Chg (fun _ => False) w5 w7) := C6.out.trans ch7 (fun _ h => h.elim)
  have A7 : Hid (OwnT _ _ _) := A6.out.keep ch7 (fun _ _ h => h)
  clear ch7 A6 C6
  go_wp2_with fail
  refine Calls.mono (LE.out w7 C7.out) ?_
  rintro e w8 ⟨vb, rfl, ob, _, _, ch8⟩
  have C8 : Hid (Chg (fun _ => False) w5 w8) := C7.out.trans ch8 (fun _ h => h.elim)
  have A8 : Hid (OwnT _ _ _) := A7.out.keep ch8 (fun _ _ h => h)
  have B8 : Hid (OwnT _ _ _) := ob
  clear ch8 ob A7 C7 LE
  have SM8 : Hid _ := SM.out w8.drew C8.out.drew
  have hNn : (L.length : Int) < (L.length : Int) + 1 := by omega
  have NQ : Hid (∀ w9, Chg (fun _ => False) w8.drew w9 → w9.cell? ⟨g, L.length * 2, none⟩ = some (.int .i64 0) ∧ w9.cell? ⟨g, L.length * 2 + 1, none⟩ = some (.int .i64 (-7))) := fun w9 k => by
    have hb : w9.heap[g]? = w5.heap[g]? := (C8.out.drew.trans k (fun _ h => h.elim)).block g hg5 (fun h => h)
    exact ⟨(World.cell?_of_block (a := ⟨g, L.length * 2, none⟩) hb).trans X0.out, (World.cell?_of_block (a := ⟨g, L.length * 2 + 1, none⟩) hb).trans X1.out⟩
  clear SM X0 X1
  go_wp2_with fail
  go_region_with (go_at_call 19; refine Calls.mono SM8.out ?_; rintro e w9 ⟨rfl, ch9⟩; obtain ⟨x0, x1⟩ := NQ.out w9 ch9; have C9 : Hid (Chg _ _ _) := ch9; clear ch9)
  go_wp2_with fail
  refine bodyPost_ret (results_tmp3 rfl _ _ _) rfl ?_
  have hkl : kk ≤ L.length := by have := HK.out; omega
  have hall : Chg (fun _ => False) w8 w9 := ((Chg.refl (fun _ => False) w8).drew).trans C9.out (fun _ h => h.elim)
  have qa := (A8.out.keep hall (fun _ _ h => h)).ths
  have qb := (B8.out.keep hall (fun _ _ h => h)).ths
  rw [sort_srt] at qa
  rw [least_is all L kk hkl, sort_srt] at qb
  exact ⟨va, vb, rfl, qa, qb, (C5.out.trans C8.out (fun _ h => h.elim)).trans hall (fun _ h => h.elim)⟩

end Go.Proofs.Ytpkcabbfblhekaa

/-
  HeapFresh: each call at one blow.
-/
namespace Go.Proofs.Ytpkcabbfblhekaa
open Go.RowKit

def fK : Value := .func (.func 11) #[] #[]

theorem own_pre {w : World} {a : Option Addr} {n c kk : Nat} {l : List (Int × Int)} (h : OwnT w (.slice a n c) l) (hk : kk ≤ l.length) : Ths w (.slice a kk c) (l.take kk) := by
  rcases h.2 with ⟨e, h0⟩ | ⟨g, cap, cur, e, _⟩
  · injection e with e1 e2 e3
    subst e1 e3
    have e : kk = 0 := by omega
    subst e
    exact .inl ⟨rfl, rfl⟩
  · injection e with e1 e2 e3
    subst e1
    rcases Nat.eq_zero_or_pos kk with h0 | h0
    · subst h0
      exact .inr (.inl ⟨⟨g, 0, none⟩, c, rfl, rfl⟩)
    · have hll : (l.take kk).length = kk := by rw [List.length_take]; omega
      refine .inr (.inr ⟨g, 0, c, by rw [hll], fun i a ha => ?_⟩)
      have hi := (List.getElem?_eq_some_iff.1 ha).1
      obtain ⟨b', o', e4, e5, e6⟩ := h.ths.atF (i := i) (x := a) (by rw [List.getElem?_take, if_pos (by omega)] at ha; exact ha)
      injection e4 with e4
      injection e4 with e4 e7
      subst e4 e7
      exact ⟨e5, e6⟩

section
variable {W w : World} {F : List En}

theorem FS.own (h : FS W w F) (i : Nat) {v : Value} {l : List (Int × Int)} (hi : F[i]? = some (En.one v l)) : OwnT w v l := h.hold i _ hi

theorem FS.sort (h : FS W w F) {s : Value} {l : List (Int × Int)} (ht : Ths w s l) (hu : Up l) (hl : l.length ≤ 1048576) :
    Calls Try.prog 20 #[s, fK] w fun e w' => ∃ v, e = .returned v ∧ FS W w' (F ++ [En.one v l]) := by
  refine (sort_any (od_B false) (oneB_le false) (fB_form false) ht (fun _ _ _ h => h) 0 hl trivial (by omega)).mono ?_
  rintro e w' ⟨v, rfl, o, fr, _, ch⟩
  rw [sort_up hu] at o
  exact ⟨v, rfl, h.add ch (En.one v l) o (fun u hu j hj => by obtain rfl := List.mem_singleton.1 hu; exact fr j hj)⟩

theorem FS.least (h : FS W w F) {s : Value} {l : List (Int × Int)} (ht : Ths w s l) (hu : Up l) (hl : l.length ≤ 1048576) (n : Int) (kk : Nat) (hk : (kk : Int) = max (min n l.length) 0) :
    Calls Try.prog 21 #[s, .int .i64 n, fK] w fun e w' => ∃ v, e = .returned v ∧ FS W w' (F ++ [En.one v (l.take kk)]) := by
  refine (least_any (od_B false) (oneB_le false) (fB_plain false) ht (fun _ _ _ h => h) n kk 0 hk hl trivial (by omega)).mono ?_
  rintro e w' ⟨v, rfl, o, fr, _, ch⟩
  rw [least_up hu kk (by omega)] at o
  exact ⟨v, rfl, h.add ch (En.one v _) o (fun u hu j hj => by obtain rfl := List.mem_singleton.1 hu; exact fr j hj)⟩

theorem FS.mark (h : FS W w F) (i : Nat) {v : Value} {l : List (Int × Int)} (hi : F[i]? = some (En.one v l)) (m : Int) (hm : -10000 ≤ m ∧ m ≤ 0) (hl : l.length ≤ 2097152) :
    Calls Try.prog 29 #[v, .int .i64 m] w fun e w' => e = .returned (.tuple #[]) ∧ FS W w' (F.set i (En.one v (mkL m l.length))) := by
  refine (marked_any (h.own i hi) m hm hl).mono ?_
  rintro e w' ⟨rfl, o, k⟩
  exact ⟨rfl, h.turn i hi k (fun j hj => ⟨v, List.mem_singleton_self _, hj.symm⟩) (En.one v _) o (fun u hu j hj => .inl ⟨u, hu, hj⟩)⟩

theorem FS.grow (h : FS W w F) (i : Nat) {v : Value} {l : List (Int × Int)} (hi : F[i]? = some (En.one v l)) (m : Int) (hl : l.length ≤ 2097152) :
    Calls Try.prog 30 #[v, .int .i64 m] w fun e w' => ∃ x, e = .returned x ∧ FS W w' (F.set i (En.two v x l (rpL m 64))) := by
  have hv := h.own i hi
  refine (grown_any hv m hl).mono ?_
  rintro e w' ⟨x, rfl, o, t, k, b⟩
  refine ⟨x, rfl, h.turn i hi k (fun j hj => ⟨v, List.mem_singleton_self _, hj.symm⟩) (En.two v x l (rpL m 64)) ⟨o, t, fun j hj => Nat.lt_of_lt_of_le (hv.lt hj) k.size⟩ (fun u hu j hj => ?_)⟩
  have hu' : u = v ∨ u = x := by simpa [En.two] using hu
  rcases hu' with rfl | rfl
  · exact .inl ⟨u, List.mem_singleton_self _, hj⟩
  · rcases b j hj with e | e
    · exact .inl ⟨v, List.mem_singleton_self _, e⟩
    · exact .inr e

theorem FS.same (h : FS W w F) {u v : Value} {l : List (Int × Int)} (hu : Ths w u l) (hv : Ths w v l) (hl : l.length ≤ 2097152) :
    Calls Try.prog 19 #[u, v] w fun e w' => e = .returned (.bool true) ∧ FS W w' F := by
  refine (same_any hu hv hl).mono ?_
  rintro e w' ⟨rfl, k⟩
  exact ⟨rfl, h.keep k⟩

theorem FS.stand (h : FS W w F) (i : Nat) {v x : Value} {n : Nat} {m b : Int} (hi : F[i]? = some (En.two v x (mkL m n) (rpL b 64))) (hn : n ≤ 1048576) (hm0 : -10000 ≤ m) (hm1 : m ≤ 0) :
    Calls Try.prog 31 #[v, x, .int .i64 m, .int .i64 b] w fun e w' => e = .returned (.bool true) ∧ FS W w' F := by
  obtain ⟨o, t, _⟩ : (En.two v x (mkL m n) (rpL b 64)).P w := h.hold i _ hi
  refine (stands_any t o.ths hn hm0 hm1).mono ?_
  rintro e w' ⟨rfl, k⟩
  exact ⟨rfl, h.keep k⟩
end

end Go.Proofs.Ytpkcabbfblhekaa

/-
  A region that draws its order, in a plain walk: one walk an operation.
-/
namespace Go.Proofs.Ytpkcabbfblhekaa
open Go.RowKit

theorem wpAny_inv {P : Program} {md : Region.Mode} {ops : Array Oper} {Q : Exit → Act → World → Prop} (J : (Nat → Bool) → Act → World → Prop)
    (hb : ∀ (i : Nat) (o : Oper), ops[i]? = some o → ∀ e ∈ o.after, Region.binds md e = true → e.on < i)
    (hd : ∀ d a w, J d a w → (∀ i, i < ops.size → d i = true) → Q .normal a w)
    (hstep : ∀ d a w (i : Nat) (o : Oper), J d a w → d i = false → ops[i]? = some o → (∀ e ∈ o.after, Region.binds md e = true → d e.on = true) →
      ∀ K' : Act → World → Prop, (∀ a w, J (fun j => if j = i then true else d j) a w → K' a w) → if Region.wanted o (yielded ops a.tmps) = true then Oper.wp P o a w K' Q else K' (a.put o.dst undef) w) :
    ∀ (fuel : Nat) (listed : Array Bool) (d : Nat → Bool) (a : Act) (w : World), listed.size = ops.size → (∀ i, i < ops.size → listed.getD i true = d i) → unl ops.size listed ≤ fuel → J d a w → wpAny P md ops Q fuel listed a w := by
  have hmem : ∀ {listed : Array Bool} {i : Nat}, i ∈ Region.ready md ops listed ↔ listed.getD i true = false ∧ ∃ o, ops[i]? = some o ∧ ∀ e ∈ o.after, Region.binds md e = true → listed.getD e.on false = true := fun {listed i} => mem_ready
  have hdone : ∀ (listed : Array Bool) (d : Nat → Bool) (a : Act) (w : World), listed.size = ops.size → (∀ i, i < ops.size → listed.getD i true = d i) → J d a w → Region.ready md ops listed = [] → Q .normal a w := by
    intro listed d a w hsz hl hJ hr
    refine hd d a w hJ (fun i => ?_)
    induction i using Nat.strongRecOn with
    | _ i ih =>
      intro hi
      rcases hdi : d i with _ | _
      · exfalso
        have ho : ops[i]? = some ops[i] := Array.getElem?_eq_getElem hi
        have : i ∈ Region.ready md ops listed := hmem.2 ⟨(hl i hi).trans hdi, _, ho, fun e he hbe => by
          have h1 := hb i _ ho e he hbe
          have h2 := ih e.on h1 (by omega)
          have h3 := hl e.on (by omega)
          rw [h2] at h3
          have h4 : e.on < listed.size := by omega
          simp [h4] at h3 ⊢
          exact h3⟩
        rw [hr] at this
        cases this
      · rfl
  intro fuel
  induction fuel with
  | zero =>
    intro listed d a w hsz hl hu hJ
    have hr : Region.ready md ops listed = [] := by
      cases hr : Region.ready md ops listed with
      | nil => rfl
      | cons i rs =>
        exfalso
        obtain ⟨h1, o, h2, _⟩ := hmem.1 (show i ∈ Region.ready md ops listed by rw [hr]; exact List.mem_cons_self)
        have hi : i < ops.size := (Array.getElem?_eq_some_iff.1 h2).1
        have := unl_set hi h1
        omega
    exact ⟨hr, hdone listed d a w hsz hl hJ hr⟩
  | succ fuel ih =>
    intro listed d a w hsz hl hu hJ
    refine ⟨hdone listed d a w hsz hl hJ, fun i hi => ?_⟩
    obtain ⟨h1, o, h2, h3⟩ := hmem.1 hi
    have hi' : i < ops.size := (Array.getElem?_eq_some_iff.1 h2).1
    have hdi : d i = false := (hl i hi').symm.trans h1
    have := hstep d a w i o hJ hdi h2 (fun e he hbe => by
      have h4 := h3 e he hbe
      have h5 := hb i o h2 e he hbe
      have h6 := hl e.on (by omega)
      have h7 : e.on < listed.size := by omega
      simp [h7] at h4 h6
      rw [← h6]; exact h4) (wpAny P md ops Q fuel (listed.setIfInBounds i true)) (fun a' w' hJ' => ih _ _ a' w' (by simp [hsz]) (fun j hj => by
        by_cases e : j = i
        · subst e
          have : j < listed.size := by omega
          simp [this]
        · have e' : i ≠ j := fun h => e h.symm
          have h8 := hl j hj
          simp only [e, if_false]
          rw [← h8]
          simp [Array.getElem?_setIfInBounds_ne e']) (by have := unl_set hi' h1; omega) hJ')
    unfold wpOp
    rw [h2]
    simp only
    split
    · rename_i hw; rw [if_pos hw] at this; exact .inl this
    · rename_i hw; rw [if_neg hw] at this; exact this

theorem region_plain {P : Program} {id : Nat} {ops : Array Oper} {Q : Exit → Act → World → Prop} {a : Act} {w : World} (hm : P.follows .mixedOrders = true) (J : (Nat → Bool) → Act → World → Prop) (h0 : J (fun _ => false) a w.drew)
    (hb : ∀ (i : Nat) (o : Oper), ops[i]? = some o → ∀ e ∈ o.after, Region.binds .any e = true → e.on < i)
    (hd : ∀ d a w, J d a w → (∀ i, i < ops.size → d i = true) → Q .normal a w)
    (hstep : ∀ d a w (i : Nat) (o : Oper), J d a w → d i = false → ops[i]? = some o → (∀ e ∈ o.after, Region.binds .any e = true → d e.on = true) →
      ∀ K' : Act → World → Prop, (∀ a w, J (fun j => if j = i then true else d j) a w → K' a w) → if Region.wanted o (yielded ops a.tmps) = true then Oper.wp P o a w K' Q else K' (a.put o.dst undef) w) :
    (Code.region id ops true).wp P Q a w := by
  refine wp_region_any hm ?_
  refine wpAny_inv J hb hd hstep ops.size _ (fun _ => false) a _ (by simp) (fun i hi => by simp [hi]) ?_ h0
  exact Nat.le_trans (List.length_filter_le _ _) (by simp)

end Go.Proofs.Ytpkcabbfblhekaa

/-
  A region that draws its order, over a frame that is a letter: each operation that is done has its value in its slot.
-/
namespace Go.Proofs.Ytpkcabbfblhekaa
open Go.RowKit

/-- What stands while a region is done in whatever order. -/
structure RJ (n : Nat) (sl : Nat → Nat) (m : Nat) (fx : List (Nat × Value)) (Φ : Nat → World → Value → Prop) (C : World → Prop) (d : Nat → Bool) (b : Act) (w : World) : Prop where
  sz : b.tmps.size = n
  df : b.defers = []
  fix : ∀ x ∈ fx, b.tmps.getD x.1 undef = x.2
  val : ∀ i, i < m → d i = true → Φ i w (b.tmps.getD (sl i) undef)
  ch : C w

theorem RJ.put {n : Nat} {sl : Nat → Nat} {m : Nat} {fx : List (Nat × Value)} {Φ : Nat → World → Value → Prop} {C : World → Prop} {d : Nat → Bool} {b : Act} {w w' : World} (h : RJ n sl m fx Φ C d b w) (i : Nat) {s : Nat} {v : Value}
    (hs : s = sl i) (hn : sl i < n) (hj : ∀ j, j < m → j ≠ i → sl j ≠ sl i) (hf : ∀ x ∈ fx, x.1 ≠ sl i) (hv : Φ i w' v) (hC : C w') (hm : ∀ j u, Φ j w u → Φ j w' u) :
    RJ n sl m fx Φ C (fun j => if j = i then true else d j) (b.put (some s) v) w' := by
  subst hs
  have get : ∀ t, t ≠ sl i → (b.tmps.setIfInBounds (sl i) v).getD t undef = b.tmps.getD t undef := fun t ht => by
    rw [Array.getD_eq_getD_getElem?, Array.getD_eq_getD_getElem?, Array.getElem?_setIfInBounds_ne (fun e => ht e.symm)]
  have got : (b.tmps.setIfInBounds (sl i) v).getD (sl i) undef = v := by
    have : sl i < b.tmps.size := by rw [h.sz]; exact hn
    rw [Array.getD_eq_getD_getElem?]
    simp [this]
  refine ⟨by show (b.tmps.setIfInBounds _ _).size = n; rw [Array.size_setIfInBounds, h.sz], h.df, fun x hx => ?_, fun j hjm hd => ?_, hC⟩
  · show (b.tmps.setIfInBounds _ _).getD _ _ = _
    rw [get _ (hf x hx)]
    exact h.fix x hx
  · show Φ j w' ((b.tmps.setIfInBounds _ _).getD _ _)
    by_cases e : j = i
    · rw [e, got]; exact hv
    · rw [get _ (hj j hjm e)]
      have hd' : (if j = i then true else d j) = true := hd
      rw [if_neg e] at hd'
      exact hm j _ (h.val j hjm hd')

theorem yield_of {ops : Array Oper} {T : Array Value} {j s : Nat} {t : Bool} (ho : ((ops[j]?).bind (·.dst)) = some s) (hs : s < T.size) (hv : T.getD s undef = .bool t) : yielded ops T j = some t := by
  unfold yielded
  rw [ho]
  have e : T[s]? = some (.bool t) := by
    rw [Array.getD_eq_getD_getElem?] at hv
    rw [Array.getElem?_eq_getElem hs] at hv ⊢
    simpa using hv
  show (match T[s]? with | some (.bool b) => some b | _ => none) = some t
  rw [e]

/-- A region within a code. -/
def regIn (n : Nat) : Code → Option (Array Oper)
  | .region id ops _ => if id = n then some ops else none
  | .seq a b => match regIn n a with
    | some o => some o
    | none => regIn n b
  | _ => none

end Go.Proofs.Ytpkcabbfblhekaa

/-
  A plain region over a frame that is a letter.
-/
namespace Go.Proofs.Ytpkcabbfblhekaa
open Go.RowKit

theorem wpList_inv {P : Program} {ops : Array Oper} {Q : Exit → Act → World → Prop} (J : (Nat → Bool) → Act → World → Prop)
    (hd : ∀ d a w, J d a w → (∀ i, i < ops.size → d i = true) → Q .normal a w)
    (hstep : ∀ d a w (i : Nat) (o : Oper), J d a w → d i = false → ops[i]? = some o → (∀ j, j < i → d j = true) →
      ∀ K' : Act → World → Prop, (∀ a w, J (fun j => if j = i then true else d j) a w → K' a w) → if Region.wanted o (yielded ops a.tmps) = true then Oper.wp P o a w K' Q else K' (a.put o.dst undef) w) :
    ∀ (n k : Nat) (d : Nat → Bool) (a : Act) (w : World), n + k = ops.size → (∀ j, d j = decide (j < k)) → J d a w → wpList P ops Q (ops.toList.drop k) a w
  | 0, k, d, a, w, hk, hdk, hJ => by
    rw [List.drop_of_length_le (by rw [Array.length_toList]; omega)]
    exact wpList_nil (hd d a w hJ (fun i hi => by rw [hdk]; exact decide_eq_true (by omega)))
  | n + 1, k, d, a, w, hk, hdk, hJ => by
    have hkl : k < ops.toList.length := by rw [Array.length_toList]; omega
    rw [List.drop_eq_getElem_cons hkl]
    refine wpList_step fun K hK => ?_
    have ho : ops[k]? = some ops.toList[k] := by
      rw [Array.getElem_toList]
      exact Array.getElem?_eq_getElem (by omega)
    refine hstep d a w k _ hJ (by rw [hdk]; exact decide_eq_false (by omega)) ho (fun j hj => by rw [hdk]; exact decide_eq_true hj) K (fun a' w' hJ' => hK a' w' ?_)
    refine wpList_inv J hd hstep n (k + 1) _ a' w' (by omega) (fun j => ?_) hJ'
    by_cases e : j = k
    · simp [e]
    · simp only [e, if_false]
      rw [hdk]
      have : (j < k) = (j < k + 1) := by apply propext; omega
      simp [this]

theorem region_list {P : Program} {id : Nat} {ops : Array Oper} {Q : Exit → Act → World → Prop} {a : Act} {w : World} (J : (Nat → Bool) → Act → World → Prop) (h0 : J (fun _ => false) a w)
    (hd : ∀ d a w, J d a w → (∀ i, i < ops.size → d i = true) → Q .normal a w)
    (hstep : ∀ d a w (i : Nat) (o : Oper), J d a w → d i = false → ops[i]? = some o → (∀ j, j < i → d j = true) →
      ∀ K' : Act → World → Prop, (∀ a w, J (fun j => if j = i then true else d j) a w → K' a w) → if Region.wanted o (yielded ops a.tmps) = true then Oper.wp P o a w K' Q else K' (a.put o.dst undef) w) :
    (Code.region id ops false).wp P Q a w := by
  refine wp_region_list ?_
  have := wpList_inv J hd hstep ops.size 0 (fun _ => false) a w (by omega) (fun j => by simp) h0
  simpa using this

end Go.Proofs.Ytpkcabbfblhekaa

/-
  HeapFresh: regions of a call over a frame that is a letter.
-/
namespace Go.Proofs.Ytpkcabbfblhekaa
open Go.RowKit

theorem want_of {o : Oper} {y : Nat → Option Bool} {j : Nat} {t : Bool} (hg : o.guard = some (j, t)) (hy : y j = some t) : Region.wanted o y = true := by
  unfold Region.wanted
  rw [hg]
  simp [hy]
theorem want_all {o : Oper} {y : Nat → Option Bool} (hg : o.guard = none) : Region.wanted o y = true := by
  unfold Region.wanted
  rw [hg]
theorem getD_set_ne {T : Array Value} {i j : Nat} {v : Value} (h : j ≠ i) : (T.setIfInBounds i v).getD j undef = T.getD j undef := by
  rw [Array.getD_eq_getD_getElem?, Array.getD_eq_getD_getElem?, Array.getElem?_setIfInBounds_ne (fun e => h e.symm)]
theorem getD_set {T : Array Value} {i : Nat} {v : Value} (h : i < T.size) : (T.setIfInBounds i v).getD i undef = v := by
  rw [Array.getD_eq_getD_getElem?]
  simp [h]

/-- A frame of which some slots are told. -/
structure Fr (A : Act) (fx : List (Nat × Value)) : Prop where
  sz : A.tmps.size = 154
  df : A.defers = []
  fx : ∀ x ∈ fx, A.tmps.getD x.1 undef = x.2

theorem Fr.put {T : Array Value} {df : List Deferred} {fx : List (Nat × Value)} (h : Fr ⟨T, df⟩ fx) (i : Nat) (v : Value) (hi : ∀ x ∈ fx, x.1 ≠ i) : Fr ⟨T.setIfInBounds i v, df⟩ fx :=
  ⟨by show (T.setIfInBounds i v).size = 154; rw [Array.size_setIfInBounds]; exact h.sz, h.df, fun x hx => (getD_set_ne (hi x hx)).trans (h.fx x hx)⟩

set_option maxRecDepth 100000 in
theorem regM {id : Nat} {ops : Array Oper} {src d0 d1 ty : Nat} {ps : String} {a0 a1 : Array Edge} {m : Int} {fx : List (Nat × Value)} {v : Value} {w : World} {R : World → Prop} {A : Act} {Q : Exit → Act → World → Prop}
    (hops : ops.toList = [⟨some d0, .move (.tmp src), 28, ps, a0, none⟩, ⟨some d1, .call ⟨.value (.func 29), #[.tmp d0, .const (.int .i64 m)], #[28, 3]⟩, ty, ps, a1, none⟩])
    (h0 : d0 < 154) (hf : ∀ x ∈ fx, x.1 ≠ d0 ∧ x.1 ≠ d1) (hs : (src, v) ∈ fx) (HC : Calls Try.prog 29 #[v, .int .i64 m] w fun e w' => e = .returned (.tuple #[]) ∧ R w') (hA : Fr A fx)
    (hQ : ∀ b w', Fr b fx → R w' → Q .normal b w') : (Code.region id ops false).wp Try.prog Q A w := by
  refine wp_region_list ?_
  rw [hops]
  obtain ⟨T, df⟩ := A
  have e0 : T.getD src undef = v := hA.fx _ hs
  refine wpList_plain rfl fun K hK => ?_
  show K ⟨T.setIfInBounds d0 (T.getD src undef), df⟩ w
  rw [e0]
  refine hK _ _ ?_
  have hB := hA.put d0 v (fun x hx => (hf x hx).1)
  have x0 : (T.setIfInBounds d0 v).getD d0 undef = v := getD_set (by have : T.size = 154 := hA.sz; omega)
  obtain ⟨T2, hT2⟩ : ∃ T2, T2 = T.setIfInBounds d0 v := ⟨_, rfl⟩
  rw [← hT2] at x0 hB ⊢
  clear hT2 e0 hA hK
  refine wpList_plain rfl fun K hK => ?_
  go_simp
  refine Calls.mono HC ?_
  rintro e w' ⟨rfl, hr⟩
  exact hK _ _ (wpList_nil (hQ _ w' (hB.put d1 _ (fun x hx => (hf x hx).2)) hr))

set_option maxRecDepth 100000 in
theorem regG {id : Nat} {ops : Array Oper} {src d0 d1 d2 t2 : Nat} {ps : String} {a0 a1 a2 : Array Edge} {m : Int} {fx : List (Nat × Value)} {v : Value} {w : World} {R : Value → World → Prop} {A : Act} {Q : Exit → Act → World → Prop}
    (hops : ops.toList = [⟨some d0, .move (.tmp src), 28, ps, a0, none⟩, ⟨some d1, .call ⟨.value (.func 30), #[.tmp d0, .const (.int .i64 m)], #[28, 3]⟩, 28, ps, a1, none⟩, ⟨some d2, .assign (.tmp d1), t2, ps, a2, none⟩])
    (h0 : d0 < 154) (h1 : d1 < 154) (h2 : d2 < 154) (hf : ∀ x ∈ fx, x.1 ≠ d0 ∧ x.1 ≠ d1 ∧ x.1 ≠ d2) (hs : (src, v) ∈ fx) (HC : Calls Try.prog 30 #[v, .int .i64 m] w fun e w' => ∃ x, e = .returned x ∧ R x w') (hA : Fr A fx)
    (hQ : ∀ b x w', Fr b (fx ++ [(d2, x)]) → R x w' → Q .normal b w') : (Code.region id ops false).wp Try.prog Q A w := by
  refine wp_region_list ?_
  rw [hops]
  obtain ⟨T, df⟩ := A
  have e0 : T.getD src undef = v := hA.fx _ hs
  refine wpList_plain rfl fun K hK => ?_
  show K ⟨T.setIfInBounds d0 (T.getD src undef), df⟩ w
  rw [e0]
  refine hK _ _ ?_
  have hB := hA.put d0 v (fun x hx => (hf x hx).1)
  have x0 : (T.setIfInBounds d0 v).getD d0 undef = v := getD_set (by have : T.size = 154 := hA.sz; omega)
  obtain ⟨T2, hT2⟩ : ∃ T2, T2 = T.setIfInBounds d0 v := ⟨_, rfl⟩
  rw [← hT2] at x0 hB ⊢
  clear hT2 e0 hA hK
  refine wpList_plain rfl fun K hK => ?_
  go_simp
  refine Calls.mono HC ?_
  rintro e w' ⟨x, rfl, hr⟩
  refine hK _ _ ?_
  refine wpList_plain rfl fun K hK => ?_
  show K ⟨(T2.setIfInBounds d1 x).setIfInBounds d2 ((T2.setIfInBounds d1 x).getD d1 undef), df⟩ w'
  have hC := hB.put d1 x (fun y hy => (hf y hy).2.1)
  rw [getD_set (by have : T2.size = 154 := hB.sz; omega)]
  have hD := hC.put d2 x (fun y hy => (hf y hy).2.2)
  refine hK _ _ (wpList_nil (hQ _ x w' ⟨hD.sz, hD.df, fun y hy => ?_⟩ hr))
  rcases List.mem_append.1 hy with hy | hy
  · exact hD.fx y hy
  · obtain rfl := List.mem_singleton.1 hy
    exact getD_set (by have : (T2.setIfInBounds d1 x).size = 154 := hC.sz; omega)

end Go.Proofs.Ytpkcabbfblhekaa
