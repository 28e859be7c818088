/-
  The ledger, exactly: keep.
-/
import Derived.Test.YtddnecfnjnipjaaLxA
namespace Go.Proofs.Ytddnecfnjnipjaa
open Go.RowKit

section
variable {P : Program} {w : World}
theorem owns_fst {e : TypeId} {g n k cap : Nat} {xs ys : List Value} (hx : xs.length = k) (h : w.ownsRow 0 e 1 (.slice (some ⟨g, 0, none⟩) n cap) n (xs ++ ys)) : w.ownsRow 0 e 1 (.slice (some ⟨g, 0, none⟩) k cap) k xs := by
  have hn : (xs ++ ys).length = n * 1 := h.1
  rw [List.length_append] at hn
  refine ⟨by omega, ?_⟩
  rcases h.2 with ⟨e, _⟩ | ⟨b, cap', cur, e, hb, hgg, h1, h2, h3, h4⟩
  · cases e
  · injection e with e1 e2 e3
    injection e1 with e1
    injection e1 with e1
    subst e1 e3
    refine .inr ⟨g, cap, cur, rfl, hb, hgg, by omega, h2, h3, ?_⟩
    have h5 := congrArg (List.take xs.length) h4
    rw [List.take_take, List.take_left' rfl, Nat.min_eq_left (by omega), hx] at h5
    rw [Nat.mul_one]
    exact h5
/-- An append leaves what was there. -/
theorem app_keep {t ty e : TypeId} {i : TypeInfo} {z : Value} {bytes : Nat} (ht : P.underlying t = some (.slice e)) (hi : P.info? e = some i) (hz : i.zero = some z) (hsize : i.size = 1) (hby : i.bytes = bytes)
    {v : Value} {n : Nat} {xs : List Value} (hown : w.ownsRow 0 e 1 v n xs) (a : Addr) (m c : Nat) (news : List Value) (hl : news.length = m) (_hm : 0 < m) (hnews : ∀ j u, news[j]? = some u → w.cell? (a.add j) = some u) (h1 : ∀ u ∈ news, u.oneCell' = true)
    (hbytes : (n + m) * bytes ≤ 140737488355328) (hb0 : 0 < bytes) {v' : Value} {w' : World} (hr : (Builtin.append_ #[t, t] ty #[v, .slice (some a) m c]).run P w = .ok v' w') : w'.ownsRow 0 e 1 v n xs := by
  rcases hown.2 with ⟨rfl, h0⟩ | ⟨g, cap, cur, rfl, hbg, hg, hnc, hcm, hsz, htake⟩
  · have := hown.1
    rw [h0, Nat.zero_mul] at this
    rw [h0, List.eq_nil_of_length_eq_zero this]
    exact World.ownsRow_nil _ _ _ _
  · by_cases hroom : n + m ≤ cap
    · obtain ⟨w2, hr2, ho2, _⟩ := run_append_own_spare (P := P) w 0 t ty e i 1 ht hi hsize g n cap xs hown a m c news (by rw [hl, Nat.mul_one]) hnews h1 hroom
      rw [hr] at hr2
      injection hr2 with e1 e2
      subst e1 e2
      exact owns_fst (by have := hown.1; omega) ho2
    · have holds : ∀ j u, xs[j]? = some u → w.cell? ((⟨g, 0, none⟩ : Addr).add j) = some u := World.ownsRow.cells hown (g := g) rfl
      have hnm : n + m ≤ 140737488355328 := Nat.le_trans (Nat.le_mul_of_pos_right _ hb0) hbytes
      have hr2 := run_append_grow (P := P) w t ty e i _ ht hi hz ⟨g, 0, none⟩ n cap xs (by have := hown.1; rw [hsize]; omega) holds a m c news (by rw [hl, hsize, Nat.mul_one]) hnews (by omega) (by omega) (growslice_fits (by omega) (by rw [hby]; omega))
      rw [hr] at hr2
      injection hr2 with e1 e2
      subst e1 e2
      have ch : Chg (fun _ => False) w (w.drew.alloc (.cells (xs.toArray ++ news.toArray ++ Builtin.zeroCells z.cells (grownCap w (n + m) cap e - (n + m))) e)) := ((Chg.refl (fun _ => False) w).drew).alloc _
      exact ⟨hown.1, .inr ⟨g, cap, cur, rfl, hbg, ch.heap_some hg (fun h => h), hnc, hcm, hsz, htake⟩⟩
end

theorem run_app_keep (w : World) (ty : TypeId) {v : Value} {l : List Int} (hv : Own w v l) (a : Addr) (c : Nat) (x : Int) (ha : w.cell? a = some (.int .u8 x)) (hb : l.length + 1 ≤ 140737488355328) :
    ∃ v' w', (Builtin.append_ #[48, 48] ty #[v, .slice (some a) 1 c]).run Try.prog w = .ok v' w' ∧ Own w' v' (l ++ [x]) ∧ Own w' v l ∧ Chg (fun k => some k = v.ownBlock) w w' ∧ (v'.ownBlock = v.ownBlock ∨ v'.ownBlock = some w.heap.size) := by
  have hsp : a.spot = none := World.cell?_spot ha
  obtain ⟨ab, ao, asp⟩ := a
  simp only at hsp
  subst hsp
  have hs : Src w (.slice (some ⟨ab, ao, none⟩) 1 c) [x] := .inr ⟨⟨ab, ao, none⟩, c, rfl, fun j u hu => ⟨rfl, by
    match j, hu with
    | 0, hu => rw [← show (.int .u8 x : Value) = u from by simpa [bs] using hu]; exact ha
    | j + 1, hu => simp [bs] at hu⟩⟩
  obtain ⟨v', w', hr, ho, hc, hat⟩ := run_app w ty hv hs (by simpa using hb)
  refine ⟨v', w', hr, ho, ?_, hc, hat⟩
  obtain ⟨i0, hi, hz0, hz1, hz2⟩ := info_parts info5
  have := app_keep (P := Try.prog) Try.underlying48 hi hz0 hz1 hz2 hv ⟨ab, ao, none⟩ 1 c [.int .u8 x] rfl (by decide) (fun j u hu => by
    match j, hu with
    | 0, hu => rw [← show (.int .u8 x : Value) = u from by simpa using hu]; simpa [Addr.add] using ha
    | j + 1, hu => simp at hu) (fun u hu => by simp at hu; subst hu; rfl) (by rw [Nat.mul_one]; exact hb) (by decide) hr
  exact this
theorem wpList_app_keep {ops : Array Oper} {rest : List Oper} {o : Oper} {a : Act} {w : World} {Q : Exit → Act → World → Prop} (hgd : o.guard = none) (s x : Operand)
    (ho : o.op = .call { callee := .builtin .append, args := #[s, x], argTypes := #[48, 48] })
    {v : Value} {l : List Int} {ad : Addr} {cp : Nat} {y : Int} (hs : a.eval s = v) (hx : a.eval x = .slice (some ad) 1 cp) (hv : Own w v l) (hu : w.cell? ad = some (.int .u8 y)) (hb : l.length + 1 ≤ 140737488355328)
    (h : ∀ v' w', Own w' v' (l ++ [y]) → Own w' v l → Chg (fun k => some k = v.ownBlock) w w' → (v'.ownBlock = v.ownBlock ∨ v'.ownBlock = some w.heap.size) → wpList Try.prog ops Q rest (a.put o.dst v') w') :
    wpList Try.prog ops Q (o :: rest) a w := by
  refine wpList_plain hgd fun K hK => ?_
  obtain ⟨v', w', hr, h2, h2', h3, h5⟩ := run_app_keep w o.type hv ad cp y hu hb
  unfold Oper.wp execOp
  simp only [ho, resolve, invoke, builtin, Sem.run_bind, Sem.run_pure, Result.andThen_ok, List.map_toArray, List.map_cons, List.map_nil, hs, hx, hr]
  exact hK _ _ (h v' w' h2 h2' h3 h5)

/-- A front of a list that lies in the same block. -/
theorem src_front {w : World} {u v : Value} {l m : List Int} (hu : Own w u (l ++ m)) {a : Option Addr} {c : Nat} (hv : v = .slice a l.length c) (hb : u.ownBlock = v.ownBlock) (h0 : a = none → c = 0) (hs : ∀ ad, a = some ad → ad.off = 0 ∧ ad.spot = none) : Src w v l := by
  cases a with
  | none =>
    rcases owns_form hu with ⟨e, h1⟩ | ⟨g, cu, e⟩
    · have h2 : l = [] := by
        have : (l ++ m).length = 0 := h1
        rw [List.length_append] at this
        exact List.eq_nil_of_length_eq_zero (by omega)
      subst h2
      exact .inl ⟨by rw [hv, h0 rfl]; rfl, rfl⟩
    · rw [e, hv] at hb
      simp [Value.ownBlock] at hb
  | some ad =>
    obtain ⟨e1, e2⟩ := hs ad rfl
    obtain ⟨g, o, sp⟩ := ad
    simp only at e1 e2
    subst e1 e2
    refine .inr ⟨⟨g, 0, none⟩, c, hv, fun j y hj => ⟨rfl, ?_⟩⟩
    rcases owns_form hu with ⟨e, h1⟩ | ⟨g', cu, e⟩
    · rw [e, hv] at hb
      simp [Value.ownBlock] at hb
    · rw [e, hv] at hb
      have hb : g' = g := by simpa [Value.ownBlock] using hb
      subst hb
      have hu2 := hu
      rw [e] at hu2
      have hjl : j < l.length := by have := (List.getElem?_eq_some_iff.1 hj).1; rwa [bs_len] at this
      have h3 := World.ownsRow.cells hu2 (g := g') rfl j y (by rw [bs_app, List.getElem?_append_left (by rw [bs_len]; exact hjl)]; exact hj)
      rw [addr_add, Nat.zero_add] at h3
      rw [Nat.zero_add]
      exact h3

/-- The blocks, and a list's own. -/
def Bv (Bl : Nat → Prop) (v : Value) : Nat → Prop := fun g => Bl g ∨ v.ownBlock = some g
/-- A list of bytes in a block of bytes. -/
def Sv (w : World) (v : Value) (l : List Int) : Prop := Src w v l ∧ ∀ g, v.ownBlock = some g → ∃ cur, w.heap[g]? = some (.cells cur 5 (0, 0))
theorem Sv.kept {w w' : World} {v : Value} {l : List Int} (h : Sv w v l) {S : Nat → Prop} (c : Chg S w w') (hn : ∀ k, v.ownBlock = some k → ¬ S k) : Sv w' v l :=
  ⟨h.1.kept c hn, fun g hg => by
    obtain ⟨cur, e⟩ := h.2 g hg
    exact ⟨cur, c.heap_some e (hn g hg)⟩⟩
theorem set_mark (i : Nat) (l : List Int) (j : Nat) (hj : j < l.length) : (marks i j ++ l.drop j).set j (mkB i j) = marks i (j + 1) ++ l.drop (j + 1) := by
  rw [List.set_append_right _ _ (by rw [marks_len]; exact Nat.le_refl _), marks_len, Nat.sub_self, List.drop_eq_getElem_cons hj, List.set_cons_zero, marks_succ, List.append_assoc]
  rfl
theorem marks_front (i j m : Nat) : marks i j ++ (marks i (j + m)).drop j = marks i (j + m) := by
  have h : (marks i (j + m)).take j = marks i j := by
    unfold marks
    rw [← List.map_take, List.take_range, Nat.min_eq_left (Nat.le_add_right j m)]
  rw [← h, List.take_append_drop]
theorem own_addr {w : World} {v : Value} {l : List Int} (h : Own w v l) {a : Option Addr} {n c : Nat} (hv : v = .slice a n c) : (a = none → c = 0) ∧ ∀ ad, a = some ad → ad.off = 0 ∧ ad.spot = none := by
  rcases owns_form h with ⟨e, _⟩ | ⟨g, c', e⟩
  · rw [hv] at e
    injection e with e1 e2 e3
    exact ⟨fun _ => e3, fun ad h => (by rw [e1] at h; cases h)⟩
  · rw [hv] at e
    injection e with e1 e2 e3
    exact ⟨fun h => (by rw [e1] at h; cases h), fun ad h => (by rw [e1] at h; injection h with h; subst h; exact ⟨rfl, rfl⟩)⟩

def lrow (a p c d : Value) (t : Int) : Array Value := #[a, p, c, d, .int .i64 t]
/-- The ledger among the blocks Bl. -/
structure Lg (w : World) (lg : Nat) (Bl : Nat → Prop) (k : Nat) (a p c d : Value) (t : Nat) (na np nc nd : Nat) (X Y C D : List Value) : Prop where
  row : Rw w lg (lrow a p c d t) 41
  ra : SX w 48 a na X
  rp : SX w 99 p np Y
  rc : SX w 48 c nc C
  rd : SX w 48 d nd D
  ac : ∀ g, a.ownBlock = some g → c.ownBlock ≠ some g ∧ d.ownBlock ≠ some g
  cd : ∀ g, c.ownBlock = some g → d.ownBlock ≠ some g
  bl : Bl lg
  bo : ∀ g, (a.ownBlock = some g ∨ p.ownBlock = some g ∨ c.ownBlock = some g ∨ d.ownBlock = some g) → Bl g
  low : ∀ g, Bl g → g < w.heap.size
  ln : na ≤ 2 * k ∧ np ≤ 2 * k ∧ nc ≤ k ∧ nd ≤ k ∧ t ≤ k
  ev : na % 2 = 0 ∧ np % 2 = 0
  hold : Ld w Bl X Y C D

theorem wpList_appS {ops : Array Oper} {rest : List Oper} {o : Oper} {a : Act} {w w' : World} {Q : Exit → Act → World → Prop} (hgd : o.guard = none) (s x : Operand)
    (ho : o.op = .call { callee := .builtin .append, args := #[s, x], argTypes := #[38, 38] }) {v u v' : Value} (hs : a.eval s = v) (hx : a.eval x = u) (hr : (Builtin.append_ #[38, 38] o.type #[v, u]).run Try.prog w = .ok v' w')
    (h : wpList Try.prog ops Q rest (a.put o.dst v') w') : wpList Try.prog ops Q (o :: rest) a w := by
  refine wpList_plain hgd fun K hK => ?_
  unfold Oper.wp execOp
  simp only [ho, resolve, invoke, builtin, Sem.run_bind, Sem.run_pure, Result.andThen_ok, List.map_toArray, List.map_cons, List.map_nil, hs, hx, hr]
  exact hK _ _ h

theorem Own.setAny {w : World} {v : Value} {l : List Int} (h : Own w v l) {i : Nat} (hi : i < l.length) : ∃ g n c, v = .slice (some ⟨g, 0, none⟩) n c ∧ n = l.length ∧ w.cell? ⟨g, i, none⟩ = some (.int .u8 l[i]) ∧ w.frozen? ⟨g, i, none⟩ = false ∧ ∀ x, Own (w.setCell ⟨g, i, none⟩ (.int .u8 x)) v (l.set i x) := by
  rcases owns_form h with ⟨e, h0⟩ | ⟨g, c, e⟩
  · omega
  · subst e
    exact ⟨g, _, c, rfl, rfl, h.byte i hi, h.frz i, fun x => h.set i hi x⟩

set_option maxRecDepth 100000 in
set_option maxHeartbeats 8000000 in
theorem Lg.keep_odd {w : World} {lg : Nat} {Bl : Nat → Prop} {k : Nat} {a p c d : Value} {t na np nc nd : Nat} {X Y C D : List Value} (h : Lg w lg Bl k a p c d t na np nc nd X Y C D) (hk : k < 2199023255551) (ht : bits BinOp.and IntKind.i64 ((t : Int) + 1) 1 = 1) {v : Value} {l : List Int} (hv : Own w v l) (hvB : ∀ g, v.ownBlock = some g → ¬ Bl g) (hl : l.length ≤ 16777217) :
    Calls Try.prog 25 #[.pointer (some ⟨lg, 0, none⟩), v] w fun e w' => e = .returned (.tuple #[]) ∧ Chg (fun g => Bl g ∨ some g = v.ownBlock) w w' ∧ ∃ a' na' X', Lg w' lg (grB (Bv Bl v) w w') (k + 1) a' p c d (t + 1) na' np nc nd X' Y C D := by
  obtain ⟨n, hn⟩ : ∃ n, n = l.length := ⟨_, rfl⟩
  obtain ⟨va, vc, hvf⟩ := hv.form
  rw [← hn] at hvf hl
  obtain ⟨aa, ac, haf⟩ := h.ra.form
  have c4 : w.cell? ⟨lg, 4, none⟩ = some (.int .i64 t) := h.row.cell 4
  have f4 := h.row.fr 4
  have htb : t ≤ k := h.ln.2.2.2.2
  have hnab := h.ln.1
  obtain ⟨w1, hw1⟩ : ∃ w1, w1 = w.setCell ⟨lg, 4, none⟩ (.int .i64 ((t : Int) + 1)) := ⟨_, rfl⟩
  have r1 : Rw w1 lg (lrow a p c d ((t : Int) + 1)) 41 := by rw [hw1]; exact Rw.set h.row 4 _
  have k1 : Chg (fun i => i = lg) w w1 := by rw [hw1]; exact (Chg.refl (fun i => i = lg) w).setCell (.inl rfl) _
  have o1 : Own w1 v l := hv.kept k1 (fun g hg e => hvB g hg (by rw [e]; exact h.bl))
  have d4 : w1.cell? ⟨lg, 4, none⟩ = some (.int .i64 ((t : Int) + 1)) := r1.cell 4
  have d0 : w1.cell? ⟨lg, 0, none⟩ = some (.slice aa na ac) := by rw [← haf]; exact r1.cell 0
  have H : Hid _ := h
  have R1 : Hid _ := r1
  have K1 : Hid _ := k1
  have O1 : Hid _ := o1
  have HN : Hid _ := hn
  have HV : Hid _ := hvf
  have HA : Hid _ := haf
  have HVB : Hid _ := hvB
  have VZ : Hid _ := own_addr hv hvf
  rw [hvf]
  clear h r1 k1 o1 hv hvB hn hvf haf
  go_enter Try.func25, Try.ntmps25
  go_upto_region 1 with fail
  rw [← hw1]
  clear hw1 c4 f4
  go_wp2_with fail
  clear d4 d0 ht
  go_loopw [5] (fun i wr => ∃ j : Nat, j ≤ n ∧ i = .int .i64 j ∧ Hid (Chg (fun g => some g = v.ownBlock) w1 wr ∧ Own wr v (marks (na / 2) j ++ l.drop j))) (fun i _ => n - (intOf i).toNat)
  case atStart => exact ⟨0, Nat.zero_le _, rfl, Chg.refl _ _, O1.out⟩
  case round =>
    obtain ⟨j, hj, rfl, hid⟩ := hrel
    obtain ⟨ch, ho⟩ := hid.out
    clear hid
    obtain ⟨l', hl0⟩ : ∃ l', l' = marks (na / 2) j ++ l.drop j := ⟨_, rfl⟩
    have hl' : l'.length = n := by rw [hl0, List.length_append, marks_len, List.length_drop, ← HN.out]; omega
    rw [← hl0] at ho
    by_cases hlt : j < n
    · obtain ⟨g, gn, gc, e, hgn, hcel, hfr, hset⟩ := ho.setAny (i := j) (by omega)
      rw [HV.out] at e
      injection e with e1 e2 e3
      subst e1
      clear e2 e3 hgn
      obtain ⟨bv, hbv⟩ : ∃ bv, bv = l'[j]'(by omega) := ⟨_, rfl⟩
      rw [← hbv] at hcel
      have K5 : Hid (Chg (fun g => some g = v.ownBlock) w1 (wr.setCell ⟨g, j, none⟩ (.int .u8 (mkB (na / 2) j))) ∧ Own (wr.setCell ⟨g, j, none⟩ (.int .u8 (mkB (na / 2) j))) v (marks (na / 2) (j + 1) ++ l.drop (j + 1))) := by
        refine ⟨ch.trans ((Chg.refl (fun i => i = g) wr).setCell (.inl rfl) _) (fun i e => .inl (by rw [e, HV.out]; rfl)), ?_⟩
        have h9 := hset (mkB (na / 2) j)
        rw [hl0, set_mark _ _ _ (by rw [← HN.out]; exact hlt)] at h9
        exact h9
      clear ch ho hset hbv hl' hl0
      go_wp2_with (go_at_call 57; refine Calls.mono (mark_ex (w := wr) (na / 2) j (by omega) (by omega)) ?_; rintro e w9 ⟨rfl, h9⟩; subst h9)
      go_roundw
      case rel => exact ⟨j + 1, by omega, by go_num, K5.out⟩
      case measure => simp [intOf]; omega
    · have hjn : j = n := by omega
      subst hjn
      have hl9 : l' = marks (na / 2) j := by rw [hl0, List.drop_eq_nil_of_le (by rw [← HN.out]; exact Nat.le_refl _), List.append_nil]
      rw [hl9] at ho
      have O2 : Hid _ := ho
      have C2 : Hid _ := ch
      clear ho ch hl' hl0 hl9
      go_wp2_with fail
      go_loopw [6, 7] (fun u i wq => ∃ i' : Nat, i' ≤ 90 ∧ i = .int .i64 ((j + i' : Nat) : Int) ∧ Hid (Chg (fun g => some g = v.ownBlock) w1 wq ∧ (Own wq u (marks (na / 2) (j + i')) ∧ Sv wq v (marks (na / 2) j)) ∧ (u.ownBlock = v.ownBlock ∨ ∃ k, u.ownBlock = some k ∧ w1.heap.size ≤ k))) (fun _ i _ => j + 90 - (intOf i).toNat)
      case atStart => exact ⟨0, Nat.zero_le _, by go_num, C2.out, ⟨by rw [← HV.out]; exact O2.out, ⟨Own.src O2.out, fun g hg => own_block O2.out hg⟩⟩, .inl (by rw [HV.out])⟩
      case round =>
        obtain ⟨i', hi', rfl, hid⟩ := hrel
        obtain ⟨ch, ⟨ho2, hs2⟩, hu⟩ := hid.out
        clear hid
        by_cases hlt : i' < 90
        · have OU : Hid _ := ho2
          have CH : Hid _ := ch
          have HU : Hid _ := hu
          have HS2 : Hid _ := hs2
          clear ho2 ch hu hs2
          go_wp2_with (first | (go_at_call 57; refine Calls.mono (mark_ex (w := wr) (na / 2) (j + i') (by omega) (by omega)) ?_; rintro e w9 ⟨rfl, h9⟩; subst h9) | (refine wpList_app_keep rfl (.tmp 71) (.tmp 76) rfl (v := u6) (ad := ⟨wr.heap.size, 0, none⟩) (cp := 1) (l := marks (na / 2) (j + i')) (y := mkB (na / 2) (j + i')) rfl rfl (Own.kept OU.out ((Chg.refl (fun _ => False) wr).alloc _) (fun _ _ h => h)) (cell_of_row _ _ _ _ _ _ (heap_alloc_new _ _)) (by rw [marks_len]; omega) ?_; intro v' w2 o2 o2' k2 b2))
          have hal : Chg (fun _ => False) wr (wr.alloc (.cells #[.int .u8 (mkB (na / 2) (j + i'))] 5)) := (Chg.refl _ _).alloc _
          have K5 : Hid (Chg (fun g => some g = v.ownBlock) w1 w2 ∧ (Own w2 v' (marks (na / 2) (j + (i' + 1))) ∧ Sv w2 v (marks (na / 2) j)) ∧ (v'.ownBlock = v.ownBlock ∨ ∃ k, v'.ownBlock = some k ∧ w1.heap.size ≤ k)) := by
            refine ⟨(CH.out.trans hal (fun _ h => h.elim)).trans k2 (fun g e => ?_), ⟨by rw [← Nat.add_assoc, marks_succ]; exact o2, ?_⟩, ?_⟩
            · rcases HU.out with e1 | ⟨k, e1, e2⟩
              · exact .inl (by rw [← e1]; exact e)
              · rw [← e] at e1; injection e1 with e1; exact .inr (by omega)
            · by_cases hbb : u6.ownBlock = v.ownBlock
              · exact ⟨src_front (m := (marks (na / 2) (j + i')).drop j) (by rw [marks_front]; exact o2') (c := vc) (by rw [marks_len]; exact HV.out) hbb VZ.out.1 VZ.out.2, fun g hg => own_block o2' (by rw [hbb]; exact hg)⟩
              · exact Sv.kept (Sv.kept HS2.out hal (fun _ _ h => h)) k2 (fun g hg e => hbb (by rw [hg]; exact e.symm))
            · rcases b2 with e1 | e1
              · rw [e1]; exact HU.out
              · exact .inr ⟨_, e1, Nat.le_trans CH.out.size hal.size⟩
          clear o2 o2' k2 b2 hal
          go_wp2_with fail
          go_roundw
          case rel => exact ⟨i' + 1, by omega, by go_num, K5.out⟩
          case measure => simp [intOf]; omega
        · have e90 : i' = 90 := by omega
          subst e90
          obtain ⟨ua, uc, huf⟩ := ho2.form
          rw [marks_len] at huf
          have hvB1 : ∀ g, Bl g → some g ≠ v.ownBlock := fun g hg e => HVB.out g e.symm hg
          have cw : Chg (fun g => g = lg ∨ some g = v.ownBlock) w wr := (K1.out.mono (fun _ _ e => .inl e)).trans ch (fun _ e => .inl (.inr e))
          have nlg : ∀ {ty : TypeId} {x : Value} {m : Nat} {Z : List Value}, SX w ty x m Z → ty ≠ 41 → (∀ g, x.ownBlock = some g → Bl g) → ∀ g, x.ownBlock = some g → ¬ (g = lg ∨ some g = v.ownBlock) := fun hs hty hB g hg e => by
            rcases e with e | e
            · obtain ⟨cur, e1⟩ := hs.block hg
              exact cells_ne e1 H.out.row.eq hty e
            · exact hvB1 g (hB g hg) e
          have bA : ∀ g, a.ownBlock = some g → Bl g := fun g hg => H.out.bo g (.inl hg)
          have bP : ∀ g, p.ownBlock = some g → Bl g := fun g hg => H.out.bo g (.inr (.inl hg))
          have bC : ∀ g, c.ownBlock = some g → Bl g := fun g hg => H.out.bo g (.inr (.inr (.inl hg)))
          have bD : ∀ g, d.ownBlock = some g → Bl g := fun g hg => H.out.bo g (.inr (.inr (.inr hg)))
          have r9 : Rw wr lg (lrow a p c d ((t : Int) + 1)) 41 := ⟨ch.heap_some R1.out.eq (hvB1 lg H.out.bl)⟩
          have a9 : SX wr 48 a na X := H.out.ra.chg cw (nlg H.out.ra (by decide) bA)
          have p9 : SX wr 99 p np Y := H.out.rp.chg cw (nlg H.out.rp (by decide) bP)
          have c9 : SX wr 48 c nc C := H.out.rc.chg cw (nlg H.out.rc (by decide) bC)
          have d9 : SX wr 48 d nd D := H.out.rd.chg cw (nlg H.out.rd (by decide) bD)
          obtain ⟨w3, hw3⟩ : ∃ w3, w3 = wr.alloc (.cells #[.slice va j vc, .slice ua (j + 90) uc] 48) := ⟨_, rfl⟩
          have k3 : Chg (fun _ => False) wr w3 := by rw [hw3]; exact (Chg.refl _ _).alloc _
          have q3 : w3.heap[wr.heap.size]? = some (.cells #[.slice va j vc, .slice ua (j + 90) uc] 48 (0, 0)) := by rw [hw3]; exact heap_alloc_new _ _
          obtain ⟨a', w4, hr4, s4, k4, b4⟩ := run_appX w3 38 (a9.chg k3 (fun _ _ h => h)) ⟨wr.heap.size, 0, none⟩ [.slice va j vc, .slice ua (j + 90) uc] 2 (fun i u hu => by rw [addr_add, Nat.zero_add, cell_of_row _ _ _ _ _ _ q3]; simpa using hu) (fun u hu => by
            simp only [List.mem_cons, List.not_mem_nil, or_false] at hu
            rcases hu with rfl | rfl <;> rfl) (by simp; omega)
          obtain ⟨xa, xc, hxf⟩ := s4.form
          have k34 : Chg (fun g => some g = a.ownBlock) wr w4 := (k3.mono (fun _ _ h => h.elim)).trans k4 (fun _ e => .inl e)
          have hba' : ∀ g, a'.ownBlock = some g → (a.ownBlock = some g ∨ wr.heap.size ≤ g) := fun g hg => by
            rcases b4 with e | e
            · exact .inl (by rw [← e]; exact hg)
            · rw [hg] at e; injection e with e; exact .inr (by have := k3.size; omega)
          have r4 : Rw w4 lg (lrow a p c d ((t : Int) + 1)) 41 := ⟨k34.heap_some r9.eq (fun e => by
            obtain ⟨cur, e1⟩ := a9.block e.symm
            exact cells_ne e1 r9.eq (by decide) rfl)⟩
          obtain ⟨w5, hw5⟩ : ∃ w5, w5 = w4.setCell ⟨lg, 0, none⟩ a' := ⟨_, rfl⟩
          have k5 : Chg (fun i => i = lg) w4 w5 := by rw [hw5]; exact (Chg.refl (fun i => i = lg) w4).setCell (.inl rfl) _
          have r5 : Rw w5 lg (lrow a' p c d ((t : Int) + 1)) 41 := by rw [hw5]; exact Rw.set r4 0 a'
          have k95 : Chg (fun g => g = lg ∨ some g = a.ownBlock) wr w5 := (k34.mono (fun _ _ e => .inr e)).trans k5 (fun _ e => .inl (.inl e))
          have kw5 : Chg (fun g => Bl g ∨ some g = v.ownBlock) w w5 := (cw.mono (fun g _ e => e.imp (fun e => by rw [e]; exact H.out.bl) id)).trans k95 (fun g e => .inl (.inl (by
            rcases e with e | e
            · rw [e]; exact H.out.bl
            · exact bA g e.symm)))
          have keep : ∀ {ty : TypeId} {x : Value} {m : Nat} {Z : List Value}, SX wr ty x m Z → ty ≠ 41 → (∀ g, x.ownBlock = some g → a.ownBlock ≠ some g) → SX w5 ty x m Z := fun hs hty hn => hs.chg k95 (fun g hg e => by
            rcases e with e | e
            · obtain ⟨cur, e1⟩ := hs.block hg
              exact cells_ne e1 r9.eq hty e
            · exact hn g hg e.symm)
          have a5 : SX w5 48 a' (na + 2) (X ++ [.slice va j vc, .slice ua (j + 90) uc]) := s4.chg k5 (fun g hg e => by
            obtain ⟨cur, e1⟩ := s4.block hg
            exact cells_ne e1 r4.eq (by decide) e)
          have hwr : w.heap.size ≤ wr.heap.size := cw.size
          have cww : Chg (fun g => g = lg ∨ some g = v.ownBlock ∨ some g = a.ownBlock) w w5 := (cw.mono (fun g _ e => e.imp id .inl)).trans k95 (fun g e => .inl (e.imp id .inr))
          have hno : ∀ {g : Nat} {cur : Array Value} {ty : TypeId}, ty ≠ 41 → ty ≠ 48 → Bl g → w.heap[g]? = some (.cells cur ty (0, 0)) → ¬ (g = lg ∨ some g = v.ownBlock ∨ some g = a.ownBlock) := fun h1 h2 hg hc e => by
            rcases e with e | e | e
            · exact cells_ne hc H.out.row.eq h1 e
            · exact hvB1 _ hg e
            · obtain ⟨_, e2⟩ := H.out.ra.block e.symm
              exact cells_ne hc e2 h2 rfl
          have hld : Ld w5 (grB (Bv Bl v) w w5) X Y C D := H.out.hold.frame cww (fun g cur hg hc => hno (by decide) (by decide) hg hc) (fun g cur hg hc => hno (by decide) (by decide) hg hc) (fun g hg => .inl (.inl hg))
          have sv5 : Sv w5 v (marks (na / 2) j) := Sv.kept hs2 k95 (fun g hg e => by
            rcases e with e | e
            · exact HVB.out g hg (by rw [e]; exact H.out.bl)
            · exact HVB.out g hg (bA g e.symm))
          have hnu : ∀ g, (Value.slice ua (j + 90) uc).ownBlock = some g → v.ownBlock = some g ∨ w.heap.size ≤ g := fun g hg => by
            rcases hu with e | ⟨q, e1, e2⟩
            · exact .inl (by rw [← e, huf]; exact hg)
            · rw [huf, hg] at e1
              injection e1 with e1
              have := K1.out.size
              exact .inr (by omega)
          have ou5 : Own w5 (.slice ua (j + 90) uc) (marks (na / 2) (j + 90)) := by
            have h1 := ho2
            rw [huf] at h1
            refine Own.kept h1 k95 (fun g hg e => ?_)
            rcases hnu g hg with e1 | e1
            · rcases e with e | e
              · exact HVB.out g e1 (by rw [e]; exact H.out.bl)
              · exact HVB.out g e1 (bA g e.symm)
            · rcases e with e | e
              · have := H.out.low lg H.out.bl; omega
              · have := H.out.low g (bA g e.symm); omega
          have bkv : Bk w5 (grB (Bv Bl v) w w5) 5 v := fun g hg => ⟨.inl (.inr hg), sv5.2 g hg⟩
          have bku : Bk w5 (grB (Bv Bl v) w w5) 5 (.slice ua (j + 90) uc) := fun g hg => by
            refine ⟨?_, own_block ou5 hg⟩
            rcases hnu g hg with e | e
            · exact .inl (.inr e)
            · exact .inr ⟨e, Own.lt ou5 hg⟩
          have hna : na = X.length := H.out.ra.1
          have LG : Hid (Lg w5 lg (grB (Bv Bl v) w w5) (k + 1) a' p c d (t + 1) (na + 2) np nc nd (X ++ [.slice va j vc, .slice ua (j + 90) uc]) Y C D) := by
            refine ⟨?_, a5, keep p9 (by decide) (fun g hg e => ?_), keep c9 (by decide) (fun g hg e => (H.out.ac g e).1 hg), keep d9 (by decide) (fun g hg e => (H.out.ac g e).2 hg), fun g hg => ?_, H.out.cd, .inl (.inl H.out.bl), fun g hg => ?_, fun g hg => ?_, ?_, ?_, ?_⟩
            · rw [show ((t + 1 : Nat) : Int) = (t : Int) + 1 by omega]
              exact r5
            · obtain ⟨c1, e1⟩ := H.out.rp.block hg
              obtain ⟨c2, e2⟩ := H.out.ra.block e
              exact cells_ne e1 e2 (by decide) rfl
            · rcases hba' g hg with e | e
              · exact H.out.ac g e
              · exact ⟨fun e2 => by have := c9.lt e2; omega, fun e2 => by have := d9.lt e2; omega⟩
            · rcases hg with e | e | e | e
              · rcases hba' g e with e2 | e2
                · exact .inl (.inl (bA g e2))
                · exact .inr ⟨by omega, a5.lt e⟩
              · exact .inl (.inl (bP g e))
              · exact .inl (.inl (bC g e))
              · exact .inl (.inl (bD g e))
            · rcases hg with (hg | hg) | hg
              · exact Nat.lt_of_lt_of_le (H.out.low g hg) kw5.size
              · exact Nat.lt_of_lt_of_le (Own.lt O1.out hg) (Nat.le_trans ch.size k95.size)
              · exact hg.2
            · have := H.out.ln
              omega
            · have := H.out.ev
              omega
            · rw [← HV.out]
              refine hld.addX (by have := H.out.ev.1; omega) (n := j) (m := j + 90) (by omega) (by omega) bkv bku (by rw [← hna]; exact sv5.1) (by rw [← hna]; exact Own.src ou5) (fun g y hy hg e => ?_) (fun g y hy hg e => ?_)
              · exact HVB.out g hg (H.out.hold.btC hy g e).1
              · have h1 := (H.out.hold.btC hy g e).1
                rcases hnu g hg with e2 | e2
                · exact HVB.out g e2 h1
                · have := H.out.low g h1; omega
          have KW5 : Hid _ := kw5
          have HR4 : Hid _ := hr4
          have g0 : ∀ o, (wr.alloc o).cell? ⟨lg, 0, none⟩ = some (.slice aa na ac) := fun o => by rw [← HA.out]; exact (r9.alloc o).cell 0
          have g00 : wr.cell? ⟨lg, 0, none⟩ = some (.slice aa na ac) := by rw [← HA.out]; exact r9.cell 0
          have h40 : w4.cell? ⟨lg, 0, none⟩ = some (.slice aa na ac) := by rw [← HA.out]; exact r4.cell 0
          have f40 := r4.fr 0
          subst huf
          have hw3' : wr.alloc (.cells #[.slice va j vc, .slice ua (j + 90) uc] 48) = w3 := hw3.symm
          have HXF : Hid _ := hxf
          rw [hxf] at hw5
          have hw5' : w4.setCell ⟨lg, 0, none⟩ (.slice xa (na + 2) xc) = w5 := hw5.symm
          clear hw5 hw3 kw5 hr4 keep a5 k95 r5 k5 r4 k34 hba' b4 k4 s4 q3 k3 a9 p9 c9 d9 r9 nlg cw hvB1 bA bP bC bD hu ho2 ch hs2 hwr hxf cww hld bkv bku sv5 ou5 hnu hno hna
          go_wp2_with (refine wpList_appS rfl (.tmp 82) (.tmp 85) rfl (v := .slice aa na ac) (u := .slice (some ⟨wr.heap.size, 0, none⟩) 2 2) (v' := .slice xa (na + 2) xc) (w' := w4) rfl rfl (by have := HR4.out; rw [HA.out, HXF.out] at this; exact this) ?_)
          go_end0
          exact ⟨rfl, by rw [← HV.out]; exact KW5.out, a', na + 2, X ++ [.slice va j vc, .slice ua (j + 90) uc], by have h9 := LG.out; rw [HV.out] at h9; exact h9⟩
end Go.Proofs.Ytddnecfnjnipjaa
