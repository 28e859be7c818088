/-
  For DiskTwins: acts one behind the other; Stats compared with themselves.
-/
import Derived.Test.YtpongepfjdgcmaaDs
import Derived.Test.YtpongepfjdgcmaaKeepsA
namespace Go.Proofs.Ytpongepfjdgcmaa
open Go.RowKit Go.RwLone

def actsF (S z : Nat) (ac : Nat → Ac) (kls : Nat → List Bool) : Nat → St → St
  | 0, s => s
  | n + 1, s => actF S z (ac n) (kls n) (actsF S z ac kls n s)

def sp (p b : Nat) (s : St) : Sp := ⟨p, b, s.x, s.A, s.F⟩
theorem sp_act (S z : Nat) (a : Ac) (kl : List Bool) (p b : Nat) (s : St) : (sp p b s).act S z a kl = sp p (b + 1) (actF S z a kl s) := rfl

def one (a : Sp) : Nat → Option Sp := fun k => if k = 0 then some a else none
def two (a b : Sp) : Nat → Option Sp := fun k => if k = 0 then some a else if k = 1 then some b else none
theorem updT_one (a a' : Sp) : updT (one a) 0 (some a') = one a' := by
  funext k
  unfold updT one
  split <;> rfl
theorem updT_two (a b : Sp) : updT (one a) 1 (some b) = two a b := by
  funext k
  unfold updT one two
  by_cases h : k = 1
  · subst h; rfl
  · rw [if_neg h, if_neg h]
theorem updT_two0 (a b a' : Sp) : updT (two a b) 0 (some a') = two a' b := by
  funext k
  unfold updT two
  split <;> rfl
theorem updT_two1 (a b b' : Sp) : updT (two a b) 1 (some b') = two a b' := by
  funext k
  unfold updT two
  by_cases h : k = 1
  · subst h; rfl
  · rw [if_neg h, if_neg h, if_neg h]

theorem Ds.one {w : World} {Bl : Nat → Prop} {B S z : Nat} {s : Sp} (h : AS w Bl S z s) (hBl : ∀ g, Bl g → B ≤ g) (hB : B ≤ w.heap.size) : Ds w B S z (one s) (fun _ => False) := by
  classical
  refine ⟨⟨fun g => if Bl g then some 0 else none, fun i t hi => ?_, fun g i hg => ?_, fun _ h => h.elim⟩, hB⟩
  · unfold Go.Proofs.Ytpongepfjdgcmaa.one at hi
    by_cases e : i = 0
    · rw [if_pos e] at hi
      injection hi with hi
      subst hi
      refine AB.up h (fun g hg => by dsimp only; rw [if_pos hg, e]) (fun g hg => h.low g ?_)
      dsimp only at hg
      by_cases e2 : Bl g
      · exact e2
      · rw [if_neg e2] at hg
        cases hg
    · rw [if_neg e] at hi
      cases hi
  · dsimp only at hg
    split at hg
    · rename_i e
      exact ⟨hBl g e, h.low g e⟩
    · cases hg

section
variable {w w' : World} {B S z : Nat} {d : Nat → Option Sp} {fr : Nat → Prop} {i p b : Nat} {st : St}
theorem Ds.offS (h : Ds w B S z d fr) (hi : d i = some (sp p b st)) :
    Calls Try.prog 24 #[.pointer (some ⟨p, 0, none⟩)] w fun e w' => e = .returned (.bool st.x.off) ∧ Below B w w' ∧ (∀ g cs t, fr g → Rw w g cs t → Rw w' g cs t) ∧ Ds w' B S z d fr := h.off hi
theorem Ds.statsS (h : Ds w B S z d fr) (hi : d i = some (sp p b st)) :
    Calls Try.prog 28 #[.pointer (some ⟨p, 0, none⟩)] w fun e w' => e = .returned (.agg #[.int .u64 st.x.rd, .int .u64 st.x.wr, .int .u64 st.x.fl]) ∧ Below B w w' ∧ (∀ g cs t, fr g → Rw w g cs t → Rw w' g cs t) ∧ Ds w' B S z d fr := h.stats hi
theorem Ds.eraS (h : Ds w B S z d fr) (hi : d i = some (sp p b st)) :
    Calls Try.prog 31 #[.pointer (some ⟨p, 0, none⟩)] w fun e w' => e = .returned (.int .i64 st.x.era) ∧ Below B w w' ∧ (∀ g cs t, fr g → Rw w g cs t → Rw w' g cs t) ∧ Ds w' B S z d fr := h.era hi
theorem Ds.imageS (h : Ds w B S z d fr) (hi : d i = some (sp p b st)) (hFS : ∀ t, S ≤ t → st.F t = none) (hz : z ≤ 4096) (hz0 : 0 < z) (hb : S * z ≤ 16777216) :
    Calls Try.prog 13 #[.pointer (some ⟨p, 0, none⟩)] w fun e w' => ∃ g, e = .returned (.slice (some ⟨g, 0, none⟩) (S * z) (S * z)) ∧ Rw w' g (bs (imgT z S st.F)).toArray 5 ∧ Below B w w' ∧ (∀ g cs t, fr g → Rw w g cs t → Rw w' g cs t) ∧ Ds w' B S z d (fun k => fr k ∨ k = g) := h.image hi hFS hz hz0 hb
theorem Ds.pendingS (h : Ds w B S z d fr) (hi : d i = some (sp p b st)) {n : Nat} (hx : st.x.pend = n) (hb : b ≤ 4398046511104) (hnb : n ≤ 4398046511104) :
    Calls Try.prog 16 #[.pointer (some ⟨p, 0, none⟩)] w fun e w' => ∃ g P, e = .returned (.slice (some ⟨g, 0, none⟩) n n) ∧ Rw w' g (pcells P).toArray 3 ∧ Pl P n st.A ∧ Below B w w' ∧ (∀ g cs t, fr g → Rw w g cs t → Rw w' g cs t) ∧ Ds w' B S z d (fun k => fr k ∨ k = g) := h.pending hi hx hb hnb
theorem Ds.copyS (h : Ds w B S z d fr) {j : Nat} (hi : d i = some (sp p b st)) (hj : d j = none) (hFS : ∀ t, S ≤ t → st.F t = none) (hS : S ≤ 65536) (hz0 : 0 < z) (hz : z ≤ 4096) (hb : b ≤ 4398046511104) :
    Calls Try.prog 29 #[.pointer (some ⟨p, 0, none⟩)] w fun e w' => ∃ q, e = .returned (.pointer (some ⟨q, 0, none⟩)) ∧ Below B w w' ∧ (∀ g cs t, fr g → Rw w g cs t → Rw w' g cs t) ∧ Ds w' B S z (updT d j (some (sp q b st))) fr := h.copy hi hj hFS hS hz0 hz hb
end

theorem Try.struct67 : Try.prog.underlying 67 = some (.struct (Try.prog.fieldsOf 67)) := by kernel_rfl
theorem Try.fields67 : (Try.prog.fieldsOf 67).toList.map (fun f => (f.name, f.type, f.offset)) = [("Reads", 32, 0), ("Writes", 32, 1), ("Flushes", 32, 2)] := by kernel_rfl
theorem eqF_cons (d : Nat) (xs : Array Value) (f : Field) (fs : List Field) (w : World) (a : Value) (hn : f.name ≠ "_") (hp : (part f.type xs f.offset).run Try.prog w = .ok a w) (hq : (Op.equalIn d f.type a a).run Try.prog w = .ok true w) :
    (Op.eqFields d xs xs (f :: fs)).run Try.prog w = (Op.eqFields d xs xs fs).run Try.prog w := by
  simp only [Op.eqFields, if_pos hn, Sem.run_bind, hp, Result.andThen_ok, hq, Bool.not_true, Bool.false_eq_true, if_false]
theorem eqF_nil (d : Nat) (xs : Array Value) (w : World) : (Op.eqFields d xs xs []).run Try.prog w = .ok true w := by simp only [Op.eqFields, Sem.run_pure]
theorem eq67 (d : Nat) (x y v : Int) (w : World) : (Op.equalIn (d + 3) 67 (.agg #[.int .u64 x, .int .u64 y, .int .u64 v]) (.agg #[.int .u64 x, .int .u64 y, .int .u64 v])).run Try.prog w = .ok true w := by
  rw [run_equalIn_struct w (d + 2) 67 _ _ Try.struct67 (by kernel_rfl)]
  obtain ⟨f1, f2, f3, e⟩ : ∃ f1 f2 f3, (Try.prog.fieldsOf 67).toList = [f1, f2, f3] := by
    have := congrArg List.length Try.fields67
    rw [List.length_map] at this
    match h : (Try.prog.fieldsOf 67).toList, this with
    | [f1, f2, f3], _ => exact ⟨f1, f2, f3, rfl⟩
  have h := Try.fields67
  rw [e] at h
  simp only [List.map_cons, List.map_nil, List.cons.injEq, Prod.mk.injEq, and_true] at h
  obtain ⟨⟨a1, a2, a3⟩, ⟨b1, b2, b3⟩, c1, c2, c3⟩ := h
  rw [e]
  have p1 : (part 32 #[.int .u64 x, .int .u64 y, .int .u64 v] 0).run Try.prog w = .ok (.int .u64 x) w := by
    simp [part, isAgg, run_underlying Try.underlying32]
  have p2 : (part 32 #[.int .u64 x, .int .u64 y, .int .u64 v] 1).run Try.prog w = .ok (.int .u64 y) w := by
    simp [part, isAgg, run_underlying Try.underlying32]
  have p3 : (part 32 #[.int .u64 x, .int .u64 y, .int .u64 v] 2).run Try.prog w = .ok (.int .u64 v) w := by
    simp [part, isAgg, run_underlying Try.underlying32]
  have q : ∀ z, (Op.equalIn (d + 2) 32 (.int .u64 z) (.int .u64 z)).run Try.prog w = .ok true w := fun z => by
    rw [run_equalIn_int w (d + 1) 32 .u64 .u64 _ _ Try.underlying32]
    simp
  rw [eqF_cons (d + 2) _ f1 _ w _ (by rw [a1]; simp) (by rw [a2, a3]; exact p1) (by rw [a2]; exact q x), eqF_cons (d + 2) _ f2 _ w _ (by rw [b1]; simp) (by rw [b2, b3]; exact p2) (by rw [b2]; exact q y), eqF_cons (d + 2) _ f3 _ w _ (by rw [c1]; simp) (by rw [c2, c3]; exact p3) (by rw [c2]; exact q v)]
  exact eqF_nil _ _ w
theorem eql67 (x y v : Int) (w : World) : (Op.equalIn 10000 67 (.agg #[.int .u64 x, .int .u64 y, .int .u64 v]) (.agg #[.int .u64 x, .int .u64 y, .int .u64 v])).run Try.prog w = .ok true w := eq67 9997 x y v w
end Go.Proofs.Ytpongepfjdgcmaa
