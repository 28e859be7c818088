/-
  Things of three cells with numbers in memory.
-/
import Derived.Test.YtpkcabbfblhekaaOrder
namespace Go.Proofs.Ytpkcabbfblhekaa.V
open Go.RowKit

/-- A thing with its number: what it is ordered by, what it is, when it came. -/
structure E where
  k : Int
  n : Int
  i : Int
  num : Int
def zE : E := ⟨0, 0, 0, 0⟩
/-- Its cells. -/
def E.cells (e : E) : List Value := [.int .i64 e.k, .int .i64 e.n, .int .i64 e.i, .int .i64 e.num]
def E.val (e : E) : Value := .agg #[.int .i64 e.k, .int .i64 e.n, .int .i64 e.i, .int .i64 e.num]
def E.two (e : E) : Value := .agg #[.int .i64 e.k, .int .i64 e.n, .int .i64 e.i]
def nth (H : List E) (i : Nat) : E := H.getD i zE
def sw (H : List E) (i j : Nat) : List E := (H.set i (nth H j)).set j (nth H i)
theorem sw_len (H : List E) (i j : Nat) : (sw H i j).length = H.length := by simp [sw]
/-- Things as cells. -/
def rowE (H : List E) : List Value := H.flatMap E.cells
theorem rowE_nil : rowE [] = [] := rfl
theorem rowE_cons (e : E) (H : List E) : rowE (e :: H) = e.cells ++ rowE H := rfl
theorem rowE_app (H G : List E) : rowE (H ++ G) = rowE H ++ rowE G := by simp [rowE]
theorem rowE_len (H : List E) : (rowE H).length = H.length * 4 := by
  induction H with
  | nil => rfl
  | cons e H ih => rw [rowE_cons, List.length_append, ih]; simp [E.cells]; omega
theorem rowE_one (H : List E) : ∀ u ∈ rowE H, u.oneCell' = true := by
  intro u hu
  simp only [rowE, List.mem_flatMap, E.cells, List.mem_cons, List.not_mem_nil, or_false] at hu
  obtain ⟨e, _, rfl | rfl | rfl | rfl⟩ := hu <;> rfl
theorem rowE_get (H : List E) (sp : List Value) : ∀ (i : Nat), i < H.length → ((rowE H ++ sp).drop (i * 4)).take 4 = (nth H i).cells := by
  induction H with
  | nil => intro i h; simp at h
  | cons e H ih =>
    intro i h
    cases i with
    | zero => simp [rowE_cons, nth, E.cells]
    | succ i =>
      have := ih i (by simpa using h)
      have e3 : (i + 1) * 4 = 4 + i * 4 := by omega
      rw [e3, ← List.drop_drop, rowE_cons, List.append_assoc]
      have : (e.cells ++ (rowE H ++ sp)).drop 4 = rowE H ++ sp := by simp [E.cells]
      rw [this]
      simpa [nth] using ih i (by simpa using h)
theorem rowE_at (H : List E) (sp : List Value) (i : Nat) (h : i < H.length) : (rowE H ++ sp)[i * 4]? = some (.int .i64 (nth H i).k) ∧ (rowE H ++ sp)[i * 4 + 1]? = some (.int .i64 (nth H i).n) ∧ (rowE H ++ sp)[i * 4 + 2]? = some (.int .i64 (nth H i).i) ∧ (rowE H ++ sp)[i * 4 + 3]? = some (.int .i64 (nth H i).num) := by
  have e := rowE_get H sp i h
  have g : ∀ j, j < 4 → (rowE H ++ sp)[i * 4 + j]? = (nth H i).cells[j]? := fun j hj => by rw [← e, List.getElem?_take, if_pos hj, List.getElem?_drop]
  exact ⟨by simpa [E.cells] using g 0 (by omega), by simpa [E.cells] using g 1 (by omega), by simpa [E.cells] using g 2 (by omega), by simpa [E.cells] using g 3 (by omega)⟩
theorem rowE_set (H : List E) (sp : List Value) : ∀ (i : Nat) (e : E), i < H.length → splice (rowE H ++ sp) (i * 4) e.cells = rowE (H.set i e) ++ sp := by
  induction H with
  | nil => intro i e h; simp at h
  | cons x H ih =>
    intro i e h
    cases i with
    | zero => simp [splice, rowE_cons, E.cells]
    | succ i =>
      have e3 : (i + 1) * 4 = 4 + i * 4 := by omega
      have := ih i e (by simpa using h)
      unfold splice at this ⊢
      have hx : x.cells.length = 4 := rfl
      rw [List.set_cons_succ, rowE_cons, rowE_cons, List.append_assoc x.cells, List.append_assoc x.cells, ← this, e3]
      have t1 : (x.cells ++ (rowE H ++ sp)).take (4 + i * 4) = x.cells ++ (rowE H ++ sp).take (i * 4) := by rw [← hx, List.take_length_add_append]
      have t2 : (x.cells ++ (rowE H ++ sp)).drop (4 + i * 4 + e.cells.length) = (rowE H ++ sp).drop (i * 4 + e.cells.length) := by rw [← hx, Nat.add_assoc, List.drop_length_add_append]
      rw [t1, t2]
      simp [List.append_assoc]

theorem E.cells_len (e : E) : e.cells.length = 4 := rfl
theorem E.one (e : E) : ∀ v ∈ e.cells, v.oneCell' = true := by
  intro u hu
  simp only [E.cells, List.mem_cons, List.not_mem_nil, or_false] at hu
  obtain rfl | rfl | rfl | rfl := hu <;> rfl


end Go.Proofs.Ytpkcabbfblhekaa.V
