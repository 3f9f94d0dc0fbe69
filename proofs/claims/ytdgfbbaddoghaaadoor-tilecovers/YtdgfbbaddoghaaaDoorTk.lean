/- Nodes in memory, rows of them, rows of rows; no walk. -/
import Derived.Test.YtdgfbbaddoghaaaDoorKz
import Derived.Test.YtdgfbbaddoghaaaDoorTm
import Derived.Test.YtdgfbbaddoghaaaDoorKt
namespace Go.Proofs.YtdgfbbaddoghaaaDoor
open Go.RowKit
open Mt (Pos)

/-- Nodes as records of two cells. -/
def posKind : Kind Pos where
  size := 2
  vals p := [.int .i64 (p.l : Int), .int .i64 (p.x : Int)]
  held _ _ := True
theorem posKind_ok : posKind.Ok :=
  ⟨by decide, fun _ => rfl, fun e u hu => by
    simp only [posKind, List.mem_cons, List.not_mem_nil, or_false] at hu
    rcases hu with rfl | rfl <;> rfl, fun _ _ => trivial⟩
/-- A row of nodes, of the element type T, and an error. -/
def PosA (T : TypeId) (w : World) (ps : List Pos) (er : Int) (e : Ending) (w' : World) : Prop := ∃ v, e = .returned (.tuple #[v, .int .i64 er]) ∧ w'.ownsRow w.heap.size T 2 v ps.length (rv posKind ps) ∧ Below w.heap.size w w'
/-- A row of nodes alone. -/
def PosR (T : TypeId) (w : World) (ps : List Pos) (e : Ending) (w' : World) : Prop := ∃ v, e = .returned v ∧ w'.ownsRow w.heap.size T 2 v ps.length (rv posKind ps) ∧ Below w.heap.size w w'
theorem PosA.none {T : TypeId} {w w' : World} {er : Int} (hb : Below w.heap.size w w') : PosA T w [] er (.returned (.tuple #[.slice none 0 0, .int .i64 er])) w' := ⟨_, rfl, World.ownsRow_nil _ _ _ _, hb⟩
theorem pos_at {w : World} {ao : Option Addr} {n c : Nat} {ps : List Pos} (h : RSrc posKind w ao n c ps) (hn : 0 < n) : ∃ b off, ao = some ⟨b, off, none⟩ ∧ b < w.heap.size ∧ ∀ i p, ps[i]? = some p → w.cell? ⟨b, off + i * 2, none⟩ = some (.int .i64 (p.l : Int)) ∧ w.cell? ⟨b, off + i * 2 + 1, none⟩ = some (.int .i64 (p.x : Int)) := by
  obtain ⟨b, off, h1, h2, h3⟩ := h.form posKind_ok hn
  refine ⟨b, off, h1, h2, fun i p hp => ⟨?_, ?_⟩⟩
  · have := h3 i p hp 0 _ rfl
    simpa [posKind] using this
  · have := h3 i p hp 1 _ rfl
    simpa [posKind, Nat.add_assoc] using this
theorem wrap_pow {k : Nat} (hk : k ≤ 41) : wrap64 ((2 : Int) ^ k) = ((2 ^ k : Nat) : Int) := by
  have hp : (2 : Nat) ^ k ≤ 2 ^ 41 := Nat.pow_le_pow_right (by decide) hk
  have h41 : (2 : Nat) ^ 41 = 2199023255552 := by decide
  have e3 : (2 : Int) ^ k = ((2 ^ k : Nat) : Int) := by simp
  rw [e3]
  obtain ⟨y, hy⟩ : ∃ y, 2 ^ k = y := ⟨_, rfl⟩
  rw [hy] at hp ⊢
  unfold wrap64
  omega
theorem lv_40 {n : Nat} (hn : n ≤ 1099511627776) : Mt.lv n ≤ 40 := Mt.lv_le (by show n ≤ 2 ^ 40; exact hn)
/-- A row of nodes as a slice answers it. -/
structure PV where
  p : Option Addr
  c : Nat
  ps : List Pos
/-- Rows of nodes of the element type T, as records of one cell. -/
def rowKind (T : TypeId) : Kind PV where
  size := 1
  vals x := [.slice x.p x.ps.length x.c]
  held w x := w.ownsRow 0 T 2 (.slice x.p x.ps.length x.c) x.ps.length (rv posKind x.ps)
theorem rowKind_ok (T : TypeId) : (rowKind T).Ok :=
  ⟨Nat.zero_lt_one, fun _ => rfl, fun e u hu => by
    simp only [rowKind, List.mem_cons, List.not_mem_nil, or_false] at hu
    rw [hu]; rfl, fun h hb => own_next h hb⟩
/-- A row of rows of nodes; what each row holds is listed. -/
structure RowsV (T TT : TypeId) (w : World) (B : Nat) (v : Value) (pss : List (List Pos)) : Prop where
  is : ∃ xs : List PV, xs.map (·.ps) = pss ∧ w.ownsRow B TT 1 v pss.length (rv (rowKind T) xs) ∧ ∀ x ∈ xs, (rowKind T).held w x
/-- Rows of nodes and an error; rows alone. -/
def RowsA (T TT : TypeId) (w : World) (pss : List (List Pos)) (er : Int) (e : Ending) (w' : World) : Prop := ∃ v, e = .returned (.tuple #[v, .int .i64 er]) ∧ RowsV T TT w' w.heap.size v pss ∧ Below w.heap.size w w'
def RowsR (T TT : TypeId) (w : World) (pss : List (List Pos)) (e : Ending) (w' : World) : Prop := ∃ v, e = .returned v ∧ RowsV T TT w' w.heap.size v pss ∧ Below w.heap.size w w'
theorem RowsV.nil {T TT : TypeId} {w : World} {B : Nat} : RowsV T TT w B (.slice none 0 0) [] := ⟨[], rfl, World.ownsRow_nil _ _ _ _, fun _ h => (by cases h)⟩
theorem RowsV.next {T TT : TypeId} {w w' : World} {B : Nat} {v : Value} {pss : List (List Pos)} (h : RowsV T TT w B v pss) (hb : Below w.heap.size w w') : RowsV T TT w' B v pss := by
  obtain ⟨xs, h1, h2, h3⟩ := h.is
  exact ⟨xs, h1, own_next h2 hb, fun x hx => (rowKind_ok T).below (h3 x hx) hb⟩
theorem RowsV.low {T TT : TypeId} {w : World} {B B' : Nat} {v : Value} {pss : List (List Pos)} (h : RowsV T TT w B v pss) (hb : B' ≤ B) : RowsV T TT w B' v pss := by
  obtain ⟨xs, h1, h2, h3⟩ := h.is
  exact ⟨xs, h1, own_low h2 hb, h3⟩
/-- An own row's block has its element type. -/
theorem own_tag {w : World} {B t k n : Nat} {v : Value} {xs : List Value} (h : w.ownsRow B t k v n xs) {g : Nat} (hg : v.ownBlock = some g) : ∃ cur, w.heap[g]? = some (.cells cur t (0, 0)) := by
  rcases h.2 with ⟨rfl, _⟩ | ⟨g', cap, cur, rfl, _, hh, _⟩
  · cases hg
  · cases hg
    exact ⟨cur, hh⟩
/-- A row of another element type stays where a row is turned or grows. -/
theorem own_grown {w w' : World} {B t k n B2 t2 k2 n2 : Nat} {v v2 : Value} {xs xs2 : List Value} (hne : t ≠ t2) (h : w.ownsRow B t k v n xs) (h2 : w.ownsRow B2 t2 k2 v2 n2 xs2) (hg : w.grownBy w' v2.ownBlock) : w'.ownsRow B t k v n xs := by
  rcases h.2 with h0 | ⟨g, cap, cur, rfl, hb, hh, r⟩
  · exact ⟨h.1, .inl h0⟩
  · refine ⟨h.1, .inr ⟨g, cap, cur, rfl, hb, (hg.block g (Array.getElem?_eq_some_iff.1 hh).1 (fun e => ?_)).trans hh, r⟩⟩
    obtain ⟨cur2, hh2⟩ := own_tag h2 e.symm
    rw [hh] at hh2
    cases hh2
    exact hne rfl
/-- One row more at the end. -/
theorem RowsV.more {T TT : TypeId} {w w1 w2 : World} {B : Nat} {v v' : Value} {xs : List PV} {x : PV} (hT : T ≠ TT) (h3 : ∀ y ∈ xs, (rowKind T).held w y) (ho : w.ownsRow B TT 1 v xs.length (rv (rowKind T) xs)) (hx : (rowKind T).held w x) (hb : Below w.heap.size w w1)
    (ho2 : w2.ownsRow B TT 1 v' (xs.length + 1) (rv (rowKind T) (xs ++ [x]))) (hg : w1.grownBy w2 v.ownBlock) : RowsV T TT w2 B v' (xs.map (·.ps) ++ [x.ps]) :=
  ⟨xs ++ [x], by rw [List.map_append]; rfl, by rw [List.length_append, List.length_map]; exact ho2, fun y hy => by
    have o1 := own_next ho hb
    rcases List.mem_append.1 hy with hy | hy
    · exact own_grown hT ((rowKind_ok T).below (h3 y hy) hb) o1 hg
    · rw [List.mem_singleton.1 hy]
      exact own_grown hT ((rowKind_ok T).below hx hb) o1 hg⟩
end Go.Proofs.YtdgfbbaddoghaaaDoor
