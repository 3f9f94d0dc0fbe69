/- The walk of the document's Level. -/
import Derived.Test.YtjiphmeoofeepaaXe
import Derived.Test.YtjiphmeoofeepaaVn
import Derived.Test.YtjiphmeoofeepaaSl
namespace Go.Proofs.Ytjiphmeoofeepaa
open Go.RowKit
open Sk (Ent)

theorem rv_num (hs : List Int) : rv numKind hs = hs.map (Value.int .i64) := by
  induction hs with
  | nil => rfl
  | cons a l ih => show [Value.int .i64 a] ++ rv numKind l = _; rw [ih]; rfl
/-- The entries that are at least so high. -/
def lev (l : List (Ent × Int)) (h : Int) : List Ent := (l.filter fun p => decide (h ≤ p.2)).map (·.1)
theorem lev_more {l : List (Ent × Int)} {k : Nat} {e : Ent} {g h : Int} (hk : l[k]? = some (e, g)) : lev (l.take (k + 1)) h = lev (l.take k) h ++ (if h ≤ g then [e] else []) := by
  unfold lev
  rw [List.take_add_one, hk, List.filter_append, List.map_append]
  by_cases hg : h ≤ g
  · rw [if_pos hg]; simp [hg]
  · rw [if_neg hg]; simp [hg]
theorem RMem.nums {B : Nat} {w : World} {r : Nat} {ys : List EV} {hs : List Int} (h : RMem B w r ys hs) : ∃ ao c ah ch, w.cell? ⟨r, 0, none⟩ = some (.slice ao ys.length c) ∧ w.cell? ⟨r, 1, none⟩ = some (.slice ah ys.length ch) ∧ RSrc entKind w ao ys.length c ys ∧ RSrc numKind w ah ys.length ch hs := by
  obtain ⟨ao, c, vH, h1, h2, h3, _⟩ := h.src
  rw [← h.len, ← rv_num] at h3
  obtain ⟨ah, ch, rfl, hr, _⟩ := RSrc.own numKind_ok h3 (fun _ _ => trivial)
  exact ⟨ao, c, ah, ch, cell_of_row _ _ _ _ _ _ h1, cell_of_row _ _ _ _ _ _ h1, h2, hr⟩
end Go.Proofs.Ytjiphmeoofeepaa
