/- The walk of the document's Size. -/
import Derived.Test.YtjiphmeoofeepaaXd
namespace Go.Proofs.Ytjiphmeoofeepaa
open Go.RowKit
open Sk (Ent)

theorem size_le {l : List Ent} (h : ∀ e ∈ l, e.key.length ≤ 64 ∧ e.val.length ≤ 1024) : Sk.size l ≤ l.length * 1096 := by
  induction l with
  | nil => simp [Sk.size]
  | cons a l ih =>
    have h1 := h a (List.mem_cons_self ..)
    have h2 := ih (fun e he => h e (List.mem_cons_of_mem _ he))
    simp only [Sk.size, List.length_cons]
    omega
theorem size_more {l : List Ent} {k : Nat} {e : Ent} (h : l[k]? = some e) : Sk.size (l.take (k + 1)) = Sk.size (l.take k) + (e.key.length + e.val.length + 8) := by
  rw [List.take_add_one, h, Sk.size_append]
  simp [Sk.size]
theorem RMem.small {B : Nat} {w : World} {r : Nat} {ys : List EV} {hs : List Int} (h : RMem B w r ys hs) : ∀ y ∈ ys, y.e.key.length ≤ 64 ∧ y.e.val.length ≤ 1024 := fun y hy => by
  have := h.may y hy
  unfold Sk.may at this
  simp at this
  omega
end Go.Proofs.Ytjiphmeoofeepaa
