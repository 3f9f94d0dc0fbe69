/- Rows that a call owns; no walk. (The frames by blocks lie in disk's Ds.) -/
import Derived.Test.YtogphpejdnhnjaaGreatDoorL
import Derived.Test.YtogphpejdnhnjaaGreatDoorRw
import Derived.Test.YtogphpejdnhnjaaGreatDoorMe
namespace Go.Proofs.YtogphpejdnhnjaaGreatDoor
open Go.RowKit

theorem own_size {w : World} {B t k n : Nat} {v : Value} {xs : List Value} (h : w.ownsRow B t k v n xs) {g : Nat} (hg : v.ownBlock = some g) : g < w.heap.size := by
  rcases h.2 with ⟨rfl, _⟩ | ⟨g', cap, cur, rfl, _, hh, _⟩
  · cases hg
  · cases hg
    exact (Array.getElem?_eq_some_iff.1 hh).1
theorem own_tag {w : World} {B t k n : Nat} {v : Value} {xs : List Value} (h : w.ownsRow B t k v n xs) {g : Nat} (hg : v.ownBlock = some g) : ∃ cur, w.heap[g]? = some (.cells cur t (0, 0)) := by
  rcases h.2 with ⟨rfl, _⟩ | ⟨g', cap, cur, rfl, _, hh, _⟩
  · cases hg
  · cases hg
    exact ⟨cur, hh⟩
end Go.Proofs.YtogphpejdnhnjaaGreatDoor
