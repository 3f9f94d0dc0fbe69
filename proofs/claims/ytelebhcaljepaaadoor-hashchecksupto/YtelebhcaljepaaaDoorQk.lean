/- An argument's address lies in the heap; no walk. -/
import Derived.Test.YtelebhcaljepaaaDoorQo
namespace Go.Proofs.YtelebhcaljepaaaDoor
open Go.ChangeShapes Go.WideShapes Go.ChangeAt Go.RowKit Go.Deep

theorem slice_ltS {W : World} {base : Nat} {ao : Option Addr} {m c : Nat} (h : Value.okWide Tryd.prog W .any base 22 (.slice ao m c)) : ∀ ad, ao = some ad → ad.block < W.heap.size := by
  intro ad had
  subst had
  simp only [Value.okWide, Tryd.underlying22, Cell.okWide, Cell.ok] at h
  obtain ⟨_, _, _, _, row, cells, hs, _⟩ := h
  rcases Nat.lt_or_ge ad.block W.heap.size with h1 | h1
  · exact h1
  · have h2 : W.heap[ad.block]? = none := Array.getElem?_eq_none h1
    simp [World.shape?, h2] at hs
end Go.Proofs.YtelebhcaljepaaaDoor
