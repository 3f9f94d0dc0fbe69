/- A note as it lies; no walk. -/
import Derived.Test.YthaiodajfmbeaaaGreatH0
import Derived.Test.YthaiodajfmbeaaaGreatRw
import Derived.Test.YthaiodajfmbeaaaGreatOw
namespace Go.Proofs.YthaiodajfmbeaaaGreat
open Go.RowKit
open Ed (Nt)

/-- A note as it lies in memory: where its bytes are, besides. -/
structure MV where
  fp : Option Addr
  fc : Nat
  lp : Option Addr
  lc : Nat
  m : Nt
def metaKind : Kind MV where
  size := 5
  vals x := [.int .i64 x.m.num, .int .i64 x.m.level, .int .i64 x.m.count, .slice x.fp x.m.first.length x.fc, .slice x.lp x.m.last.length x.lc]
  held w x := Src w x.fp x.m.first.length x.fc x.m.first ∧ Src w x.lp x.m.last.length x.lc x.m.last
theorem metaKind_ok : metaKind.Ok :=
  ⟨by decide, fun _ => rfl, fun e u hu => by
    simp only [metaKind, List.mem_cons, List.not_mem_nil, or_false] at hu
    rcases hu with rfl | rfl | rfl | rfl | rfl <;> rfl, fun h hb => ⟨h.1.below hb, h.2.below hb⟩⟩
def mv (x : MV) : Value := .agg #[.int .i64 x.m.num, .int .i64 x.m.level, .int .i64 x.m.count, .slice x.fp x.m.first.length x.fc, .slice x.lp x.m.last.length x.lc]
theorem meta_cells {w : World} {b off n c : Nat} {es : List MV} (h : RSrc metaKind w (some ⟨b, off, none⟩) n c es) {i : Nat} {x : MV} (hx : es[i]? = some x) :
    w.cell? ⟨b, off + i * 5, none⟩ = some (.int .i64 x.m.num) ∧ w.cell? ⟨b, off + i * 5 + 1, none⟩ = some (.int .i64 x.m.level) ∧ w.cell? ⟨b, off + i * 5 + 2, none⟩ = some (.int .i64 x.m.count) ∧ w.cell? ⟨b, off + i * 5 + 3, none⟩ = some (.slice x.fp x.m.first.length x.fc) ∧ w.cell? ⟨b, off + i * 5 + 4, none⟩ = some (.slice x.lp x.m.last.length x.lc) := by
  have one : ∀ (j : Nat) (u : Value), (metaKind.vals x)[j]? = some u → w.cell? ⟨b, off + i * 5 + j, none⟩ = some u := fun j u hu => by
    have hj : j < 5 := (List.getElem?_eq_some_iff.1 hu).1
    have := h.cells _ rfl (i * metaKind.size + j) u ((rv_at metaKind_ok j hx hj).trans hu)
    rw [Addr.add_mid] at this
    rw [show off + i * 5 + j = off + (i * metaKind.size + j) by show _ = off + (i * 5 + j); omega]
    exact this
  exact ⟨one 0 _ rfl, one 1 _ rfl, one 2 _ rfl, one 3 _ rfl, one 4 _ rfl⟩
end Go.Proofs.YthaiodajfmbeaaaGreat
