/- The walk of beside; what a climb answers. -/
import Derived.Test.YtelebhcaljepaaaDoorPh
import Derived.BigRegion
namespace Go.Proofs.YtelebhcaljepaaaDoor
open Go.RowKit

/-- The two sides of a node, as a record of two cells. -/
def pairKind : Kind (List UInt8 × List UInt8) where
  size := 2
  vals p := [.string ⟨p.1.toArray⟩, .string ⟨p.2.toArray⟩]
  held _ _ := True
theorem pairKind_ok : pairKind.Ok :=
  ⟨by decide, fun _ => rfl, fun e u hu => by
    simp only [pairKind, List.mem_cons, List.not_mem_nil, or_false] at hu
    rcases hu with rfl | rfl <;> rfl, fun _ _ => trivial⟩
theorem infoP : (Tryd.prog.info? 45).map (fun i => (i.zero, i.size, i.bytes)) = some (some (.agg #[.string ⟨#[]⟩, .string ⟨#[]⟩]), 2, 32) := by kernel_rfl
/-- What climb answers. -/
def ClA (w : World) (leaf : List UInt8) (i n : Int) (ps : List (List UInt8)) (e : Ending) (w' : World) : Prop :=
  (if inRange i n then
    (if climbOk leaf i.toNat n.toNat ps then ∃ v, e = .returned (.tuple #[v, .string ⟨(Mt.top nodeL leaf (Mt.sides i.toNat n.toNat) ps).toArray⟩, .int .i64 0]) ∧ w'.ownsRow w.heap.size 45 2 v (prs leaf (Mt.sides i.toNat n.toNat) ps).length (rv pairKind (prs leaf (Mt.sides i.toNat n.toNat) ps))
     else e = .returned (.tuple #[.slice none 0 0, .string ⟨#[]⟩, .int .i64 9]))
   else e = .returned (.tuple #[.slice none 0 0, .string ⟨#[]⟩, .int .i64 8])) ∧ Below w.heap.size w w'
theorem results_cell {fn : Func} {p : Tmp} {ty : TypeId} (h : fn.results = #[.cell p ty]) (tmps : Array Value) (P : Program) (w : World) :
    (results fn tmps).run P w = ((asAddr (tmps.getD p undef)).run P w).andThen fun a w₁ => (loadVar ty a).run P w₁ := by
  simp only [results, h]
  simp [Sem.run_bind, Result.andThen]
set_option maxHeartbeats 1000000 in
set_option maxRecDepth 100000 in
theorem beside_any (s : Mt.Sd) (x y : List UInt8) (w : World) :
    Calls Tryd.prog 56 #[.agg #[.int .i64 (s.a : Int), .int .i64 (s.b : Int), .bool s.ah], .string ⟨x.toArray⟩, .string ⟨y.toArray⟩] w fun e w' => e = .returned (.agg #[.string ⟨(if s.ah then y else x).toArray⟩, .string ⟨(if s.ah then x else y).toArray⟩]) ∧ Below w.heap.size w w' := by
  obtain ⟨a, b, ah⟩ := s
  simp only
  cases ah with
  | true =>
    go_enter Tryd.func56, Tryd.ntmps56
    go_wp2
    refine ⟨rfl, .agg #[.string ⟨y.toArray⟩, .string ⟨x.toArray⟩], ?_, rfl, ?_⟩
    · rw [results_cell (p := 6) (ty := 45) rfl]
      go_simp
    · exact ((Below.refl _ _).alloc (Nat.le_refl _) _).alloc (le_alloc (Nat.le_refl _) _) _
  | false =>
    go_enter Tryd.func56, Tryd.ntmps56
    go_wp2
    refine ⟨rfl, .agg #[.string ⟨x.toArray⟩, .string ⟨y.toArray⟩], ?_, rfl, ?_⟩
    · rw [results_cell (p := 6) (ty := 45) rfl]
      go_simp
    · exact ((Below.refl _ _).alloc (Nat.le_refl _) _).alloc (le_alloc (Nat.le_refl _) _) _
end Go.Proofs.YtelebhcaljepaaaDoor
