/- errors.Is where the target is the package's own error: nothing, or a fault that unwraps to it. -/
import Derived.Test.YtomceheophnjnabDoorL
import Derived.LaidEql
import Derived.Stop.Asserts
import Derived.RowKitTokens
namespace Go.Proofs.YtomceheophnjnabDoor
open Go.RowKit Go.Extern.Stop Go.Stop Go.Extern

theorem isTypeOf (v : Value) (w : World) : (Extern.ReflectliteType.typeOf #[.iface 58 v]).run Tryd.prog w = .ok (.iface 47 (.agg #[.pointer (some ⟨2, 58, none⟩)])) w := by kernel_rfl
/-- What the model has for the method Comparable says yes of this type. -/
theorem isComparable : ∃ e, Extern.find Tryd.f42 = some e ∧ ∀ w : World, (e #[.agg #[.pointer (some ⟨2, 58, none⟩)]]).run Tryd.prog w = .ok (.bool true) w :=
  ⟨(Extern.find Tryd.f42).getD fun _ => stuck "none", by kernel_rfl, fun _ => by kernel_rfl⟩
theorem isMethodComparable (v : Value) (w : World) : (Go.method 196 47 v "Comparable").run Tryd.prog w = .ok (42, v) w := by kernel_rfl
theorem isComp : (Tryd.prog.info? 58).map (·.comparable) = some true := by kernel_rfl
theorem isSize : (Tryd.prog.info? 84).map (·.size) = some 1 := by kernel_rfl
theorem noIsF (v : Value) (xT : TypeId) (w : World) : (Instr.typeAssert (.iface 42 v) xT 49 true).run Tryd.prog w = .ok (.tuple #[.nilIface, .bool false]) w := run_typeAssert_lacksB Tryd.underlying49 (by kernel_rfl) (by kernel_rfl) v xT w
theorem hasUnwrapF (v : Value) (xT : TypeId) (w : World) : (Instr.typeAssert (.iface 42 v) xT 52 true).run Tryd.prog w = .ok (.tuple #[.iface 42 v, .bool true]) w := run_typeAssert_hasB Tryd.underlying52 (by kernel_rfl) v xT w
theorem methodUnwrapF (v : Value) (w : World) : (Go.method 196 42 v "Unwrap").run Tryd.prog w = .ok (38, v) w := by kernel_rfl

/-- errors.Is(nil, x). -/
theorem is_nil (b : Addr) (w : World) :
    Calls Tryd.prog 9 #[.nilIface, .iface 58 (.pointer (some b))] w fun e w' => e = .returned (.bool false) ∧ w' = w := by
  have hn := run_eql_iface_nil_left (P := Tryd.prog) w 58 (.pointer (some b)) Tryd.underlying32
  go_enter Tryd.func9, Tryd.ntmps9
  go_wp2
  go_ret
  exact ⟨rfl, rfl⟩

set_option maxHeartbeats 1000000 in
set_option maxRecDepth 100000 in
/-- errors.Is(f, x), f a fault, x the package's own error: one Unwrap, then equal. -/
theorem is_fault (s : ByteArray) (b : Addr) (w : World) (hg : w.cell? ⟨0, 0, none⟩ = some (.iface 58 (.pointer (some b)))) :
    Calls Tryd.prog 9 #[.iface 42 (.agg #[.string s]), .iface 58 (.pointer (some b))] w fun e w' => e = .returned (.bool true) ∧ Below w.heap.size w w' := by
  obtain ⟨i, hi, hcmp⟩ := Option.map_eq_some_iff.1 isComp
  obtain ⟨j, hj, hjs⟩ := Option.map_eq_some_iff.1 isSize
  have h8 := @run_callFunc_extern Tryd.prog 15 _ Extern.ReflectliteType.typeOf Tryd.func15 (by kernel_rfl) (by kernel_rfl) (by kernel_rfl) (by kernel_rfl)
  obtain ⟨ce, hce, cT⟩ := isComparable
  have h32 := @run_callFunc_extern Tryd.prog 42 _ ce Tryd.func42 (by kernel_rfl) (by kernel_rfl) (by kernel_rfl) hce
  clear hce
  have tT := isTypeOf
  have mR := isMethodComparable
  have nW := noIsF
  have uW := hasUnwrapF
  have mU := methodUnwrapF
  have hlt : 0 < w.heap.size := World.block_lt_of_cell? w _ hg
  have hg2 : (w.alloc (.cells #[.string s] 42)).cell? ⟨0, 0, none⟩ = some (.iface 58 (.pointer (some b))) := by rw [World.cell?_alloc_past _ _ _ hlt]; exact hg
  have heq := run_eql_iface_ptr_same (P := Tryd.prog) (w.alloc (.cells #[.string s] 42)) b Tryd.underlying32 Tryd.underlying58 hi hcmp hj
  have hty := run_eql_iface_types (P := Tryd.prog) 42 58 (.agg #[.string s]) (.pointer (some b)) Tryd.underlying32 (by decide) w
  go_enter Tryd.func9, Tryd.ntmps9
  go_wp2
  refine wp_loop_rounds 2 ?_
  rw [rounds_succ]
  go_wp2
  rw [rounds_succ]
  go_wp2
  go_ret
  exact ⟨rfl, (Below.refl _ _).alloc (Nat.le_refl _) _⟩
end Go.Proofs.YtomceheophnjnabDoor
