/- errors.Is where the target is the package's own error: nothing, or a fault that unwraps to it. -/
import Derived.Test.YtomceheophnjnaaDoorL
import Derived.LaidEql
import Derived.Stop.Asserts
import Derived.RowKitTokens
namespace Go.Proofs.YtomceheophnjnaaDoor
open Go.RowKit Go.Extern.Stop Go.Stop Go.Extern

theorem isTypeOf (v : Value) (w : World) : (Extern.ReflectliteType.typeOf #[.iface 68 v]).run Tryd.prog w = .ok (.iface 56 (.agg #[.pointer (some ⟨2, 68, none⟩)])) w := by kernel_rfl
/-- What the model has for the method Comparable says yes of this type. -/
theorem isComparable : ∃ e, Extern.find Tryd.f54 = some e ∧ ∀ w : World, (e #[.agg #[.pointer (some ⟨2, 68, none⟩)]]).run Tryd.prog w = .ok (.bool true) w :=
  ⟨(Extern.find Tryd.f54).getD fun _ => stuck "none", by kernel_rfl, fun _ => by kernel_rfl⟩
theorem isMethodComparable (v : Value) (w : World) : (Go.method 206 56 v "Comparable").run Tryd.prog w = .ok (54, v) w := by kernel_rfl
theorem isComp : (Tryd.prog.info? 68).map (·.comparable) = some true := by kernel_rfl
theorem isSize : (Tryd.prog.info? 94).map (·.size) = some 1 := by kernel_rfl
theorem noIsF (v : Value) (xT : TypeId) (w : World) : (Instr.typeAssert (.iface 51 v) xT 58 true).run Tryd.prog w = .ok (.tuple #[.nilIface, .bool false]) w := run_typeAssert_lacksB Tryd.underlying58 (by kernel_rfl) (by kernel_rfl) v xT w
theorem hasUnwrapF (v : Value) (xT : TypeId) (w : World) : (Instr.typeAssert (.iface 51 v) xT 61 true).run Tryd.prog w = .ok (.tuple #[.iface 51 v, .bool true]) w := run_typeAssert_hasB Tryd.underlying61 (by kernel_rfl) v xT w
theorem methodUnwrapF (v : Value) (w : World) : (Go.method 206 51 v "Unwrap").run Tryd.prog w = .ok (50, v) w := by kernel_rfl

/-- errors.Is(nil, x). -/
theorem is_nil (b : Addr) (w : World) :
    Calls Tryd.prog 16 #[.nilIface, .iface 68 (.pointer (some b))] w fun e w' => e = .returned (.bool false) ∧ w' = w := by
  have hn := run_eql_iface_nil_left (P := Tryd.prog) w 68 (.pointer (some b)) Tryd.underlying36
  go_enter Tryd.func16, Tryd.ntmps16
  go_wp2
  go_ret
  exact ⟨rfl, rfl⟩

set_option maxHeartbeats 1000000 in
set_option maxRecDepth 100000 in
/-- errors.Is(f, x), f a fault, x the package's own error: one Unwrap, then equal. -/
theorem is_fault (s : ByteArray) (b : Addr) (w : World) (hg : w.cell? ⟨0, 0, none⟩ = some (.iface 68 (.pointer (some b)))) :
    Calls Tryd.prog 16 #[.iface 51 (.agg #[.string s]), .iface 68 (.pointer (some b))] w fun e w' => e = .returned (.bool true) ∧ Below w.heap.size w w' := by
  obtain ⟨i, hi, hcmp⟩ := Option.map_eq_some_iff.1 isComp
  obtain ⟨j, hj, hjs⟩ := Option.map_eq_some_iff.1 isSize
  have h8 := @run_callFunc_extern Tryd.prog 25 _ Extern.ReflectliteType.typeOf Tryd.func25 (by kernel_rfl) (by kernel_rfl) (by kernel_rfl) (by kernel_rfl)
  obtain ⟨ce, hce, cT⟩ := isComparable
  have h32 := @run_callFunc_extern Tryd.prog 54 _ ce Tryd.func54 (by kernel_rfl) (by kernel_rfl) (by kernel_rfl) hce
  clear hce
  have tT := isTypeOf
  have mR := isMethodComparable
  have nW := noIsF
  have uW := hasUnwrapF
  have mU := methodUnwrapF
  have hlt : 0 < w.heap.size := World.block_lt_of_cell? w _ hg
  have hg2 : (w.alloc (.cells #[.string s] 51)).cell? ⟨0, 0, none⟩ = some (.iface 68 (.pointer (some b))) := by rw [World.cell?_alloc_past _ _ _ hlt]; exact hg
  have heq := run_eql_iface_ptr_same (P := Tryd.prog) (w.alloc (.cells #[.string s] 51)) b Tryd.underlying36 Tryd.underlying68 hi hcmp hj
  have hty := run_eql_iface_types (P := Tryd.prog) 51 68 (.agg #[.string s]) (.pointer (some b)) Tryd.underlying36 (by decide) w
  go_enter Tryd.func16, Tryd.ntmps16
  go_wp2
  refine wp_loop_rounds 2 ?_
  rw [rounds_succ]
  go_wp2
  rw [rounds_succ]
  go_wp2
  go_ret
  exact ⟨rfl, (Below.refl _ _).alloc (Nat.le_refl _) _⟩
end Go.Proofs.YtomceheophnjnaaDoor
