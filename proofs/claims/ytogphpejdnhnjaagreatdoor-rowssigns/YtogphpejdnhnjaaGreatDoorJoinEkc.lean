/- errors.Is where the target is the package's own error: nothing, or a fault that unwraps to it. -/
/- The walk of key.check. -/
/- The walks of key.Make and key.Num. -/
import Derived.Test.YtogphpejdnhnjaaGreatDoorL
import Derived.LaidEql
import Derived.Stop.Asserts
import Derived.RowKitTokens
import Derived.Test.YtogphpejdnhnjaaGreatDoorKm
import Derived.Test.YtogphpejdnhnjaaGreatDoorJoinP
import Derived.Deep.RegionWith
namespace Go.Proofs.YtogphpejdnhnjaaGreatDoor
open Go.RowKit Go.Extern.Stop Go.Stop Go.Extern

theorem isTypeOf (v : Value) (w : World) : (Extern.ReflectliteType.typeOf #[.iface 423 v]).run Tryz.prog w = .ok (.iface 345 (.agg #[.pointer (some ⟨9, 423, none⟩)])) w := by kernel_rfl
/-- What the model has for the method Comparable says yes of this type. -/
theorem isComparable : ∃ e, Extern.find Tryz.f418 = some e ∧ ∀ w : World, (e #[.agg #[.pointer (some ⟨9, 423, none⟩)]]).run Tryz.prog w = .ok (.bool true) w :=
  ⟨(Extern.find Tryz.f418).getD fun _ => stuck "none", by kernel_rfl, fun _ => by kernel_rfl⟩
theorem isMethodComparable (v : Value) (w : World) : (Go.method 583 345 v "Comparable").run Tryz.prog w = .ok (418, v) w := by kernel_rfl
theorem isComp : (Tryz.prog.info? 423).map (·.comparable) = some true := by kernel_rfl
theorem isSize : (Tryz.prog.info? 425).map (·.size) = some 1 := by kernel_rfl
theorem noIsF (v : Value) (xT : TypeId) (w : World) : (Instr.typeAssert (.iface 282 v) xT 347 true).run Tryz.prog w = .ok (.tuple #[.nilIface, .bool false]) w := run_typeAssert_lacksB Tryz.underlying347 (by kernel_rfl) (by kernel_rfl) v xT w
theorem hasUnwrapF (v : Value) (xT : TypeId) (w : World) : (Instr.typeAssert (.iface 282 v) xT 350 true).run Tryz.prog w = .ok (.tuple #[.iface 282 v, .bool true]) w := run_typeAssert_hasB Tryz.underlying350 (by kernel_rfl) v xT w
theorem methodUnwrapF (v : Value) (w : World) : (Go.method 583 282 v "Unwrap").run Tryz.prog w = .ok (410, v) w := by kernel_rfl

/-- errors.Is(nil, x). -/
theorem is_nil (b : Addr) (w : World) :
    Calls Tryz.prog 124 #[.nilIface, .iface 423 (.pointer (some b))] w fun e w' => e = .returned (.bool false) ∧ w' = w := by
  have hn := run_eql_iface_nil_left (P := Tryz.prog) w 423 (.pointer (some b)) Tryz.underlying178
  go_enter Tryz.func124, Tryz.ntmps124
  go_wp2
  go_ret
  exact ⟨rfl, rfl⟩

set_option maxHeartbeats 1000000 in
set_option maxRecDepth 100000 in
/-- errors.Is(f, x), f a fault, x the package's own error: one Unwrap, then equal. -/
theorem is_fault (s : ByteArray) (b : Addr) (w : World) (hg : w.cell? ⟨1, 0, none⟩ = some (.iface 423 (.pointer (some b)))) :
    Calls Tryz.prog 124 #[.iface 282 (.agg #[.string s]), .iface 423 (.pointer (some b))] w fun e w' => e = .returned (.bool true) ∧ Below w.heap.size w w' := by
  obtain ⟨i, hi, hcmp⟩ := Option.map_eq_some_iff.1 isComp
  obtain ⟨j, hj, hjs⟩ := Option.map_eq_some_iff.1 isSize
  have h8 := @run_callFunc_extern Tryz.prog 186 _ Extern.ReflectliteType.typeOf Tryz.func186 (by kernel_rfl) (by kernel_rfl) (by kernel_rfl) (by kernel_rfl)
  obtain ⟨ce, hce, cT⟩ := isComparable
  have h32 := @run_callFunc_extern Tryz.prog 418 _ ce Tryz.func418 (by kernel_rfl) (by kernel_rfl) (by kernel_rfl) hce
  clear hce
  have tT := isTypeOf
  have mR := isMethodComparable
  have nW := noIsF
  have uW := hasUnwrapF
  have mU := methodUnwrapF
  have hlt : 1 < w.heap.size := World.block_lt_of_cell? w _ hg
  have hg2 : (w.alloc (.cells #[.string s] 282)).cell? ⟨1, 0, none⟩ = some (.iface 423 (.pointer (some b))) := by rw [World.cell?_alloc_past _ _ _ hlt]; exact hg
  have heq := run_eql_iface_ptr_same (P := Tryz.prog) (w.alloc (.cells #[.string s] 282)) b Tryz.underlying178 Tryz.underlying423 hi hcmp hj
  have hty := run_eql_iface_types (P := Tryz.prog) 282 423 (.agg #[.string s]) (.pointer (some b)) Tryz.underlying178 (by decide) w
  go_enter Tryz.func124, Tryz.ntmps124
  go_wp2
  refine wp_loop_rounds 2 ?_
  rw [rounds_succ]
  go_wp2
  rw [rounds_succ]
  go_wp2
  go_ret
  exact ⟨rfl, (Below.refl _ _).alloc (Nat.le_refl _) _⟩
end Go.Proofs.YtogphpejdnhnjaaGreatDoor
namespace Go.Proofs.YtogphpejdnhnjaaGreatDoor
open Go.RowKit

/-- Of which a key is made. -/
def Fit (t a : Int) (m : Nat) : Prop := (0 ≤ t ∧ t ≤ 1099511627776) ∧ (0 ≤ a ∧ a ≤ 255) ∧ m ≤ 55

/-- Of which the key of a number is made. -/
def NumFit (t a n : Int) : Prop := (0 ≤ t ∧ t ≤ 1099511627776) ∧ (0 ≤ a ∧ a ≤ 255) ∧ 0 ≤ n ∧ n ≤ 1099511627776
/-- A fault was answered; nothing of w is turned. -/
def Faulty (w : World) (e : Ending) (w' : World) : Prop := ∃ s, e = .returned (.iface 282 (.agg #[.string s])) ∧ Below w.heap.size w w'

set_option maxHeartbeats 1000000 in
set_option maxRecDepth 100000 in
theorem check_yes (t a : Int) (m : Nat) (w : World) (h : Fit t a m) :
    Calls Tryz.prog 125 #[.int .i64 t, .int .i64 a, .int .i64 (m : Int)] w fun e w' => e = .returned .nilIface ∧ Below w.heap.size w w' := by
  obtain ⟨⟨h1, h2⟩, ⟨h3, h4⟩, h5⟩ := h
  have e1 : ¬ t < 0 := by omega
  have e2 : ¬ 1099511627776 < t := by omega
  have e3 : ¬ a < 0 := by omega
  have e4 : ¬ 255 < a := by omega
  have e5 : ¬ (55 : Int) < (m : Int) := by omega
  go_enter Tryz.func125, Tryz.ntmps125
  go_wp2
  go_ret
  exact ⟨rfl, Below.refl _ _⟩

set_option maxHeartbeats 1000000 in
set_option maxRecDepth 100000 in
theorem check_no (t a : Int) (m : Nat) (w : World) (h : ¬ Fit t a m) :
    Calls Tryz.prog 125 #[.int .i64 t, .int .i64 a, .int .i64 (m : Int)] w fun e w' => Faulty w e w' := by
  unfold Fit at h
  by_cases e1 : t < 0
  · clear h
    go_enter Tryz.func125, Tryz.ntmps125
    go_wp2
    go_ret
    exact ⟨_, rfl, Below.refl _ _⟩
  by_cases e2 : 1099511627776 < t
  · clear h
    go_enter Tryz.func125, Tryz.ntmps125
    go_wp2
    go_ret
    exact ⟨_, rfl, Below.refl _ _⟩
  by_cases e3 : a < 0
  · clear h
    go_enter Tryz.func125, Tryz.ntmps125
    go_wp2
    go_ret
    exact ⟨_, rfl, Below.refl _ _⟩
  by_cases e4 : 255 < a
  · clear h
    go_enter Tryz.func125, Tryz.ntmps125
    go_wp2
    go_ret
    exact ⟨_, rfl, Below.refl _ _⟩
  have e5 : (55 : Int) < (m : Int) := by omega
  clear h
  go_enter Tryz.func125, Tryz.ntmps125
  go_wp2
  go_ret
  exact ⟨_, rfl, Below.refl _ _⟩
end Go.Proofs.YtogphpejdnhnjaaGreatDoor
namespace Go.Proofs.YtogphpejdnhnjaaGreatDoor
open Go.RowKit

/-- The package's own error stands in its variable. -/
def ErrIs (w : World) (b : Addr) : Prop := w.cell? ⟨1, 0, none⟩ = some (.iface 423 (.pointer (some b)))
theorem ErrIs.below {w w' : World} {b : Addr} (h : ErrIs w b) (hb : Below w.heap.size w w') : ErrIs w' b := by
  unfold ErrIs at h ⊢
  rw [hb.cell (World.block_lt_of_cell? w _ h)]
  exact h
theorem ErrIs.drew {w : World} {b : Addr} (h : ErrIs w b) : ErrIs w.drew b := h

theorem is_fault' (s : ByteArray) (b : Addr) (w : World) (hg : ErrIs w b) :
    Calls Tryz.prog 124 #[.iface 282 (.agg #[.string s]), .iface 423 (.pointer (some b))] w fun e w' => e = .returned (.bool true) ∧ Below w.heap.size w w' := is_fault s b w hg

set_option maxHeartbeats 1000000 in
set_option maxRecDepth 100000 in
theorem make_no (t a : Int) (ao : Option Addr) (m c : Nat) (b : Addr) (w : World) (h : ¬ Fit t a m) (hg : ErrIs w b) :
    Calls Tryz.prog 62 #[.int .i64 t, .int .i64 a, .slice ao m c] w fun e w' => e = .returned (.tuple #[.slice none 0 0, .int .i64 1]) ∧ Below w.heap.size w w' := by
  have HG := keep hg
  have KC := keep (check_no t a m w.drew h)
  unfold ErrIs at hg
  clear h
  go_enter Tryz.func62, Tryz.ntmps62
  go_wp2_with fail
  go_region_with (first
    | (go_at_call 125; go_fit KC.out; rintro e w1 ⟨s, rfl, hb1⟩; have G1 := keep (HG.out.drew.below hb1); have hg1 : w1.cell? ⟨1, 0, none⟩ = some (.iface 423 (.pointer (some b))) := G1.out; have b1 := keep ((Below.refl w.heap.size w).drew.trans hb1); have KI := keep (is_fault' s b w1 G1.out); clear hb1)
    | (go_at_call 124; go_fit KI.out; rintro e w2 ⟨rfl, hb2⟩; have b2 := keep (b1.out.trans (hb2.mono b1.out.size)); clear hb2))
  all_goals go_wp2
  all_goals go_ret2
  all_goals exact ⟨rfl, b2.out⟩
end Go.Proofs.YtogphpejdnhnjaaGreatDoor
