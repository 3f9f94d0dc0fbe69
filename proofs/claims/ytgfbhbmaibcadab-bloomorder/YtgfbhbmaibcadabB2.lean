/- The walks of bloom's bitsOf, bytesFor, places and the iterator that it answers. -/
import Derived.Test.YtgfbhbmaibcadabB1
import Derived.Test.YtgfbhbmaibcadabCr
namespace Go.Proofs.Ytgfbhbmaibcadab
open Go.RowKit Go.Shelf
attribute [local go_sem] Oper.semAt_some

theorem ret_intB {k : IntKind} {a b : Int} (h : a = b) : Ending.returned (.int k a) = .returned (.int k b) := by rw [h]
theorem U_or1 (x : UInt32) : bits .or .u32 (U x) 1 = U (x ||| 1) := by
  have h := u32_or_nat x.toNat 1 x.toNat_lt (by omega)
  unfold U
  rw [UInt32.toNat_or]
  exact h
theorem U_add (x y : UInt32) : IntKind.u32.wrap (U x + U y) = U (x + y) := by
  rw [IntKind.wrap_u32']
  unfold U
  rw [UInt32.toNat_add]
  omega
theorem place_int (k : List UInt8) (b i : Nat) : U (Bl.sumAt k i) % (b : Int) = (Bl.place k b i : Int) := by
  unfold U Bl.place
  rfl
set_option maxHeartbeats 1000000 in
set_option maxRecDepth 100000 in
theorem bitsOf_any (a : Option Addr) (n c : Nat) (w : World) (hn : n ≤ 140737488355328) :
    Calls Try.prog 28 #[.slice a n c] w fun e w' => e = .returned (.int .u64 ((8 * n : Nat) : Int)) ∧ w' = w := by
  have h1 : (n : Int) ≤ 140737488355328 := by omega
  have h2 : (0 : Int) ≤ (n : Int) := by omega
  go_enter Try.func28, Try.ntmps28
  go_wp2
  go_ret
  exact ⟨ret_intB (by omega), rfl⟩
set_option maxHeartbeats 1000000 in
set_option maxRecDepth 100000 in
theorem bytesFor_any (n : Nat) (w : World) (hn : n ≤ 140737488355328) :
    Calls Try.prog 26 #[.int .i64 (n : Int)] w fun e w' => e = .returned (.int .i64 (((10 * n + 7) / 8 : Nat) : Int)) ∧ w' = w := by
  have h1 : (n : Int) ≤ 140737488355328 := by omega
  have h2 : (0 : Int) ≤ (n : Int) := by omega
  go_enter Try.func26, Try.ntmps26
  go_wp2
  go_ret
  exact ⟨ret_intB (by omega), rfl⟩
theorem places_in (F : Fence) (nn : Nat) (h : F.fn 27) (hro : F.round = none) (a : Option Addr) (n c : Nat) (b : Int) (w : World) :
    CallsIn F nn Try.prog 27 #[.slice a n c, .int .u64 b] w fun e w' => e = .returned (.func (.func 45) #[] #[.pointer (some ⟨w.heap.size + 1, 0, none⟩), .pointer (some ⟨w.heap.size, 0, none⟩)]) ∧ w' = (w.alloc (.cells #[.slice a n c] 28)).alloc (.cells #[.int .u64 b] 62) := by
  refine callsIn_of_wp Try.func27 rfl h ?_ hro
  simp only [Try.ntmps27, List.size_toArray, List.length_cons, List.length_nil, Nat.reduceAdd, Nat.reduceSub, Array.replicate_succ, Array.replicate_zero, List.push_toArray, List.append_toArray, List.nil_append, List.cons_append]
  gi_wp2
  go_ret
  exact ⟨rfl, rfl⟩
end Go.Proofs.Ytgfbhbmaibcadab
