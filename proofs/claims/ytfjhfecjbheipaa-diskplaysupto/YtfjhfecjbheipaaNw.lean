/- The walk of disk's New. -/
import Derived.Test.YtfjhfecjbheipaaD4
namespace Go.Proofs.Ytfjhfecjbheipaa
open Go.RowKit
open Dk (File Disk)

set_option maxHeartbeats 1000000 in
set_option maxRecDepth 100000 in
theorem new_arg (cap : Int) (w : World) (h : cap < 0 ∨ 1099511627776 < cap) :
    Calls Try.prog 18 #[.int .i64 cap] w fun e w' => e = .returned (.tuple #[.pointer none, .int .i64 1]) ∧ Below w.heap.size w w' := by
  rcases Int.lt_or_le cap 0 with h1 | h1
  · clear h
    go_enter Try.func18, Try.ntmps18
    go_wp2
    go_ret2
    exact ⟨rfl, Below.refl _ _⟩
  · have h2 : 1099511627776 < cap := by omega
    clear h
    go_enter Try.func18, Try.ntmps18
    go_wp2
    go_ret2
    exact ⟨rfl, Below.refl _ _⟩
set_option maxHeartbeats 1000000 in
set_option maxRecDepth 100000 in
theorem new_raw (cap : Int) (w : World) (h0 : 0 ≤ cap) (h1 : cap ≤ 1099511627776) :
    Calls Try.prog 18 #[.int .i64 cap] w fun e w' => e = .returned (.tuple #[.pointer (some ⟨w.heap.size + 1, 0, none⟩), .int .i64 0]) ∧ w' = (w.alloc (.map #[] 0)).alloc (.cells #[.map (some w.heap.size), .int .i64 cap, .int .i64 (-1), .bool false, .int .i64 0] 67) := by
  have hmm := @run_makeMap Try.prog
  go_enter Try.func18, Try.ntmps18
  go_wp2
  go_ret2
  exact ⟨rfl, rfl⟩
/-- A new disk. -/
theorem new_mem (cap : Nat) (w : World) (h1 : cap ≤ 1099511627776) :
    Calls Try.prog 18 #[.int .i64 (cap : Int)] w fun e w' => ∃ b S, e = .returned (.tuple #[.pointer (some ⟨b, 0, none⟩), .int .i64 0]) ∧ Mem S w' b ⟨cap, [], 0, none, false⟩ ∧ (∀ g, S g → w.heap.size ≤ g) ∧ w.heap.size ≤ b ∧ Below w.heap.size w w' := by
  refine (new_raw (cap : Int) w (by omega) (by omega)).mono ?_
  rintro e w' ⟨rfl, rfl⟩
  have hb : Below w.heap.size w ((w.alloc (.map #[] 0)).alloc (.cells #[.map (some w.heap.size), .int .i64 (cap : Int), .int .i64 (-1), .bool false, .int .i64 0] 67)) := ((Below.refl _ _).alloc (Nat.le_refl _) _).alloc (by simp) _
  refine ⟨w.heap.size + 1, fun g => g = w.heap.size, rfl, ⟨w.heap.size, [], -1, ⟨Dk.new_good cap, h1, ?_, ?_, trivial, ⟨rfl, (fun x hx => by cases hx), (fun x hx => by cases hx)⟩, (fun e => by have : w.heap.size + 1 = w.heap.size := e; omega), (fun g hg => by have e : g = w.heap.size := hg; rw [e]; simp; omega), fun _ => rfl, by omega⟩⟩, (fun g hg => by have : g = w.heap.size := hg; omega), Nat.le_succ _, hb⟩
  · have := heap_alloc_new (w.alloc (.map #[] 0)) (.cells #[.map (some w.heap.size), .int .i64 (cap : Int), .int .i64 (-1), .bool false, .int .i64 0] 67)
    have e1 : (w.alloc (.map #[] 0)).heap.size = w.heap.size + 1 := by simp
    rw [e1] at this
    show _ = _
    rw [this]
    simp [Dk.used]
  · exact (MapIs.made Try.prog 9 w).same (Below.heap_alloc _ _ _ (by simp))
end Go.Proofs.Ytfjhfecjbheipaa
