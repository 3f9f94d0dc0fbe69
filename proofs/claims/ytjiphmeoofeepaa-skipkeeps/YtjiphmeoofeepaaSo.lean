/- The walks of skip's New, Count, Size, All. -/
import Derived.Test.YtjiphmeoofeepaaSl
namespace Go.Proofs.Ytjiphmeoofeepaa
open Go.RowKit
open Sk (Ent)

def listZ : Array Value := #[.slice none 0 0, .int .i64 0, .bool false, .slice none 0 0, .pointer none, .pointer none, .pointer none, .pointer none, .pointer none, .pointer none, .pointer none, .pointer none, .pointer none, .pointer none, .pointer none, .pointer none, .int .i64 0, .int .i64 0]
set_option maxHeartbeats 1000000 in
set_option maxRecDepth 100000 in
theorem new_raw (w : World) : Calls Try.prog 5 #[] w fun e w' => e = .returned (.pointer (some ⟨w.heap.size, 0, none⟩)) ∧ w' = w.alloc (.cells listZ 51) := by
  unfold listZ
  go_enter Try.func5, Try.ntmps5
  go_wp2
  go_ret
  exact ⟨rfl, rfl⟩
theorem new_mem (w : World) : SMem (w.alloc (.cells listZ 51)) w.heap.size [] := by
  refine ⟨⟨fun j hj => ?_, fun i n hn => by simp at hn, fun n hn => by cases hn⟩, (fun n hn => by cases hn), trivial, (fun n hn => by cases hn)⟩
  rw [cell_of_row _ _ _ _ _ _ (heap_alloc_new w _)]
  have : j = 0 ∨ j = 1 ∨ j = 2 ∨ j = 3 ∨ j = 4 ∨ j = 5 ∨ j = 6 ∨ j = 7 ∨ j = 8 ∨ j = 9 ∨ j = 10 ∨ j = 11 := by omega
  rcases this with rfl | rfl | rfl | rfl | rfl | rfl | rfl | rfl | rfl | rfl | rfl | rfl <;> rfl
set_option maxHeartbeats 1000000 in
set_option maxRecDepth 100000 in
theorem count_any (b : Nat) (z : Int) (w : World) (h : w.cell? ⟨b, 16, none⟩ = some (.int .i64 z)) : Calls Try.prog 13 #[.pointer (some ⟨b, 0, none⟩)] w fun e w' => e = .returned (.int .i64 z) ∧ w' = w := by
  go_enter Try.func13, Try.ntmps13
  go_wp2
  go_ret
  exact ⟨rfl, rfl⟩
set_option maxHeartbeats 1000000 in
set_option maxRecDepth 100000 in
theorem size_any (b : Nat) (z : Int) (w : World) (h : w.cell? ⟨b, 17, none⟩ = some (.int .i64 z)) : Calls Try.prog 14 #[.pointer (some ⟨b, 0, none⟩)] w fun e w' => e = .returned (.int .i64 z) ∧ w' = w := by
  go_enter Try.func14, Try.ntmps14
  go_wp2
  go_ret
  exact ⟨rfl, rfl⟩
theorem above_all {ns : List Nd} (h : Tall ns) : above ns 0 = ns.map (·.x.e) := by
  unfold above
  rw [List.filter_eq_self.2 (fun n hn => by simpa using h n hn)]
set_option maxHeartbeats 1000000 in
set_option maxRecDepth 100000 in
theorem all_mem (b : Nat) (ns : List Nd) (w : World) (h : SMem w b ns) (hl : ns.length ≤ 1000000) :
    Calls Try.prog 8 #[.pointer (some ⟨b, 0, none⟩)] w fun e w' => ∃ v ys, e = .returned v ∧ Ents w.heap.size w' v ys ∧ ys.map (·.e) = ns.map (·.x.e) ∧ Below w.heap.size w w' := by
  have LV := keep (level_mem b ns 1 0 w h (by decide) (by decide) hl)
  have HA := keep (above_all h.tall)
  clear h
  go_enter Try.func8, Try.ntmps8
  go_wp2_with fail
  refine LV.out.mono ?_
  rintro e w1 ⟨v, ys, rfl, h1, h2, h3⟩
  have H1 := keep h1
  have H2 := keep h2
  have H3 := keep h3
  clear h1 h2 h3 LV
  go_wp2
  go_ret
  exact ⟨_, ys, rfl, H1.out, by rw [H2.out, HA.out], H3.out⟩
end Go.Proofs.Ytjiphmeoofeepaa
