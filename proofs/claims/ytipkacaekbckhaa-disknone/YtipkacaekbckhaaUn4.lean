/- The walks of disk's methods on a disk that was never made. -/
import Derived.Test.YtipkacaekbckhaaD3
namespace Go.Proofs.Ytipkacaekbckhaa
open Go.RowKit

/-- No disk, or one that nobody has made. -/
def Unmade (w : World) (p : Option Addr) : Prop := p = none ∨ ∃ b, p = some ⟨b, 0, none⟩ ∧ w.cell? ⟨b, 0, none⟩ = some (.map none)
theorem Unmade.below {w w' : World} {p : Option Addr} (h : Unmade w p) (hb : Below w.heap.size w w') : Unmade w' p := by
  rcases h with h | ⟨b, h1, h2⟩
  · exact .inl h
  · exact .inr ⟨b, h1, by rw [hb.cell (World.block_lt_of_cell? w _ h2)]; exact h2⟩
theorem made_no (p : Option Addr) (w : World) (h : Unmade w p) : Calls Try.prog 48 #[.pointer p] w fun e w' => e = .returned (.bool false) ∧ w' = w := by
  rcases h with rfl | ⟨b, rfl, h2⟩
  · exact made_nil w
  · exact made_zero b w h2
set_option maxHeartbeats 1000000 in
set_option maxRecDepth 100000 in
theorem ready_no (p : Option Addr) (ao : Option Addr) (n c : Nat) (w : World) (h : Unmade w p) : Calls Try.prog 53 #[.pointer p, .slice ao n c] w fun e w' => e = .returned (.int .i64 1) ∧ Below w.heap.size w w' := by
  have HU := keep h
  clear h
  go_enter Try.func53, Try.ntmps53
  go_wp2_with fail
  refine (made_no p _ HU.out).mono ?_
  rintro e w1 ⟨rfl, rfl⟩
  go_wp2
  go_ret
  exact ⟨rfl, Below.refl _ _⟩
set_option maxHeartbeats 1000000 in
set_option maxRecDepth 100000 in
theorem cut_no (p : Option Addr) (z : Int) (w : World) (h : Unmade w p) : Calls Try.prog 28 #[.pointer p, .int .i64 z] w fun e w' => e = .returned (.int .i64 1) ∧ Below w.heap.size w w' := by
  have HU := keep h
  clear h
  go_enter Try.func28, Try.ntmps28
  go_wp2_with fail
  refine (made_no p _ HU.out).mono ?_
  rintro e w1 ⟨rfl, rfl⟩
  go_wp2
  go_ret
  exact ⟨rfl, Below.refl _ _⟩
set_option maxHeartbeats 1000000 in
set_option maxRecDepth 100000 in
theorem crash_no (p : Option Addr) (ao : Option Addr) (n c : Nat) (w : World) (h : Unmade w p) : Calls Try.prog 29 #[.pointer p, .slice ao n c] w fun e w' => e = .returned (.int .i64 1) ∧ Below w.heap.size w w' := by
  have HU := keep h
  clear h
  go_enter Try.func29, Try.ntmps29
  go_wp2_with fail
  refine (made_no p _ HU.out).mono ?_
  rintro e w1 ⟨rfl, rfl⟩
  go_wp2
  go_ret
  exact ⟨rfl, Below.refl _ _⟩
set_option maxHeartbeats 1000000 in
set_option maxRecDepth 100000 in
theorem read_no (p : Option Addr) (n : List UInt8) (w : World) (h : Unmade w p) : Calls Try.prog 23 #[.pointer p, .string ⟨n.toArray⟩] w fun e w' => e = .returned (.tuple #[.slice none 0 0, .int .i64 1]) ∧ Below w.heap.size w w' := by
  have HU := keep h
  clear h
  go_enter Try.func23, Try.ntmps23
  go_wp2_with fail
  refine (made_no p _ HU.out).mono ?_
  rintro e w1 ⟨rfl, rfl⟩
  go_wp2
  go_ret2
  exact ⟨rfl, Below.refl _ _⟩
set_option maxHeartbeats 1000000 in
set_option maxRecDepth 100000 in
theorem has_no (p : Option Addr) (n : List UInt8) (w : World) (h : Unmade w p) : Calls Try.prog 30 #[.pointer p, .string ⟨n.toArray⟩] w fun e w' => e = .returned (.bool false) ∧ Below w.heap.size w w' := by
  have HU := keep h
  clear h
  go_enter Try.func30, Try.ntmps30
  go_wp2_with fail
  refine (made_no p _ HU.out).mono ?_
  rintro e w1 ⟨rfl, rfl⟩
  go_wp2
  go_ret
  exact ⟨rfl, Below.refl _ _⟩
set_option maxHeartbeats 1000000 in
set_option maxRecDepth 100000 in
theorem off_no (p : Option Addr) (w : World) (h : Unmade w p) : Calls Try.prog 17 #[.pointer p] w fun e w' => e = .returned (.bool false) ∧ Below w.heap.size w w' := by
  have HU := keep h
  clear h
  go_enter Try.func17, Try.ntmps17
  go_wp2_with fail
  refine (made_no p _ HU.out).mono ?_
  rintro e w1 ⟨rfl, rfl⟩
  go_wp2
  go_ret
  exact ⟨rfl, Below.refl _ _⟩
set_option maxHeartbeats 1000000 in
set_option maxRecDepth 100000 in
theorem free_no (p : Option Addr) (w : World) (h : Unmade w p) : Calls Try.prog 14 #[.pointer p] w fun e w' => e = .returned (.int .i64 0) ∧ Below w.heap.size w w' := by
  have HU := keep h
  clear h
  go_enter Try.func14, Try.ntmps14
  go_wp2_with fail
  refine (made_no p _ HU.out).mono ?_
  rintro e w1 ⟨rfl, rfl⟩
  go_wp2
  go_ret
  exact ⟨rfl, Below.refl _ _⟩
set_option maxHeartbeats 1000000 in
set_option maxRecDepth 100000 in
theorem ops_no (p : Option Addr) (w : World) (h : Unmade w p) : Calls Try.prog 16 #[.pointer p] w fun e w' => e = .returned (.int .i64 0) ∧ Below w.heap.size w w' := by
  have HU := keep h
  clear h
  go_enter Try.func16, Try.ntmps16
  go_wp2_with fail
  refine (made_no p _ HU.out).mono ?_
  rintro e w1 ⟨rfl, rfl⟩
  go_wp2
  go_ret
  exact ⟨rfl, Below.refl _ _⟩
set_option maxHeartbeats 1000000 in
set_option maxRecDepth 100000 in
theorem names_no (p : Option Addr) (w : World) (h : Unmade w p) : Calls Try.prog 18 #[.pointer p] w fun e w' => e = .returned (.slice none 0 0) ∧ Below w.heap.size w w' := by
  have HU := keep h
  clear h
  go_enter Try.func18, Try.ntmps18
  go_wp2_with fail
  refine (made_no p _ HU.out).mono ?_
  rintro e w1 ⟨rfl, rfl⟩
  go_wp2
  go_ret
  exact ⟨rfl, Below.refl _ _⟩
set_option maxHeartbeats 1000000 in
set_option maxRecDepth 100000 in
theorem sync_no (p : Option Addr) (n : List UInt8) (w : World) (h : Unmade w p) : Calls Try.prog 25 #[.pointer p, .string ⟨n.toArray⟩] w fun e w' => e = .returned (.int .i64 1) ∧ Below w.heap.size w w' := by
  have HU := keep h
  clear h
  have hb := (Below.refl _ w).alloc (Nat.le_refl _) (.cells #[.string ⟨n.toArray⟩] 9)
  have HB := keep hb
  clear hb
  go_enter Try.func25, Try.ntmps25
  go_wp2_with fail
  refine (ready_no p _ 1 1 _ (HU.out.below HB.out)).mono ?_
  rintro e w1 ⟨rfl, hb1⟩
  have HB1 := keep (HB.out.trans (hb1.mono (by simp)))
  clear hb1
  go_wp2
  go_ret
  exact ⟨rfl, HB1.out⟩
set_option maxHeartbeats 1000000 in
set_option maxRecDepth 100000 in
theorem remove_no (p : Option Addr) (n : List UInt8) (w : World) (h : Unmade w p) : Calls Try.prog 27 #[.pointer p, .string ⟨n.toArray⟩] w fun e w' => e = .returned (.int .i64 1) ∧ Below w.heap.size w w' := by
  have HU := keep h
  clear h
  have hb := (Below.refl _ w).alloc (Nat.le_refl _) (.cells #[.string ⟨n.toArray⟩] 9)
  have HB := keep hb
  clear hb
  go_enter Try.func27, Try.ntmps27
  go_wp2_with fail
  refine (ready_no p _ 1 1 _ (HU.out.below HB.out)).mono ?_
  rintro e w1 ⟨rfl, hb1⟩
  have HB1 := keep (HB.out.trans (hb1.mono (by simp)))
  clear hb1
  go_wp2
  go_ret
  exact ⟨rfl, HB1.out⟩
set_option maxHeartbeats 1000000 in
set_option maxRecDepth 100000 in
theorem rename_no (p : Option Addr) (n n2 : List UInt8) (w : World) (h : Unmade w p) : Calls Try.prog 26 #[.pointer p, .string ⟨n.toArray⟩, .string ⟨n2.toArray⟩] w fun e w' => e = .returned (.int .i64 1) ∧ Below w.heap.size w w' := by
  have HU := keep h
  clear h
  have hb := (Below.refl _ w).alloc (Nat.le_refl _) (.cells #[.string ⟨n.toArray⟩, .string ⟨n2.toArray⟩] 9)
  have HB := keep hb
  clear hb
  go_enter Try.func26, Try.ntmps26
  go_wp2_with fail
  refine (ready_no p _ 2 2 _ (HU.out.below HB.out)).mono ?_
  rintro e w1 ⟨rfl, hb1⟩
  have HB1 := keep (HB.out.trans (hb1.mono (by simp)))
  clear hb1
  go_wp2
  go_ret
  exact ⟨rfl, HB1.out⟩
set_option maxHeartbeats 1000000 in
set_option maxRecDepth 100000 in
theorem append_no (p : Option Addr) (n : List UInt8) (ao : Option Addr) (k c : Nat) (w : World) (h : Unmade w p) : Calls Try.prog 24 #[.pointer p, .string ⟨n.toArray⟩, .slice ao k c] w fun e w' => e = .returned (.int .i64 1) ∧ Below w.heap.size w w' := by
  have HU := keep h
  clear h
  rcases Int.lt_or_le 4096 (k : Int) with hk | hk
  · go_enter Try.func24, Try.ntmps24
    go_wp2
    go_ret
    exact ⟨rfl, Below.refl _ _⟩
  have hb := (Below.refl _ w).alloc (Nat.le_refl _) (.cells #[.string ⟨n.toArray⟩] 9)
  have HB := keep hb
  clear hb
  go_enter Try.func24, Try.ntmps24
  go_wp2_with fail
  refine (ready_no p _ 1 1 _ (HU.out.below HB.out)).mono ?_
  rintro e w1 ⟨rfl, hb1⟩
  have HB1 := keep (HB.out.trans (hb1.mono (by simp)))
  clear hb1
  go_wp2
  go_ret
  exact ⟨rfl, HB1.out⟩
set_option maxHeartbeats 1000000 in
set_option maxRecDepth 100000 in
theorem dump_no (p : Option Addr) (w : World) (h : Unmade w p) : Calls Try.prog 21 #[.pointer p] w fun e w' => e = .returned (.slice none 0 0) ∧ Below w.heap.size w w' := by
  have HU := keep h
  clear h
  go_enter Try.func21, Try.ntmps21
  go_wp2_with fail
  refine (names_no p _ HU.out).mono ?_
  rintro e w1 ⟨rfl, hb1⟩
  have HB1 := keep hb1
  clear hb1
  go_wp2_with fail
  go_loopw [3, 10] (fun v i wr => v = .slice none 0 0 ∧ i = .int .i64 0 ∧ Hid (Below w.heap.size w wr)) (fun _ _ _ => 0)
  case atStart => exact ⟨rfl, rfl, HB1⟩
  case round =>
    obtain ⟨rfl, rfl, hk⟩ := hrel
    go_wp2
    go_ret
    exact ⟨rfl, hk.out⟩
end Go.Proofs.Ytipkacaekbckhaa
