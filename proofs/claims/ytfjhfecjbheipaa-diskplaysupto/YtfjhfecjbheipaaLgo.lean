/- The walks of disk's Free, Ops and Off. -/
import Derived.Test.YtfjhfecjbheipaaJoinE4
import Derived.Test.YtfjhfecjbheipaaD4
namespace Go.Proofs.Ytfjhfecjbheipaa
open Go.RowKit
open Dk (File Disk)

theorem free_mem (S : Nat → Prop) (b : Nat) (d : Disk) (w : World) (h : Mem S w b d) : Calls Try.prog 9 #[.pointer (some ⟨b, 0, none⟩)] w fun e w' => e = .returned (.int .i64 ((d.cap : Int) - (Dk.used d.files : Int))) ∧ Below w.heap.size w w' := by
  obtain ⟨m, l, left, h⟩ := h
  exact free_box b m _ left _ _ w h.box
theorem ops_mem (S : Nat → Prop) (b : Nat) (d : Disk) (w : World) (h : Mem S w b d) : Calls Try.prog 11 #[.pointer (some ⟨b, 0, none⟩)] w fun e w' => e = .returned (.int .i64 (d.done : Int)) ∧ Below w.heap.size w w' := by
  obtain ⟨m, l, left, h⟩ := h
  exact ops_box b m _ left _ _ w h.box
theorem off_mem (S : Nat → Prop) (b : Nat) (d : Disk) (w : World) (h : Mem S w b d) : Calls Try.prog 12 #[.pointer (some ⟨b, 0, none⟩)] w fun e w' => e = .returned (.bool d.dark) ∧ Below w.heap.size w w' := by
  obtain ⟨m, l, left, h⟩ := h
  exact off_box b m _ left _ _ w h.box
end Go.Proofs.Ytfjhfecjbheipaa
