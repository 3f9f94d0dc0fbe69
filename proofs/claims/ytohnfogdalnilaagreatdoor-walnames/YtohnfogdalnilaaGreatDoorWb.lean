/- The walks of wal's room and isNone. -/
import Derived.Test.YtohnfogdalnilaaGreatDoorOz
import Derived.Test.YtohnfogdalnilaaGreatDoorWn
namespace Go.Proofs.YtohnfogdalnilaaGreatDoor
open Go.RowKit
open Dk (File Disk)

/-- What laying a frame into a file takes. -/
def roomOf (d : Disk) (name : List UInt8) (k : Nat) : Nat := if (Dk.look d.files name).isSome then k else k + 16 + name.length
set_option maxHeartbeats 1000000 in
set_option maxRecDepth 100000 in
theorem room_mem (S : Nat → Prop) (b : Nat) (d : Disk) (name : List UInt8) (ao : Option Addr) (k c : Nat) (w : World) (h : Mem S w b d) (hn : name.length ≤ 100) (hk : k ≤ 140737488355328) :
    Calls Tryz.prog 53 #[.pointer (some ⟨b, 0, none⟩), .string ⟨name.toArray⟩, .slice ao k c] w fun e w' => e = .returned (.int .i64 (roomOf d name k : Int)) ∧ Below w.heap.size w w' := by
  have HH := keep (has_mem S b d name w h (by unfold maxLen; omega))
  clear h
  unfold roomOf
  cases hx : (Dk.look d.files name).isSome with
  | true =>
    rw [hx] at HH
    clear hx
    go_enter Tryz.func53, Tryz.ntmps53
    go_wp2_with fail
    refine HH.out.mono ?_
    rintro e w1 ⟨rfl, hb⟩
    have B1 := keep hb
    clear hb HH
    go_wp2
    go_ret
    exact ⟨rfl, B1.out⟩
  | false =>
    rw [hx] at HH
    clear hx
    obtain ⟨q, hq⟩ : ∃ q, k + 16 + name.length = q := ⟨_, rfl⟩
    have w1 : IntKind.i64.wrap ((k : Int) + 16) = (k : Int) + 16 := wrap_small _ (by omega) (by omega)
    have w2 : IntKind.i64.wrap ((k : Int) + 16 + (name.length : Int)) = (q : Int) := by rw [wrap_small _ (by omega) (by omega)]; omega
    rw [if_neg (by simp), hq]
    go_enter Tryz.func53, Tryz.ntmps53
    go_wp2_with fail
    refine HH.out.mono ?_
    rintro e w1 ⟨rfl, hb⟩
    have B1 := keep hb
    clear hb HH
    go_wp2
    go_ret
    exact ⟨by first | rfl | (simp; omega), B1.out⟩
set_option maxHeartbeats 1000000 in
set_option maxRecDepth 100000 in
theorem isNone_mem (S : Nat → Prop) (b : Nat) (d : Disk) (name : List UInt8) (w : World) (h : Mem S w b d) (hn : Dk.named name = true) :
    Calls Tryz.prog 49 #[.pointer (some ⟨b, 0, none⟩), .string ⟨name.toArray⟩] w fun e w' => e = .returned (.bool false) ∧ Below w.heap.size w w' := by
  have hl : name.length ≤ maxLen := by have := (named_true hn).2.1; unfold maxLen; omega
  have HH := keep (has_mem S b d name w h hl)
  have HM := keep h
  clear h
  cases hx : (Dk.look d.files name).isSome with
  | true =>
    rw [hx] at HH
    clear hx
    go_enter Tryz.func49, Tryz.ntmps49
    go_wp2_with fail
    refine HH.out.mono ?_
    rintro e w1 ⟨rfl, hb⟩
    have B1 := keep hb
    clear hb HH
    go_wp2
    go_ret
    exact ⟨rfl, B1.out⟩
  | false =>
    have hr : readOf d.files name = (3, []) := by
      unfold readOf
      rw [if_pos hn]
      cases hy : Dk.look d.files name with
      | none => rfl
      | some f => rw [hy] at hx; cases hx
    rw [hx] at HH
    have HR := keep hr
    clear hx hr
    go_enter Tryz.func49, Tryz.ntmps49
    go_wp2_with fail
    refine HH.out.mono ?_
    rintro e w1 ⟨rfl, hb⟩
    have B1 := keep hb
    clear hb HH
    go_wp2_with fail
    have hrd := read_mem S b d name w1 (HM.out.below B1.out) hl
    rw [HR.out] at hrd
    refine hrd.mono ?_
    rintro e w2 ⟨v, rfl, hv⟩
    have B2 := keep (B1.out.trans (hv.2.mono B1.out.size))
    clear hv hrd
    go_wp2
    go_ret
    exact ⟨rfl, B2.out⟩
end Go.Proofs.YtohnfogdalnilaaGreatDoor
