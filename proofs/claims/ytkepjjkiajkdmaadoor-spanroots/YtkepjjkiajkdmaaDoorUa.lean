/- The walk of the document's ones. -/
import Derived.Test.YtkepjjkiajkdmaaDoorK
import Derived.Test.YtkepjjkiajkdmaaDoorMs
namespace Go.Proofs.YtkepjjkiajkdmaaDoor
open Go.RowKit

set_option maxHeartbeats 1000000 in
set_option maxRecDepth 100000 in
theorem rones_any (n : Nat) (w : World) (hn : n ≤ 4611686018427387904) :
    Calls Tryd.prog 38 #[.int .i64 (n : Int)] w fun e w' => e = .returned (.int .i64 (Mt.ones n : Int)) ∧ Below w.heap.size w w' := by
  have ole : ∀ x, Mt.ones x ≤ x := by
    intro x
    induction x using Nat.strongRecOn with
    | _ x ih =>
      rcases Nat.eq_zero_or_pos x with h | h
      · subst h; exact Nat.le_refl _
      · rw [Mt.ones_pos h]
        have := ih (x / 2) (by omega)
        omega
  have OLE := keep ole
  clear ole
  go_enter Tryd.func38, Tryd.ntmps38
  go_wp2
  go_loopw [0, 3] (fun i k wr => ∃ x y : Nat, i = .int .i64 (x : Int) ∧ k = .int .i64 (y : Int) ∧ x ≤ 4611686018427387904 ∧ y ≤ 4611686018427387904 ∧ Hid (y + Mt.ones x = Mt.ones n ∧ Below w.heap.size w wr)) (fun i _ _ => (intOf i).toNat)
  case atStart => exact ⟨n, 0, rfl, rfl, hn, by decide, by rw [Nat.zero_add], Below.refl _ _⟩
  case round =>
    obtain ⟨x, y, rfl, rfl, hx, hy, hI⟩ := hrel
    by_cases h0 : x = 0
    · subst h0
      have e1 : y = Mt.ones n := by have := hI.out.1; rw [Mt.ones_zero] at this; omega
      have HE := keep e1
      have B1 := keep hI.out.2
      clear hI e1
      go_wp2
      go_ret
      refine ⟨?_, B1.out⟩
      rw [← HE.out]
      rfl
    · have p1 : (0 : Int) < (x : Int) := by omega
      have p2 : 0 < x := by omega
      have e1 : Int.tmod (x : Int) 2 = ((x % 2 : Nat) : Int) := (Int.ofNat_tmod x 2).symm
      have e2 : Int.tdiv (x : Int) 2 = ((x / 2 : Nat) : Int) := (Int.ofNat_tdiv x 2).symm
      have hs := hI.out.1
      rw [Mt.ones_pos (by omega)] at hs
      have hyb : y + x % 2 ≤ 4611686018427387904 := by
        have h1 := OLE.out n
        omega
      obtain ⟨b, hb⟩ : ∃ b, x % 2 = b := ⟨_, rfl⟩
      obtain ⟨q, hq⟩ : ∃ q, x / 2 = q := ⟨_, rfl⟩
      have hqx : q < x := by omega
      rw [hb] at e1 hs hyb
      rw [hq] at e2 hs
      have HS := keep hs
      have B1 := keep hI.out.2
      have s0 : (0 : Int) ≤ (y : Int) + (b : Int) := by omega
      have s1 : (y : Int) + (b : Int) ≤ 4611686018427387904 := by omega
      clear hI hs hb hq
      go_wp2
      go_roundw
      case rel => exact ⟨q, y + b, rfl, by first | rfl | go_num, by omega, by omega, by have := HS.out; omega, B1.out⟩
      case measure => simp [intOf]; omega
end Go.Proofs.YtkepjjkiajkdmaaDoor
