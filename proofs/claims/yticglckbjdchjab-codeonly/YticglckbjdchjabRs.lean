/- The walk of Same. -/
import Derived.Test.YticglckbjdchjabP
namespace Go.Proofs.Yticglckbjdchjab
open Go.RowKit

theorem conv_src {w : World} {ao : Option Addr} {m c : Nat} {l : List UInt8} (h : Src w ao m c l) : (convert 22 9 (.slice ao m c)).run Try.prog w = .ok (.string ⟨l.toArray⟩) w := by
  rcases Nat.eq_zero_or_pos m with h0 | h0
  · subst h0
    have hl : l = [] := List.length_eq_zero_iff.1 h.len
    subst hl
    rw [run_convert_bytes_string w 22 9 5 _ 0 c Try.underlying22 Try.underlying5 Try.underlying9]
    cases ao <;> simp [Conv.bytesToString, loadCells]
    all_goals rfl
  · obtain ⟨b, off, e, _, hby⟩ := h.form h0
    cases e
    have hl := h.len
    have := run_convert_bytes_arg (P := Try.prog) w 22 5 Try.underlying22 Try.underlying5 b off m c (l.map fun b => (b.toNat : Int)) (by simpa using h.len) (fun i hi => by
      rw [hby i hi]
      have : i < l.length := by omega
      simp [fn, List.getD, this]) 9 Try.underlying9
    rwa [strOfNums_bytes] at this
theorem list_beq (l l2 : List UInt8) : (l == l2) = decide (l = l2) := by
  by_cases h : l = l2
  · subst h; simp
  · rw [decide_eq_false h, beq_eq_false_iff_ne]; exact h

set_option maxHeartbeats 1000000 in
set_option maxRecDepth 100000 in
theorem same_any (ao : Option Addr) (m c : Nat) (l : List UInt8) (ao2 : Option Addr) (m2 c2 : Nat) (l2 : List UInt8) (w : World) (hs : Src w ao m c l) (hs2 : Src w ao2 m2 c2 l2) :
    Calls Try.prog 9 #[.slice ao m c, .slice ao2 m2 c2] w fun e w' => e = .returned (.bool (decide (l = l2))) ∧ Below w.heap.size w w' := by
  have h1 := conv_src hs
  have h2 := conv_src hs2
  clear hs hs2
  go_enter Try.func9, Try.ntmps9
  go_wp2
  go_ret
  exact ⟨by rw [← list_beq]; rfl, by first | exact Below.refl _ _ | exact (Below.refl _ _).drew⟩

end Go.Proofs.Yticglckbjdchjab
