/- The walk of skip's Put, where it refuses. -/
import Derived.Test.YtjiphmeoofeepaaVb
import Derived.Deep.QuietTactic
import Derived.BigQuiet
namespace Go.Proofs.Ytjiphmeoofeepaa
open Go.RowKit
open Sk (Ent)

set_option maxHeartbeats 2000000 in
set_option maxRecDepth 100000 in
theorem put_bad (b : Nat) (x : EV) (hgt : Int) (w : World) (hk : x.e.key.length ≤ 9223372036854775807) (hv : x.e.val.length ≤ 9223372036854775807) (h : Sk.may x.e = false ∨ ¬ (1 ≤ hgt ∧ hgt ≤ 12)) :
    Calls Try.prog 7 #[.pointer (some ⟨b, 0, none⟩), ev x, .int .i64 hgt] w fun e w' => e = .returned (.int .i64 1) ∧ Below w.heap.size w w' := by
  obtain ⟨kp, kc, vp, vc, key, seq, gone, val⟩ := x
  simp only at hk hv h
  obtain ⟨W1, hW1⟩ : ∃ W1, w.alloc (.cells #[.slice kp key.length kc, .int .i64 seq, .bool gone, .slice vp val.length vc] 28) = W1 := ⟨_, rfl⟩
  have b1 : Hid (Below w.heap.size w W1) := by rw [← hW1]; exact (Below.refl _ _).alloc (Nat.le_refl _) _
  have g1 : Hid (W1.heap[w.heap.size]? = some (.cells #[.slice kp key.length kc, .int .i64 seq, .bool gone, .slice vp val.length vc] 28)) := by rw [← hW1]; exact heap_alloc_new w _
  have c0 : W1.cell? ⟨w.heap.size, 0, none⟩ = some (.slice kp key.length kc) := cell_of_row _ _ _ _ _ _ g1.out
  have c1 : W1.cell? ⟨w.heap.size, 1, none⟩ = some (.int .i64 seq) := cell_of_row _ _ _ _ _ _ g1.out
  have c2 : W1.cell? ⟨w.heap.size, 2, none⟩ = some (.bool gone) := cell_of_row _ _ _ _ _ _ g1.out
  have c3 : W1.cell? ⟨w.heap.size, 3, none⟩ = some (.slice vp val.length vc) := cell_of_row _ _ _ _ _ _ g1.out
  have CK := keep (check_any ⟨kp, kc, vp, vc, ⟨key, seq, gone, val⟩⟩ W1 hk hv)
  have WI := keep (fun w => within_any hgt 1 12 w)
  unfold chk ev at CK
  simp only at CK
  unfold ev
  simp only
  cases hmay : Sk.may ⟨key, seq, gone, val⟩ with
  | false =>
    rw [hmay] at CK
    simp only [Bool.false_eq_true, if_false] at CK
    clear h hmay
    go_enter Try.func7, Try.ntmps7
    go_wp2_with fail
    refine CK.out.mono ?_
    rintro e w2 ⟨rfl, hb⟩
    have B2 := keep (b1.out.trans (hb.mono b1.out.size))
    clear hb hW1
    go_wp2
    go_ret
    exact ⟨rfl, B2.out⟩
  | true =>
    rw [hmay] at CK h
    simp only [if_true] at CK
    have hw : (decide (1 ≤ hgt) && decide (hgt ≤ 12)) = false := by
      rcases h with h | h
      · cases h
      · cases hq : (decide (1 ≤ hgt) && decide (hgt ≤ 12)) with
        | false => rfl
        | true => exact absurd (by simpa using hq) h
    have WI2 : Hid (∀ w, Calls Try.prog 16 #[.int .i64 hgt, .int .i64 1, .int .i64 12] w fun e w' => e = .returned (.bool false) ∧ w' = w) := fun w => by
      have := WI.out w
      rwa [hw] at this
    clear h hmay hw WI
    go_enter Try.func7, Try.ntmps7
    go_wp2_with fail
    refine CK.out.mono ?_
    rintro e w2 ⟨rfl, hb⟩
    have B2 := keep (b1.out.trans (hb.mono b1.out.size))
    clear hb hW1
    go_wp2_with fail
    refine (WI2.out w2).mono ?_
    rintro e w3 ⟨rfl, rfl⟩
    go_wp2
    go_ret
    exact ⟨rfl, B2.out⟩
end Go.Proofs.Ytjiphmeoofeepaa
