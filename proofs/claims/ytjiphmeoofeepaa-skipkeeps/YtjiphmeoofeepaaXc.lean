/- The document's list in memory. -/
import Derived.Test.YtjiphmeoofeepaaXb
import Derived.Test.YtjiphmeoofeepaaVk
namespace Go.Proofs.Ytjiphmeoofeepaa
open Go.RowKit
open Sk (Ent)

/-- The document's list, in block r; made at or beyond B. -/
structure RMem (B : Nat) (w : World) (r : Nat) (ys : List EV) (hs : List Int) : Prop where
  ge : B ≤ r
  row : ∃ vL vH, w.heap[r]? = some (.cells #[vL, vH] 39) ∧ Ents B w vL ys ∧ w.ownsRow B 3 1 vH hs.length (hs.map (Value.int .i64))
  len : ys.length = hs.length
  up : Sk.Up (ys.map (·.e))
  may : ∀ y ∈ ys, Sk.may y.e = true
set_option maxHeartbeats 2000000 in
set_option maxRecDepth 100000 in
theorem rput_bad (r : Nat) (x : EV) (hgt : Int) (w : World) (hk : x.e.key.length ≤ 9223372036854775807) (hv : x.e.val.length ≤ 9223372036854775807) (hbad : Sk.may x.e = false ∨ ¬ (1 ≤ hgt ∧ hgt ≤ 12)) :
    Calls Try.prog 9 #[.pointer (some ⟨r, 0, none⟩), ev x, .int .i64 hgt] w fun e w' => e = .returned (.int .i64 1) ∧ Below w.heap.size w w' := by
  obtain ⟨kp, kc, vp, vc, key, seq, gone, val⟩ := x
  simp only at hk hv hbad
  obtain ⟨W1, hW1⟩ : ∃ W1, w.alloc (.cells #[.slice kp key.length kc, .int .i64 seq, .bool gone, .slice vp val.length vc] 28) = W1 := ⟨_, rfl⟩
  have b1 : Hid (Below w.heap.size w W1) := by rw [← hW1]; exact (Below.refl _ _).alloc (Nat.le_refl _) _
  have g1 : Hid (W1.heap[w.heap.size]? = some (.cells #[.slice kp key.length kc, .int .i64 seq, .bool gone, .slice vp val.length vc] 28)) := by rw [← hW1]; exact heap_alloc_new w _
  have c0 : W1.cell? ⟨w.heap.size, 0, none⟩ = some (.slice kp key.length kc) := cell_of_row _ _ _ _ _ _ g1.out
  have c1 : W1.cell? ⟨w.heap.size, 1, none⟩ = some (.int .i64 seq) := cell_of_row _ _ _ _ _ _ g1.out
  have c2 : W1.cell? ⟨w.heap.size, 2, none⟩ = some (.bool gone) := cell_of_row _ _ _ _ _ _ g1.out
  have c3 : W1.cell? ⟨w.heap.size, 3, none⟩ = some (.slice vp val.length vc) := cell_of_row _ _ _ _ _ _ g1.out
  have CK := keep (rcheck_any ⟨kp, kc, vp, vc, ⟨key, seq, gone, val⟩⟩ W1 hk hv)
  unfold chk ev at CK
  simp only at CK
  unfold ev
  simp only
  cases hm : Sk.may ⟨key, seq, gone, val⟩ with
  | false =>
    rw [hm] at CK
    simp only [Bool.false_eq_true, if_false] at CK
    clear hbad hm
    go_enter Try.func9, Try.ntmps9
    go_wp2_with fail
    refine CK.out.mono ?_
    rintro e w2 ⟨rfl, hb⟩
    have B2 := keep (b1.out.trans (hb.mono b1.out.size))
    clear hb
    go_wp2
    go_ret
    exact ⟨rfl, B2.out⟩
  | true =>
    rw [hm] at CK hbad
    simp only [if_true] at CK
    have hh : ¬ (1 ≤ hgt ∧ hgt ≤ 12) := hbad.resolve_left (by simp)
    clear hbad hm
    by_cases h1 : hgt < 1
    · clear hh
      go_enter Try.func9, Try.ntmps9
      go_wp2_with fail
      refine CK.out.mono ?_
      rintro e w2 ⟨rfl, hb⟩
      have B2 := keep (b1.out.trans (hb.mono b1.out.size))
      clear hb
      go_wp2
      go_ret
      exact ⟨rfl, B2.out⟩
    · have h2 : 12 < hgt := by omega
      clear hh
      go_enter Try.func9, Try.ntmps9
      go_wp2_with fail
      refine CK.out.mono ?_
      rintro e w2 ⟨rfl, hb⟩
      have B2 := keep (b1.out.trans (hb.mono b1.out.size))
      clear hb
      go_wp2
      go_ret
      exact ⟨rfl, B2.out⟩
end Go.Proofs.Ytjiphmeoofeepaa
