/- The walk of the document's Root of a span. -/
import Derived.Test.YtkepjjkiajkdmaaDoorUc
import Derived.Test.YtkepjjkiajkdmaaDoorKz
namespace Go.Proofs.YtkepjjkiajkdmaaDoor
open Go.RowKit

/-- What Root answers. -/
def rtS (n : Int) (ps : List (List UInt8)) : List UInt8 := if ckS n ps then foldL ps else []
theorem ckS_parts {n : Int} {ps : List (List UInt8)} (h : ckS n ps = true) : 0 ≤ n ∧ n ≤ 1099511627776 ∧ ps.length = Mt.ones n.toNat ∧ wholeL ps = true := by
  unfold ckS at h
  simpa only [Bool.and_eq_true, decide_eq_true_eq] using h
theorem ones_le : ∀ x, Mt.ones x ≤ x := by
  intro x
  induction x using Nat.strongRecOn with
  | _ x ih =>
    rcases Nat.eq_zero_or_pos x with h | h
    · subst h; exact Nat.le_refl _
    · rw [Mt.ones_pos h]
      have := ih (x / 2) (by omega)
      omega
set_option maxHeartbeats 2000000 in
set_option maxRecDepth 100000 in
theorem rroot16_any (n : Int) (pp : Option Addr) (pm pc : Nat) (ps : List (List UInt8)) (w : World) (hs : RSrc strKind w pp pm pc ps) (hm : pm ≤ 4611686018427387904) :
    Calls Tryd.prog 13 #[.agg #[.int .i64 n, .slice pp pm pc]] w fun e w' => e = .returned (.tuple #[.string ⟨(rtS n ps).toArray⟩, .int .i64 (ckN n ps)]) ∧ Below w.heap.size w w' := by
  obtain ⟨W1, hW1⟩ : ∃ Wn, w.alloc (.cells #[.int .i64 n, .slice pp pm pc] 24) = Wn := ⟨_, rfl⟩
  have b1 : Hid (Below w.heap.size w W1) := by rw [← hW1]; exact (Below.refl _ _).alloc (Nat.le_refl _) _
  have c0 : W1.cell? ⟨w.heap.size, 0, none⟩ = some (.int .i64 n) := by rw [← hW1]; exact cell_of_row _ _ _ _ _ _ (heap_alloc_new w _)
  have c1 : W1.cell? ⟨w.heap.size, 1, none⟩ = some (.slice pp pm pc) := by rw [← hW1]; exact cell_of_row _ _ _ _ _ _ (heap_alloc_new w _)
  have CK := keep (rcheck16_any n pp pm pc ps W1 (hs.below strKind_ok b1.out) hm)
  have HS := keep hs
  have HSL := keep hs.len
  clear hs
  cases hc : ckS n ps with
  | false =>
    have h1 : ckN n ps = 1 := by unfold ckN; rw [hc]; rfl
    have h2 : rtS n ps = [] := by unfold rtS; rw [hc]; rfl
    rw [h1] at CK
    rw [h1, h2]
    clear hc h1 h2
    go_enter Tryd.func13, Tryd.ntmps13
    go_wp2_with fail
    refine CK.out.mono ?_
    rintro e w2 ⟨rfl, hb2⟩
    have B2 := keep (b1.out.trans (hb2.mono b1.out.size))
    clear hb2 CK hW1 c0 c1
    go_wp2
    go_ret2
    exact ⟨rfl, B2.out⟩
  | true =>
    have h1 : ckN n ps = 0 := by unfold ckN; rw [hc]; rfl
    have h2 : rtS n ps = foldL ps := by unfold rtS; rw [hc]; rfl
    obtain ⟨g1, g2, g3, g4⟩ := ckS_parts hc
    have hpm : pm ≤ 1099511627776 := by
      have h := ones_le n.toNat
      rw [← g3, HSL.out] at h
      omega
    have FO : Hid (∀ w', Below w.heap.size w w' → Calls Tryd.prog 35 #[.slice pp pm pc] w' fun e w'' => e = .returned (.string ⟨(foldL ps).toArray⟩) ∧ Below w'.heap.size w' w'') := fun w' hb => rfold_any pp pm pc ps w' (HS.out.below strKind_ok hb) (fun e he => by rw [wholeL_mem g4 e he]; decide) hpm
    obtain ⟨X, hX⟩ : ∃ X, foldL ps = X := ⟨_, rfl⟩
    rw [h1] at CK
    rw [h1, h2, hX]
    rw [hX] at FO
    clear hc h1 h2 g1 g2 g3 g4 hX
    go_enter Tryd.func13, Tryd.ntmps13
    go_wp2_with fail
    refine CK.out.mono ?_
    rintro e w2 ⟨rfl, hb2⟩
    have B2 := keep (b1.out.trans (hb2.mono b1.out.size))
    have d1 := below_cell hb2 c1
    clear hb2 CK hW1 c0 c1
    go_wp2_with fail
    refine (FO.out w2 B2.out).mono ?_
    rintro e w3 ⟨rfl, hb3⟩
    have B3 := keep (B2.out.trans (hb3.mono B2.out.size))
    clear hb3 FO d1
    go_wp2
    go_ret2
    exact ⟨rfl, B3.out⟩
end Go.Proofs.YtkepjjkiajkdmaaDoor
