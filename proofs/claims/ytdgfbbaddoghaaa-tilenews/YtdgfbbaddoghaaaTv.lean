/- The walk of the law's awake. -/
import Derived.Test.YtdgfbbaddoghaaaTh4
import Derived.Test.YtdgfbbaddoghaaaTe
namespace Go.Proofs.Ytdgfbbaddoghaaa
open Go.RowKit
open Mt (Pos)

theorem ups3 : Mt.ups 0 3 = [⟨0, 3⟩, ⟨1, 1⟩, ⟨2, 0⟩] := rfl
theorem cov5 : Mt.cov 0 5 = [⟨2, 0⟩, ⟨0, 4⟩] := rfl
theorem way3 : wayN (Mt.way Mt.leafE 2 0 3).1 = [[⟨1, 0⟩]] := rfl
set_option maxHeartbeats 1000000 in
set_option maxRecDepth 100000 in
theorem awake_any (w : World) : Calls Try.prog 5 #[] w fun e w' => e = .returned (.bool true) ∧ Below w.heap.size w w' := by
  have N3 := keep (new_any 3 w (by decide))
  have C5 := keep (fun w' => cover_any 0 5 w' (by decide) (by decide) (Nat.dvd_zero _))
  have P3 := keep (fun w' => pathnodes_any 2 3 w' (by decide) (by decide))
  rw [ups3] at N3
  rw [cov5] at C5
  rw [way3] at P3
  go_enter Try.func5, Try.ntmps5
  go_wp2_with fail
  refine N3.out.mono ?_
  rintro e w1 ⟨v1, rfl, ho1, hb1⟩
  obtain ⟨g1, c1, rfl, hg1, hc1⟩ := own_some ho1 (by decide)
  have a0 := hc1 4 (.int .i64 2) rfl
  have a1 := hc1 5 (.int .i64 0) rfl
  have B1 := keep hb1
  clear ho1 hb1 hc1 N3 hg1
  go_wp2_with fail
  refine (C5.out w1).mono ?_
  rintro e w2 ⟨v2, rfl, ho2, hb2⟩
  obtain ⟨g2, c2, rfl, hg2, hc2⟩ := own_some ho2 (by decide)
  have d0 := hc2 2 (.int .i64 0) rfl
  have d1 := hc2 3 (.int .i64 4) rfl
  have a2 := below_cell hb2 a0
  have a3 := below_cell hb2 a1
  have B2 := keep (B1.out.trans (hb2.mono B1.out.size))
  clear ho2 hb2 hc2 C5 a0 a1 hg2
  go_wp2_with fail
  refine (P3.out w2).mono ?_
  rintro e w3 ⟨v3, rfl, hr3, hb3⟩
  obtain ⟨xs, hxs, ho3, hh3⟩ := hr3.is
  obtain ⟨⟨xp, xc, xl⟩, rfl⟩ : ∃ x, xs = [x] := by
    match xs, hxs with
    | [x], _ => exact ⟨x, rfl⟩
    | [], h => cases h
    | _ :: _ :: _, h => simp at h
  have hxl : xl = [⟨1, 0⟩] := by simpa using hxs
  subst hxl
  have hx := hh3 _ (List.mem_singleton.2 rfl)
  obtain ⟨g4, c4, e4, hg4, hc4⟩ := own_some (v := .slice xp [(⟨1, 0⟩ : Pos)].length xc) hx (Nat.zero_lt_succ _)
  cases e4
  have q0 := hc4 0 (.int .i64 1) rfl
  have q1 := hc4 1 (.int .i64 0) rfl
  obtain ⟨g3, c3, rfl, hg3, hc3⟩ := own_some ho3 (by decide)
  have p0 := hc3 0 _ rfl
  have a4 := below_cell hb3 a2
  have a5 := below_cell hb3 a3
  have d2 := below_cell hb3 d0
  have d3 := below_cell hb3 d1
  have B3 := keep (B2.out.trans (hb3.mono B2.out.size))
  clear hr3 hxs ho3 hh3 hx hc4 hc3 hb3 a2 a3 d0 d1 P3 hg3 hg4
  go_wp2
  go_ret
  exact ⟨rfl, B3.out⟩
end Go.Proofs.Ytdgfbbaddoghaaa
