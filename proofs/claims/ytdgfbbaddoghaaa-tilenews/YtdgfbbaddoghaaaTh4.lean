/- The walk of the program's PathNodes. -/
import Derived.Test.YtdgfbbaddoghaaaTh3
namespace Go.Proofs.Ytdgfbbaddoghaaa
open Go.RowKit
open Mt (Pos)

theorem own_some {w : World} {B t k n : Nat} {v : Value} {xs : List Value} (h : w.ownsRow B t k v n xs) (hn : 0 < n) : ∃ g cap, v = .slice (some ⟨g, 0, none⟩) n cap ∧ g < w.heap.size ∧ ∀ j u, xs[j]? = some u → w.cell? ⟨g, j, none⟩ = some u := by
  rcases h.2 with ⟨_, h0⟩ | ⟨g, cap, cur, hv, hb, hg, hc, hm, hs, ht⟩
  · omega
  · refine ⟨g, cap, hv, (Array.getElem?_eq_some_iff.1 hg).1, fun j u hu => ?_⟩
    rw [← ht, List.getElem?_take] at hu
    split at hu
    · have e := cell_of_row w g j cur t (0, 0) hg
      rw [e]
      simpa using hu
    · cases hu
theorem RowsA.noneP {T TT : TypeId} {w w' : World} {er : Int} (hb : Below w.heap.size w w') : RowsA T TT w [] er (.returned (.tuple #[.slice none 0 0, .int .i64 er])) w' := ⟨_, rfl, RowsV.nil, hb⟩
set_option maxHeartbeats 400000 in
set_option maxRecDepth 100000 in
theorem pathnodes_bad (i n : Int) (w : World) (h : n < 1 ∨ 1099511627776 < n ∨ i < 0 ∨ n ≤ i) : Calls Try.prog 12 #[.int .i64 i, .int .i64 n] w (RowsA 45 23 w [] 8) := by
  go_enter Try.func12, Try.ntmps12
  by_cases h1 : n < 1
  · go_wp2
    go_ret2
    exact RowsA.noneP (Below.refl _ _)
  by_cases h2 : 1099511627776 < n
  · go_wp2
    go_ret2
    exact RowsA.noneP (Below.refl _ _)
  by_cases h3 : i < 0
  · go_wp2
    go_ret2
    exact RowsA.noneP (Below.refl _ _)
  · have h4 : n ≤ i := by omega
    go_wp2
    go_ret2
    exact RowsA.noneP (Below.refl _ _)
set_option maxHeartbeats 400000 in
set_option maxRecDepth 100000 in
theorem pathnodes_any (i n : Nat) (w : World) (hi : i < n) (hn : n ≤ 1099511627776) : Calls Try.prog 12 #[.int .i64 (i : Int), .int .i64 (n : Int)] w (RowsA 45 23 w (wayN (Mt.way Mt.leafE i 0 n).1) 0) := by
  have PA := keep (beside_any 22 #[] Mt.leafE i n w hi hn enterP (fun a h1 h2 => Mt.leafE_one a h1 h2) (fun a b w' h1 h2 _ => endP a b w' h1 h2))
  have h1 : ¬ (n : Int) < 1 := by omega
  have h2 : ¬ (1099511627776 : Int) < (n : Int) := by omega
  have h3 : ¬ (i : Int) < 0 := by omega
  have h4 : ¬ (n : Int) ≤ (i : Int) := by omega
  clear hi hn
  obtain ⟨⟨L, en⟩, hL⟩ : ∃ L, Mt.way Mt.leafE i 0 n = L := ⟨_, rfl⟩
  rw [hL] at PA ⊢
  simp only at PA ⊢
  obtain ⟨P, hP⟩ : ∃ P, wayN L = P := ⟨_, rfl⟩
  rw [hP] at PA ⊢
  clear hL hP
  go_enter Try.func12, Try.ntmps12
  go_wp2_with fail
  refine PA.out.mono ?_
  rintro e w1 ⟨v, rfl, hr, hb⟩
  have R := keep hr
  have B := keep hb
  obtain ⟨p, c, _, e7, _, _, _⟩ := hr.src
  subst e7
  clear hr hb PA
  go_wp2
  go_ret2
  exact ⟨_, rfl, R.out, B.out⟩
end Go.Proofs.Ytdgfbbaddoghaaa
