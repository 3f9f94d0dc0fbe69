/- The walk of a row of ints' until. -/
import Derived.Test.YtgdggeacjfhkkaaM7
import Derived.Deep.RegionWith
import Derived.BigRegion
namespace Go.Proofs.Ytgdggeacjfhkkaa
open Go.RowKit
open Sk (Ent)

theorem falls {zs : List Int} (hz : zs.Pairwise (· ≥ ·)) {s : Int} {n a b : Nat} (hl : zs.length = n) (hab : a ≤ b) (hb : b < n) (h : decide (zs.getD a 0 < s) = true) : decide (zs.getD b 0 < s) = true := by
  have ha := of_decide_eq_true h
  refine decide_eq_true ?_
  rcases Nat.lt_or_ge a b with hlt | hge
  · have := List.pairwise_iff_getElem.1 hz a b (by omega) (by omega) hlt
    simp only [List.getD_eq_getElem?_getD, List.getElem?_eq_getElem (show a < zs.length by omega), List.getElem?_eq_getElem (show b < zs.length by omega), Option.getD_some] at ha ⊢
    omega
  · obtain rfl : a = b := by omega
    exact ha
set_option maxHeartbeats 4000000 in
set_option maxRecDepth 100000 in
theorem until_any (E P : Nat) (s : Int) (p : Option Addr) (n c : Nat) (zs : List Int) (w : World) (hL : LeftI w P p n c) (hE : w.cell? ⟨E, 1, none⟩ = some (.int .i64 s)) (hs : RSrc inK w p n c zs) (hz : zs.Pairwise (· ≥ ·)) (hn : n ≤ 1000000) (hc : c ≤ maxLen) (hfo : p = none ∨ ∃ b off, p = some ⟨b, off, none⟩) :
    Calls Try.prog 53 #[.pointer (some ⟨P, 0, none⟩), .func (.func 54) #[] #[.pointer (some ⟨E, 0, none⟩)]] w fun e w' => ∃ m p', e = .returned (.slice p m c) ∧ m ≤ n ∧ (∀ t, t < m → decide (zs.getD t 0 < s) = false) ∧ (∀ t, m ≤ t → t < n → decide (zs.getD t 0 < s) = true) ∧ LeftI w' P p' (n - m) (c - m) ∧ w.grownBy w' (some P) ∧ ((∃ b off, p = some ⟨b, off, none⟩ ∧ p' = some ⟨b, off + m, none⟩) ∨ p' = p ∧ m = c) := by
  have hlen := hs.len
  obtain ⟨W1, hW1⟩ : ∃ W1, (w.alloc (.cells #[.pointer (some ⟨P, 0, none⟩)] 71)).alloc (.cells #[.func (.func 54) #[] #[.pointer (some ⟨E, 0, none⟩)]] 70) = W1 := ⟨_, rfl⟩
  have b1 : Hid (Below w.heap.size w W1) := by rw [← hW1]; exact ((Below.refl _ _).alloc (Nat.le_refl _) _).alloc (by simp) _
  have g0 : Hid (W1.heap[w.heap.size]? = some (.cells #[.pointer (some ⟨P, 0, none⟩)] 71)) := by
    rw [← hW1]; exact (Below.heap_alloc _ _ _ (by simp)).trans (heap_alloc_new w _)
  have g1 : Hid (W1.heap[w.heap.size + 1]? = some (.cells #[.func (.func 54) #[] #[.pointer (some ⟨E, 0, none⟩)]] 70)) := by
    have := heap_alloc_new (w.alloc (.cells #[.pointer (some ⟨P, 0, none⟩)] 71)) (.cells #[.func (.func 54) #[] #[.pointer (some ⟨E, 0, none⟩)]] 70)
    rw [World.size_alloc] at this
    rw [← hW1]; exact this
  have L1 : Hid (LeftI W1 P p n c) := (b1.out.block P (Array.getElem?_eq_some_iff.1 hL).1).trans hL
  have x0 : W1.cell? ⟨w.heap.size, 0, none⟩ = some (.pointer (some ⟨P, 0, none⟩)) := cell_of_row _ _ _ _ _ _ g0.out
  have x1 : Hid (W1.cell? ⟨w.heap.size + 1, 0, none⟩ = some (.func (.func 54) #[] #[.pointer (some ⟨E, 0, none⟩)])) := cell_of_row _ _ _ _ _ _ g1.out
  have x2 : W1.cell? ⟨P, 0, none⟩ = some (.slice p n c) := L1.out.cell
  have xE := keep (below_cell b1.out hE)
  have S1 := keep (hs.below inK_ok b1.out)
  have SE : Hid (∀ w', Below W1.heap.size W1 w' → Calls Try.prog 62 #[.int .i64 (n : Int), .func (.func 63) #[] #[.pointer (some ⟨w.heap.size + 1, 0, none⟩), .pointer (some ⟨w.heap.size, 0, none⟩)]] w' fun e w'' => (∃ m : Nat, e = .returned (.int .i64 (m : Int)) ∧ m ≤ n ∧ (∀ t, t < m → decide (zs.getD t 0 < s) = false) ∧ (∀ t, m ≤ t → t < n → decide (zs.getD t 0 < s) = true)) ∧ Below W1.heap.size W1 w'') := fun w' hb => by
    refine (search_any (w.heap.size + 1) w.heap.size n (fun t => decide (zs.getD t 0 < s)) w' hn (fun w2 i hb2 hi => ?_) (fun a b hab hbn h => falls hz hlen hab hbn h)).mono ?_
    · have hb3 := hb.trans (hb2.mono hb.size)
      have S3 := S1.out.below inK_ok hb3
      obtain ⟨b, off, rfl, _, _⟩ := S3.form inK_ok (by omega)
      exact until1_any (w.heap.size + 1) w.heap.size E P s b off n c i zs w2 (below_cell hb3 x1.out) (below_cell hb3 x0) (below_cell hb3 x2) (below_cell hb3 xE.out) S3 hi
    · rintro e w'' ⟨h, hb'⟩
      exact ⟨h, hb.trans (hb'.mono hb.size)⟩
  have TK : Hid (∀ (m : Nat) w', m ≤ n → Below W1.heap.size W1 w' → Calls Try.prog 61 #[.pointer (some ⟨P, 0, none⟩), .int .i64 (m : Int)] w' fun e w'' => ∃ p', e = .returned (.slice p m c) ∧ LeftI w'' P p' (n - m) (c - m) ∧ w.grownBy w'' (some P) ∧ ((∃ b off, p = some ⟨b, off, none⟩ ∧ p' = some ⟨b, off + m, none⟩) ∨ p' = p ∧ m = c)) := fun m w' hm hb => by
    have hl' : LeftI w' P p n c := (hb.block P (Array.getElem?_eq_some_iff.1 L1.out).1).trans L1.out
    refine (takeI_any P p n c m zs w' hl' (S1.out.below inK_ok hb) hm hc hfo).mono ?_
    rintro e w'' ⟨p', rfl, rfl, hp⟩
    have hb0 := b1.out.trans (hb.mono b1.out.size)
    have hg := set_grown w' P 0 (.slice p' (n - m) (c - m))
    exact ⟨p', rfl, hl'.set _ _ _, ⟨hg.os.trans hb0.os, hg.tape.trans hb0.tape, hg.output.trans hb0.output, Nat.le_trans hb0.size hg.size, fun j hj hne => (hg.block j (Nat.lt_of_lt_of_le hj hb0.size) hne).trans (hb0.block j hj)⟩, hp⟩
  have XC : Hid (∀ w', Below W1.heap.size W1 w' → w'.cell? ⟨w.heap.size, 0, none⟩ = some (.pointer (some ⟨P, 0, none⟩))) := fun w' hb => below_cell hb x0
  clear hL hE hs hz hc hlen
  go_enter Try.func53, Try.ntmps53
  go_wp2_with fail
  go_region_with (first
    | (go_at_call 62; go_fit (SE.out W1.drew (Below.refl _ _).drew); rintro e w2 ⟨⟨m, rfl, hm, hA, hB⟩, hb2⟩; have b2 := keep hb2; have HM := keep hm; have HA := keep hA; have HB := keep hB; have y0 := XC.out w2 hb2; have T2 := keep (TK.out m w2 hm hb2); clear hA hB hb2 hm)
    | (go_at_call 61; go_fit T2.out; rintro e w3 ⟨p', rfl, h1, h2, h3⟩; have Q1 := keep h1; have Q2 := keep h2; have Q3 := keep h3; clear h1 h2 h3))
  all_goals
    go_wp2
    go_ret
    exact ⟨m, p', rfl, HM.out, HA.out, HB.out, Q1.out, Q2.out, Q3.out⟩
end Go.Proofs.Ytgdggeacjfhkkaa
