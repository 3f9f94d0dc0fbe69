/- The walk of slices.Reverse over rows of nodes. -/
import Derived.Test.YtdgfbbaddoghaaaDoorTl
import Derived.Shelf.RegionOpenPlain
namespace Go.Proofs.YtdgfbbaddoghaaaDoor
open Go.RowKit Go.Shelf
open Mt (Pos)

theorem grown_trans {w w1 w2 : World} {r : Option Nat} (h1 : w.grownBy w1 r) (h2 : w1.grownBy w2 r) : w.grownBy w2 r :=
  ⟨h2.os.trans h1.os, h2.tape.trans h1.tape, h2.output.trans h1.output, Nat.le_trans h1.size h2.size, fun k hk hr => (h2.block k (Nat.lt_of_lt_of_le hk h1.size) hr).trans (h1.block k hk hr)⟩
theorem grown_below {w w' : World} {r : Option Nat} (h : Below w.heap.size w w') : w.grownBy w' r := ⟨h.os, h.tape, h.output, h.size, fun k hk _ => h.block k hk⟩
theorem grown_set (w : World) (B : Nat) (i : Nat) (v : Value) : w.grownBy (w.setCell ⟨B, i, none⟩ v) (some B) :=
  ⟨rfl, rfl, rfl, by simp only [World.setCell, Array.size_modify]; exact Nat.le_refl _, fun k _ hk => Below.heap_setCell w ⟨B, i, none⟩ v k (fun e => hk (by rw [e]))⟩
theorem own_put {w : World} {base g n cap i t : Nat} {xs : List Value} (h : w.ownsRow base t 1 (.slice (some ⟨g, 0, none⟩) n cap) n xs) (u : Value) : (w.setCell ⟨g, i, none⟩ u).ownsRow base t 1 (.slice (some ⟨g, 0, none⟩) n cap) n (xs.set i u) := by
  rcases h.2 with ⟨h0, _⟩ | ⟨g', cap', cur, hv, hb, hg, hc, hm, hs, ht⟩
  · cases h0
  · cases hv
    refine ⟨by rw [List.length_set]; exact h.1, .inr ⟨g, cap, cur.setIfInBounds i u, rfl, hb, ?_, hc, hm, by simpa using hs, ?_⟩⟩
    · rw [setCell_eq_setRow w g i cur t (0, 0) u hg]; exact setRow_heap w g cur _ t (0, 0) hg
    · rw [Array.toList_setIfInBounds, List.take_set, ht]
theorem own_cell {w : World} {base g n cap t i : Nat} {xs : List Value} {u : Value} (h : w.ownsRow base t 1 (.slice (some ⟨g, 0, none⟩) n cap) n xs) (hu : xs[i]? = some u) : w.cell? ⟨g, i, none⟩ = some u ∧ w.frozen? ⟨g, i, none⟩ = false := by
  rcases h.2 with ⟨h0, _⟩ | ⟨g', cap', cur, hv, hb, hg, hc, hm, hs, ht⟩
  · cases h0
  · cases hv
    refine ⟨?_, by simp [World.frozen?, hg]⟩
    rw [← ht, List.getElem?_take] at hu
    split at hu
    · have e := cell_of_row w g i cur t (0, 0) hg
      rw [e]
      simpa using hu
    · cases hu
/-- The first k and the last k exchanged. -/
def swapped (us ys : List Value) (n k : Nat) : Prop := ys.length = n ∧ ∀ q, q < n → ys[q]? = if q < k ∨ n < q + k + 1 then us[n - 1 - q]? else us[q]?
theorem swapped_zero {us : List Value} {n : Nat} (h : us.length = n) : swapped us us n 0 := ⟨h, fun q hq => by rw [if_neg (by omega)]⟩
theorem swapped_next {us ys : List Value} {n k : Nat} {x y : Value} (hk : 2 * k + 1 < n) (h : swapped us ys n k) (hx : ys[k]? = some x) (hy : ys[n - 1 - k]? = some y) : swapped us ((ys.set k y).set (n - 1 - k) x) n (k + 1) := by
  obtain ⟨h1, h2⟩ := h
  refine ⟨by rw [List.length_set, List.length_set]; exact h1, fun q hq => ?_⟩
  have e1 := h2 k (by omega)
  rw [if_neg (by omega), hx] at e1
  have e2 := h2 (n - 1 - k) (by omega)
  rw [if_neg (by omega), hy] at e2
  by_cases c1 : q = n - 1 - k
  · subst c1
    rw [List.getElem?_set_self (by rw [List.length_set]; omega), if_pos (by omega), show n - 1 - (n - 1 - k) = k by omega]
    exact e1
  · rw [List.getElem?_set_ne (by omega)]
    by_cases c2 : q = k
    · subst c2
      rw [List.getElem?_set_self (by omega), if_pos (by omega)]
      exact e2
    · rw [List.getElem?_set_ne (by omega), h2 q hq]
      by_cases c3 : q < k ∨ n < q + k + 1
      · rw [if_pos c3, if_pos (by omega)]
      · rw [if_neg c3, if_neg (by omega)]
theorem swapped_all {us ys : List Value} {n k : Nat} (hl : us.length = n) (hk : n ≤ 2 * k + 1) (h : swapped us ys n k) : ys = us.reverse := by
  apply List.ext_getElem?
  intro q
  obtain ⟨h1, h2⟩ := h
  rcases Nat.lt_or_ge q n with hq | hq
  · rw [h2 q hq, List.getElem?_reverse (by omega), hl]
    by_cases c : q < k ∨ n < q + k + 1
    · rw [if_pos c]
    · rw [if_neg c, show n - 1 - q = q by omega]
  · rw [List.getElem?_eq_none (by omega), List.getElem?_eq_none (by rw [List.length_reverse]; omega)]
set_option maxHeartbeats 600000 in
set_option maxRecDepth 100000 in
theorem reverse_any (B g n c : Nat) (us : List Value) (w : World) (ho : w.ownsRow B 36 1 (.slice (some ⟨g, 0, none⟩) n c) n us) (hsl : ∀ u ∈ us, ∃ p m c, u = .slice p m c) (hn : n ≤ 100) :
    Calls Tryd.prog 44 #[.slice (some ⟨g, 0, none⟩) n c] w fun e w' => e = .returned (.tuple #[]) ∧ w'.ownsRow B 36 1 (.slice (some ⟨g, 0, none⟩) n c) n us.reverse ∧ w.grownBy w' (some g) := by
  have HO := keep ho
  have HUL : Hid (us.length = n) := by have := ho.1; show _ = _; omega
  have HSL := keep hsl
  have mixed : Tryd.prog.follows Departure.mixedOrders = true := by kernel_rfl
  clear ho hsl
  go_enter Tryd.func44, Tryd.ntmps44
  go_wp2
  go_loopw [2, 3] (fun i j wr => ∃ (k : Nat) (ys : List Value), k ≤ n ∧ i = .int .i64 (k : Int) ∧ j = .int .i64 ((n : Int) - 1 - (k : Int)) ∧ Hid (swapped us ys n k ∧ wr.ownsRow B 36 1 (.slice (some ⟨g, 0, none⟩) n c) n ys ∧ w.grownBy wr (some g))) (fun i _ _ => n - (intOf i).toNat)
  case atStart => exact ⟨0, us, Nat.zero_le _, rfl, by first | rfl | go_num, swapped_zero HUL.out, HO.out, grown_below (Below.refl _ _)⟩
  case round =>
    clear HO
    obtain ⟨k, ys, hk, rfl, rfl, hI⟩ := hrel
    by_cases hlt : 2 * k + 1 < n
    · obtain ⟨hS, O1, G1⟩ := hI.out
      obtain ⟨q, hq⟩ : ∃ q, n - 1 - k = q := ⟨_, rfl⟩
      have e1 : (n : Int) - 1 - (k : Int) = (q : Int) := by omega
      obtain ⟨x, hx⟩ : ∃ x, ys[k]? = some x := ⟨ys[k]'(by rw [hS.1]; omega), List.getElem?_eq_getElem _⟩
      obtain ⟨y, hy⟩ : ∃ y, ys[n - 1 - k]? = some y := ⟨ys[n - 1 - k]'(by rw [hS.1]; omega), List.getElem?_eq_getElem _⟩
      have SN := keep (swapped_next hlt hS hx hy)
      obtain ⟨xp, xm, xc, hxe⟩ := HSL.out x (by have e := hS.2 k (by omega); rw [if_neg (by omega), hx] at e; exact List.mem_of_getElem? e.symm)
      obtain ⟨yp, ym, yc, hye⟩ := HSL.out y (by have e := hS.2 (n - 1 - k) (by omega); rw [if_neg (by omega), hy] at e; exact List.mem_of_getElem? e.symm)
      subst hxe hye
      rw [hq] at SN hy
      obtain ⟨cx, fx⟩ := own_cell O1 hx
      obtain ⟨cy, fy⟩ := own_cell O1 hy
      have O2 := keep O1
      have G2 := keep G1
      have hkq : k < q := by omega
      have iq : (k : Int) < (q : Int) := by omega
      have k0 : (0 : Int) ≤ (k : Int) := by omega
      have k1 : (k : Int) < (n : Int) := by omega
      have q0 : (0 : Int) ≤ (q : Int) := by omega
      have q1 : (q : Int) < (n : Int) := by omega
      have kq : ¬ k = q := by omega
      have qk : ¬ q = k := by omega
      rw [e1]
      have E2 : Hid ((q : Int) - 1 = (n : Int) - 1 - ((k + 1 : Nat) : Int)) := by show _ = _; omega
      clear hI hS hx hy hq O1 G1 e1 hlt
      go_wp2_with fail
      go_region_o
      have b1 := (Below.refl wr.heap.size wr).drew
      have O3 := keep (own_put (i := q) (own_put (i := k) (own_next O2.out b1) (.slice yp ym yc)) (.slice xp xm xc))
      have G3 := keep (grown_trans (grown_trans (grown_trans G2.out (grown_below b1)) (grown_set _ g k (.slice yp ym yc))) (grown_set _ g q (.slice xp xm xc)))
      clear b1 cx fx cy fy
      go_wp2
      go_roundw
      case rel => exact ⟨k + 1, _, by omega, by first | rfl | go_num, by first | (rw [← E2.out]; done) | (rw [← E2.out]; go_num), SN.out, O3.out, G3.out⟩
      case measure => simp [intOf]; omega
    · obtain ⟨hS, O1, G1⟩ := hI.out
      have hnot : ¬ (k : Int) < (n : Int) - 1 - (k : Int) := by omega
      have E := keep (swapped_all HUL.out (by omega) hS)
      have O2 := keep O1
      have G2 := keep G1
      clear hI hS O1 G1
      go_wp2
      go_end0
      exact ⟨rfl, by rw [← E.out]; exact O2.out, G2.out⟩
end Go.Proofs.YtdgfbbaddoghaaaDoor
