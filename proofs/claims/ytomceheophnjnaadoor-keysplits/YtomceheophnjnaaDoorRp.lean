/- The walk of the document's PutFix, of a number from 0 on. -/
import Derived.Test.YtomceheophnjnaaDoorP
namespace Go.Proofs.YtomceheophnjnaaDoor
open Go.RowKit

theorem shr_fix (N t : Nat) : (N : Int) / 2 ^ (8 * t) = ((N / 256 ^ t : Nat) : Int) := by
  rw [Int.natCast_ediv, Int.natCast_pow]
  congr 1
  rw [Int.pow_mul]
  rfl


set_option maxHeartbeats 1000000 in
set_option maxRecDepth 100000 in
theorem rputFix_pos (ao : Option Addr) (m c : Nat) (l : List UInt8) (N : Nat) (w : World) (hN : (N : Int) < 9223372036854775808) (hm : m + 8 ≤ 140737488355328) (hs : Src w ao m c l) :
    Calls Tryd.prog 19 #[.slice ao m c, .int .i64 (N : Int)] w fun e w' => ∃ v, e = .returned v ∧ New w w' v (m + 8) (l ++ be 8 N) := by
  obtain ⟨i0, hi, hz0, hz1, hz2⟩ := info_parts info5
  have hll := hs.len
  have HS := keep hs
  clear hs
  go_enter Tryd.func19, Tryd.ntmps19
  go_wp2_with (at_builtin; refine wpList_append_src rfl _ _ 22 rfl w.heap.size i0 _ Tryd.underlying22 hi hz0 hz1 hz2 rfl _ 0 [] rfl (World.ownsRow_nil _ _ _ _) _ m c l rfl HS.out (by omega) (Nat.le_refl _) ?_; intro v1 w1 ho1 hg1; have ho2 := keep ho1; simp only [Nat.zero_add, List.nil_append] at ho2; have hb1 := keep ((Below.refl w.heap.size w).grown hg1 (Nat.le_refl _) (fun j hj => by cases hj)); clear ho1 hg1)
  go_loopw [5, 6] (fun v i wr => ∃ t : Nat, t ≤ 8 ∧ i = .int .i64 ((t : Int) - 1) ∧ Hid (wr.ownsRow w.heap.size 5 1 v (m + (8 - t)) (bv (l ++ (be 8 N).take (8 - t)))) ∧ Hid (Below w.heap.size w wr)) (fun _ i _ => (intOf i + 1).toNat)
  case atStart => exact ⟨8, Nat.le_refl _, rfl, by simpa using ho2, hb1⟩
  case round =>
    clear ho2 hb1
    obtain ⟨t, ht, rfl, ho, hb⟩ := hrel
    rcases Nat.eq_zero_or_pos t with h0 | h0
    · subst h0
      go_wp2
      go_ret
      exact ⟨_, rfl, by have := ho.out; simpa [List.take_of_length_le (show (be 8 N).length ≤ 8 by rw [be_length]; omega)] using this, hb.out⟩
    · obtain ⟨s, rfl⟩ : ∃ s, t = s + 1 := ⟨t - 1, by omega⟩
      have e0 : ((s + 1 : Nat) : Int) - 1 = (s : Int) := by omega
      rw [e0]
      obtain ⟨y, hy⟩ : ∃ y : UInt8, UInt8.ofNat (N / 256 ^ s) = y := ⟨_, rfl⟩
      have hsh := keep (shr_fix N s)
      obtain ⟨q, hq⟩ : ∃ q : Nat, N / 256 ^ s = q := ⟨_, rfl⟩
      have hNq : q ≤ N := by rw [← hq]; exact Nat.div_le_self _ _
      have hnext : Hid ((be 8 N).take (8 - s) = (be 8 N).take (8 - (s + 1)) ++ [y]) := by
        have e1 : 8 - s = (8 - (s + 1)) + 1 := by omega
        show _ = _
        rw [e1, List.take_succ_eq_append_getElem (by rw [be_length]; omega)]
        congr 2
        rw [← hy]
        simp only [be, List.getElem_map, List.getElem_range]
        congr 3
        omega
      rw [hq] at hsh hy
      have hx : Hid ((q : Int) % 256 = (y.toNat : Int)) := by rw [← hy, UInt8.toNat_ofNat']; show _ = _; omega
      clear hq hy
      go_wp2_with (at_builtin; refine wpList_append_src rfl _ _ 22 rfl w.heap.size i0 _ Tryd.underlying22 hi hz0 hz1 hz2 rfl _ (m + (8 - (s + 1))) _ rfl (by exact ho.out.alloc _) _ 1 1 [y] rfl (Src.builtI _ _ _ (by first | exact hx.out | (rw [hsh.out]; exact hx.out))) (by omega) (le_alloc hb.out.size _) ?_; intro v2 w2 ho2 hg2; have hb3 := keep ((hb.out.alloc hb.out.size _).grown hg2 (le_alloc hb.out.size _) (fun j hj => (ho.out.lt j hj).1)); have ho3 := keep ho2; clear ho2 hg2)
      go_roundw
      case rel =>
        refine ⟨s, by omega, by first | rfl | go_num, ?_, hb3⟩
        show World.ownsRow _ _ _ _ _ _ _
        rw [hnext.out, ← List.append_assoc]
        have e1 : m + (8 - s) = m + (8 - (s + 1)) + 1 := by omega
        rw [e1]
        exact ho3.out
      case measure => simp [intOf]

theorem rputFix_nil (N : Nat) (w : World) (hN : (N : Int) < 9223372036854775808) : Calls Tryd.prog 19 #[.slice none 0 0, .int .i64 (N : Int)] w fun e w' => ∃ ao c, e = .returned (.slice ao 8 c) ∧ New w w' (.slice ao 8 c) 8 (be 8 N) :=
  (rputFix_pos none 0 0 [] N w hN (by omega) (src_nil w)).mono fun e w' ⟨v, he, h⟩ => by
    simp only [Nat.zero_add, List.nil_append] at h
    obtain ⟨ao, c, rfl, _, _⟩ := h.src
    exact ⟨ao, c, he, h⟩
end Go.Proofs.YtomceheophnjnaaDoor
