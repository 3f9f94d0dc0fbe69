/- The walk of sha.Hex. -/
import Derived.Test.YtjjpfckmbjgfbaaHexA
namespace Go.Proofs.Ytjjpfckmbjgfbaa.shaHexes
open Go.RowKit

set_option maxHeartbeats 400000 in
set_option maxRecDepth 100000 in
theorem hex_any (s : ByteArray) (w : World) (hs : s.size ≤ 1048576) :
    Calls Try.prog 4 #[.string s] w fun e w' => e = .returned (.string ⟨(hexOf s.data.toList).toArray⟩) ∧ Below w.heap.size w w' := by
  obtain ⟨i0, hi, hz0, hz1, hz2⟩ := info_parts info5
  go_enter Try.func4, Try.ntmps4
  go_wp2_with (at_make; go_loud (refine wpList_make_own _ rfl _ _ 24 rfl w.heap.size 5 i0 (.int .u8 0) 1 Try.underlying24 hi hz0 hz1 .i64 .i64 _ (2 * s.size) rfl rfl (by omega) (by rw [hz2]; omega) (by unfold maxLen; omega) (Nat.le_refl _) ?_); intro w1 hown hgrow)
  have hb : Below w.heap.size w w1 := (Below.refl _ _).grown hgrow (Nat.le_refl _) (fun k h => by cases h)
  clear hgrow
  go_loopw [3, 4] (fun v i wr => ∃ k g cap : Nat, k ≤ s.size ∧ i = .int .i64 k ∧ v = .slice (some ⟨g, 0, none⟩) (2 * k) cap ∧ Hid (wr.ownsRow w.heap.size 5 1 v (2 * k) (bv (hexOf (s.data.toList.take k)))) ∧ Hid (Below w.heap.size w wr)) (fun _ i _ => s.size - (intOf i).toNat)
  case atStart => exact ⟨0, _, _, Nat.zero_le _, rfl, rfl, by exact hown, hb⟩
  case round =>
    obtain ⟨k, g0, cap0, hk, rfl, rfl, hown, hb⟩ := hrel
    by_cases hlt : k < s.size
    · have h0 : (0 : Int) ≤ (k : Int) := Int.natCast_nonneg _
      have h1 : (k : Int) < (s.size : Int) := by omega
      go_wp2_with fail
      have hq0 : (0 : Int) ≤ (s[k].toNat : Int) / 16 := by omega
      have hq1 : (s[k].toNat : Int) / 16 < 16 := by have := s[k].toNat_lt; omega
      have hq2 : (0 : Int) ≤ (s[k].toNat : Int) % 16 := by omega
      have hq3 : (s[k].toNat : Int) % 16 < 16 := by omega
      have hbit := low4 s[k]
      have hd1 := dig_hi s[k]
      have hd2 := dig_lo s[k]
      go_region_law ((refine step_append_lies _ (by rfl) _ _ _ (by rfl) w.heap.size 5 i0 _ 1 1 Try.underlying24 hi hz0 hz1 hz2 rfl (by omega) _ (2 * k) (bv (hexOf (s.data.toList.take k))) (by rfl) (by exact ((hown.out.alloc _).drew)) ⟨wr.heap.size, 0, none⟩ 2 2 [.int .u8 ((dg (s[k].toNat / 16)).toNat : Int), .int .u8 ((dg (s[k].toNat % 16)).toNat : Int)] (by rfl) (by rfl) (World.news_of_block (cs := #[.int .u8 ((dg (s[k].toNat / 16)).toNat : Int), .int .u8 ((dg (s[k].toNat % 16)).toNat : Int)]) (t := 5) (fr := (0, 0)) (heap_alloc_new wr _)) (by simp [Value.oneCell']) (by omega) (by unfold maxLen; omega) (by omega) (by have := hb.out.size; simp; omega) (wr.heap.size + 1) (by simp) ?_; intro g cap w2 hown2 hgrow2 hat hlt2))
      all_goals
        have hown3 : Hid (w2.ownsRow w.heap.size 5 1 (.slice (some ⟨g, 0, none⟩) (2 * (k + 1)) cap) (2 * (k + 1)) (bv (hexOf (s.data.toList.take (k + 1))))) := by
          rw [take_snoc s k hlt, hexOf_snoc, bv_append]; exact hown2
        have hb3 : Hid (Below w.heap.size w w2) := ((hb.out.alloc hb.out.size _).drew).grown hgrow2 (by have := hb.out.size; simp; omega) (fun j hj => (hown.out.lt j hj).1)
        clear hown2 hgrow2 hown hb hat hbit hd1 hd2 hq0 hq1 hq2 hq3
        go_wp2
        go_roundw
        case rel => exact ⟨k + 1, g, cap, by omega, by go_num, rfl, hown3, hb3⟩
        case measure => simp [intOf]; omega
    · have hk2 : k = s.size := by omega
      subst hk2
      rw [take_all] at hown
      have hc := conv_own Try.underlying24 Try.underlying5 Try.underlying9 hown.out (by rw [hexOf_length, Array.length_toList]; rfl)
      go_wp2
      go_ret
      exact ⟨rfl, hb.out⟩
end Go.Proofs.Ytjjpfckmbjgfbaa.shaHexes
