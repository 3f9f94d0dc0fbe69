/- The walk of sha.Hex. -/
import Derived.Test.YtjjpfckmbjgfbaaDoorX
import Derived.Deep.RegionLaw
namespace Go.Proofs.YtjjpfckmbjgfbaaDoor
open Go.RowKit

def dg (n : Nat) : UInt8 := (⟨#[48, 49, 50, 51, 52, 53, 54, 55, 56, 57, 97, 98, 99, 100, 101, 102]⟩ : ByteArray).data[n]?.getD 0
def hexOf (l : List UInt8) : List UInt8 := l.flatMap fun c => [dg (c.toNat / 16), dg (c.toNat % 16)]
theorem hexOf_snoc (l : List UInt8) (c : UInt8) : hexOf (l ++ [c]) = hexOf l ++ [dg (c.toNat / 16), dg (c.toNat % 16)] := by simp [hexOf]
theorem hexOf_length (l : List UInt8) : (hexOf l).length = 2 * l.length := by
  induction l with
  | nil => rfl
  | cons c l ih => simp only [hexOf, List.flatMap_cons, List.length_append, List.length_cons] at *; simp at *; omega
theorem take_snoc (s : ByteArray) (k : Nat) (h : k < s.size) : s.data.toList.take (k + 1) = s.data.toList.take k ++ [s[k]] := by
  rw [List.take_succ_eq_append_getElem (by simpa using h)]; rfl
theorem low4 (c : UInt8) : bits .and .u8 (c.toNat : Int) 15 = (c.toNat : Int) % 16 := by
  have h := u8_and_nat c.toNat 15 (by have := c.toNat_lt; omega) (by omega)
  rw [nat_mask4] at h
  simpa using h
theorem dig_at (n : Nat) (i : Int) (hi : i = (n : Int)) (hn : n < 16) (h : i.toNat < (⟨#[48, 49, 50, 51, 52, 53, 54, 55, 56, 57, 97, 98, 99, 100, 101, 102]⟩ : ByteArray).size) :
    (⟨#[48, 49, 50, 51, 52, 53, 54, 55, 56, 57, 97, 98, 99, 100, 101, 102]⟩ : ByteArray)[i.toNat]'h = dg n := by
  subst hi
  have e : ((n : Int)).toNat = n := Int.toNat_natCast n
  show (#[48, 49, 50, 51, 52, 53, 54, 55, 56, 57, 97, 98, 99, 100, 101, 102] : Array UInt8)[((n : Int)).toNat]'h = dg n
  unfold dg
  have h' : n < (#[48, 49, 50, 51, 52, 53, 54, 55, 56, 57, 97, 98, 99, 100, 101, 102] : Array UInt8).size := hn
  show _ = ((#[48, 49, 50, 51, 52, 53, 54, 55, 56, 57, 97, 98, 99, 100, 101, 102] : Array UInt8)[n]?).getD 0
  rw [Array.getElem?_eq_getElem h']
  simp only [e, Option.getD_some]
theorem dig_hi (c : UInt8) (h : ((c.toNat : Int) / 16).toNat < (⟨#[48, 49, 50, 51, 52, 53, 54, 55, 56, 57, 97, 98, 99, 100, 101, 102]⟩ : ByteArray).size) : (⟨#[48, 49, 50, 51, 52, 53, 54, 55, 56, 57, 97, 98, 99, 100, 101, 102]⟩ : ByteArray)[((c.toNat : Int) / 16).toNat]'h = dg (c.toNat / 16) := dig_at _ _ (by omega) (by have := c.toNat_lt; omega) h
theorem dig_lo (c : UInt8) (h : ((c.toNat : Int) % 16).toNat < (⟨#[48, 49, 50, 51, 52, 53, 54, 55, 56, 57, 97, 98, 99, 100, 101, 102]⟩ : ByteArray).size) : (⟨#[48, 49, 50, 51, 52, 53, 54, 55, 56, 57, 97, 98, 99, 100, 101, 102]⟩ : ByteArray)[((c.toNat : Int) % 16).toNat]'h = dg (c.toNat % 16) := dig_at _ _ (by omega) (by omega) h
theorem take_all (s : ByteArray) : s.data.toList.take s.size = s.data.toList := List.take_of_length_le (by rw [Array.length_toList]; exact Nat.le_refl _)
set_option maxHeartbeats 400000 in
set_option maxRecDepth 100000 in
theorem hex_any (s : ByteArray) (w : World) (hs : s.size ≤ 1048576) :
    Calls Tryd.prog 12 #[.string s] w fun e w' => e = .returned (.string ⟨(hexOf s.data.toList).toArray⟩) ∧ Below w.heap.size w w' := by
  obtain ⟨i0, hi, hz0, hz1, hz2⟩ := info_parts info5
  go_enter Tryd.func12, Tryd.ntmps12
  go_wp2_with (at_make; go_loud (refine wpList_make_own _ rfl _ _ 22 rfl w.heap.size 5 i0 (.int .u8 0) 1 Tryd.underlying22 hi hz0 hz1 .i64 .i64 _ (2 * s.size) rfl rfl (by omega) (by rw [hz2]; omega) (by unfold maxLen; omega) (Nat.le_refl _) ?_); intro w1 hown hgrow)
  have hb : Below w.heap.size w w1 := (Below.refl _ _).grown hgrow (Nat.le_refl _) (fun k h => by cases h)
  clear hgrow
  go_loopw [3, 4] (fun v i wr => ∃ k g cap : Nat, k ≤ s.size ∧ i = .int .i64 k ∧ v = .slice (some ⟨g, 0, none⟩) (2 * k) cap ∧ Hid (wr.ownsRow w.heap.size 5 1 v (2 * k) (bv (hexOf (s.data.toList.take k)))) ∧ Hid (Below w.heap.size w wr)) (fun _ i _ => s.size - (intOf i).toNat)
  case atStart => exact ⟨0, _, _, Nat.zero_le _, rfl, rfl, by exact hown, hb⟩
  case round =>
    obtain ⟨k, g0, cap0, hk, rfl, rfl, hown, hb⟩ := hrel
    by_cases hlt : k < s.size
    · have h0 : (0 : Int) ≤ (k : Int) := Int.natCast_nonneg _
      have h1 : (k : Int) < (s.size : Int) := by omega
      go_wp2_with fail
      have hq0 : (0 : Int) ≤ (s[k].toNat : Int) / 16 := by omega
      have hq1 : (s[k].toNat : Int) / 16 < 16 := by have := s[k].toNat_lt; omega
      have hq2 : (0 : Int) ≤ (s[k].toNat : Int) % 16 := by omega
      have hq3 : (s[k].toNat : Int) % 16 < 16 := by omega
      have hbit := low4 s[k]
      have hd1 := dig_hi s[k]
      have hd2 := dig_lo s[k]
      go_region_law ((refine step_append_lies _ (by rfl) _ _ _ (by rfl) w.heap.size 5 i0 _ 1 1 Tryd.underlying22 hi hz0 hz1 hz2 rfl (by omega) _ (2 * k) (bv (hexOf (s.data.toList.take k))) (by rfl) (by exact ((hown.out.alloc _).drew)) ⟨wr.heap.size, 0, none⟩ 2 2 [.int .u8 ((dg (s[k].toNat / 16)).toNat : Int), .int .u8 ((dg (s[k].toNat % 16)).toNat : Int)] (by rfl) (by rfl) (World.news_of_block (cs := #[.int .u8 ((dg (s[k].toNat / 16)).toNat : Int), .int .u8 ((dg (s[k].toNat % 16)).toNat : Int)]) (t := 5) (fr := (0, 0)) (heap_alloc_new wr _)) (by simp [Value.oneCell']) (by omega) (by unfold maxLen; omega) (by omega) (by have := hb.out.size; simp; omega) (wr.heap.size + 1) (by simp) ?_; intro g cap w2 hown2 hgrow2 hat hlt2))
      all_goals
        have hown3 : Hid (w2.ownsRow w.heap.size 5 1 (.slice (some ⟨g, 0, none⟩) (2 * (k + 1)) cap) (2 * (k + 1)) (bv (hexOf (s.data.toList.take (k + 1))))) := by
          rw [take_snoc s k hlt, hexOf_snoc, bv_append]; exact hown2
        have hb3 : Hid (Below w.heap.size w w2) := ((hb.out.alloc hb.out.size _).drew).grown hgrow2 (by have := hb.out.size; simp; omega) (fun j hj => (hown.out.lt j hj).1)
        clear hown2 hgrow2 hown hb hat hbit hd1 hd2 hq0 hq1 hq2 hq3
        go_wp2
        go_roundw
        case rel => exact ⟨k + 1, g, cap, by omega, by go_num, rfl, hown3, hb3⟩
        case measure => simp [intOf]; omega
    · have hk2 : k = s.size := by omega
      subst hk2
      rw [take_all] at hown
      have hc := conv_own Tryd.underlying22 Tryd.underlying5 Tryd.underlying9 hown.out (by rw [hexOf_length, Array.length_toList]; rfl)
      go_wp2
      go_ret
      exact ⟨rfl, hb.out⟩
end Go.Proofs.YtjjpfckmbjgfbaaDoor
