/- The walk of sha.ending. -/
import Derived.Test.YtdgfbbaddoghaaaDoorSxS
import Derived.Test.YtdgfbbaddoghaaaDoorSxX
namespace Go.Proofs.YtdgfbbaddoghaaaDoor.Sha
open Go.RowKit

def tail1 (l : List UInt8) (j : Nat) : List UInt8 := l ++ [128] ++ List.replicate j 0
theorem tail1_succ (l : List UInt8) (j : Nat) : tail1 l (j + 1) = tail1 l j ++ [0] := by
  unfold tail1
  rw [List.replicate_succ', ← List.append_assoc]
theorem tail1_length (l : List UInt8) (j : Nat) : (tail1 l j).length = l.length + 1 + j := by simp [tail1]; omega
theorem nz_of (m : Nat) : (m + 1 + nz m) % 64 = 56 ∧ nz m < 64 ∧ ∀ j, j < nz m → (m + 1 + j) % 64 ≠ 56 := by
  unfold nz
  refine ⟨by omega, by omega, fun j hj => by omega⟩
theorem be64_take (n j : Nat) (h : j < 8) : (be64 n).take (j + 1) = (be64 n).take j ++ [UInt8.ofNat (n / 2 ^ (56 - 8 * j))] := by
  rcases (show j = 0 ∨ j = 1 ∨ j = 2 ∨ j = 3 ∨ j = 4 ∨ j = 5 ∨ j = 6 ∨ j = 7 by omega) with h | h | h | h | h | h | h | h
  all_goals subst h
  all_goals simp [be64]
theorem byteN (n s : Nat) : IntKind.u8.wrap ((n : Int) / 2 ^ s) = ((UInt8.ofNat (n / 2 ^ s)).toNat : Int) := by
  rw [IntKind.wrap_u8', UInt8.toNat_ofNat', Int.natCast_emod, Int.natCast_ediv, Int.natCast_pow]
  rfl

set_option maxHeartbeats 1000000 in
set_option maxRecDepth 100000 in
theorem ending_any (ao : Option Addr) (m c : Nat) (l : List UInt8) (n : Nat) (w : World) (hm : m < 64) (hn : n ≤ 140737488355328) (hsrc : Src w ao m c l) :
    Calls Tryd.prog 50 #[.slice ao m c, .int .i64 (n : Int)] w fun e w' => e = .returned (.slice (some ⟨w.heap.size, 0, none⟩) (m + 1 + nz m + 8) 128) ∧ w'.ownsRow w.heap.size 5 1 (.slice (some ⟨w.heap.size, 0, none⟩) (m + 1 + nz m + 8) 128) (m + 1 + nz m + 8) (bv (tail1 l (nz m) ++ be64 (n * 8))) ∧ Below w.heap.size w w' := by
  obtain ⟨i0, hi, hz0, hz1, hz2⟩ := info_parts info5
  obtain ⟨z1, z2, z3⟩ := nz_of m
  have HS : Hid (Src w ao m c l) := hsrc
  have hll := hsrc.len
  clear hsrc
  go_enter Tryd.func50, Tryd.ntmps50
  go_wp2_with (first
    | (at_make; refine wpList_make_own _ rfl _ _ 48 rfl w.heap.size 5 i0 (.int .u8 0) 1 Tryd.underlying48 hi hz0 hz1 .i64 .i64 _ 128 rfl rfl (by omega) (by rw [hz2]; omega) (by unfold maxLen; omega) (Nat.le_refl _) ?_; intro w1 hown hgrow; have hb1 : Hid (Below w.heap.size w w1) := (Below.refl _ _).grown hgrow (Nat.le_refl _) (fun k h => by cases h); have HO : Hid (w1.ownsRow w.heap.size 5 1 (.slice (some ⟨w.heap.size, 0, none⟩) 0 128) 0 []) := hown; clear hown hgrow)
    | (at_builtin; refine wpList_append_fits_any _ rfl (.tmp 9) (.tmp 10) 48 rfl w.heap.size 5 i0 1 Tryd.underlying48 hi hz1 w.heap.size 0 128 [] rfl HO.out _ m c (bv l) rfl (by rw [bv_length]; omega) (HS.out.nil) (HS.out.below hb1.out).cells (bv_one l) (by omega) ?_; intro w2 hown2 hgrow2; have hb2 : Hid (Below w.heap.size w w2) := hb1.out.grown hgrow2 hb1.out.size (fun k h => by cases h; exact Nat.le_refl _); simp only [Nat.zero_add, List.nil_append] at hown2; have HO2 : Hid (w2.ownsRow w.heap.size 5 1 (.slice (some ⟨w.heap.size, 0, none⟩) m 128) m (bv l)) := hown2; clear hown2 hgrow2)
    | (at_builtin; refine wpList_append_fits _ rfl (.tmp 12) (.tmp 13) 48 rfl w.heap.size 5 i0 1 Tryd.underlying48 hi hz1 w.heap.size m 128 (bv l) rfl (HO2.out.alloc _) ⟨w2.heap.size, 0, none⟩ 1 1 (bv [128]) rfl rfl (World.news_of_block (heap_alloc_new w2 _)) (bv_one _) (by omega) ?_; intro w3 hown3 hgrow3; have hb3 : Hid (Below w.heap.size w w3) := (hb2.out.alloc hb2.out.size _).grown hgrow3 (by have := hb2.out.size; simp; omega) (fun k h => by cases h; exact Nat.le_refl _); have HO3 : Hid (w3.ownsRow w.heap.size 5 1 (.slice (some ⟨w.heap.size, 0, none⟩) (m + 1) 128) (m + 1) (bv (tail1 l 0))) := (by unfold tail1; rw [List.replicate_zero, List.append_nil, bv_append]; exact hown3); clear hown3 hgrow3))
  clear HO HO2 hb1 hb2
  go_loopw [5] (fun v wr => ∃ j : Nat, j ≤ nz m ∧ v = .slice (some ⟨w.heap.size, 0, none⟩) (m + 1 + j) 128 ∧ Hid (wr.ownsRow w.heap.size 5 1 (.slice (some ⟨w.heap.size, 0, none⟩) (m + 1 + j) 128) (m + 1 + j) (bv (tail1 l j))) ∧ Hid (Below w.heap.size w wr)) (fun v _ => 128 - (match v with | .slice _ k _ => k | _ => 0))
  case atStart => exact ⟨0, Nat.zero_le _, rfl, HO3, hb3⟩
  case round =>
    clear HO3 hb3
    obtain ⟨j, hj, rfl, HO, hb⟩ := hrel
    by_cases hlt : j < nz m
    · have hne := z3 j hlt
      clear z1 z3
      go_wp2_with (at_builtin; refine wpList_append_fits _ rfl _ _ 48 rfl w.heap.size 5 i0 1 Tryd.underlying48 hi hz1 w.heap.size (m + 1 + j) 128 _ rfl (HO.out.alloc _) ⟨wr.heap.size, 0, none⟩ 1 1 (bv [0]) rfl rfl (World.news_of_block (heap_alloc_new wr _)) (bv_one _) (by omega) ?_; intro w3 hown3 hgrow3)
      have hb3 : Hid (Below w.heap.size w w3) := (hb.out.alloc hb.out.size _).grown hgrow3 (by have := hb.out.size; simp; omega) (fun k h => by cases h; exact Nat.le_refl _)
      have HO3 : Hid (w3.ownsRow w.heap.size 5 1 (.slice (some ⟨w.heap.size, 0, none⟩) (m + 1 + (j + 1)) 128) (m + 1 + (j + 1)) (bv (tail1 l (j + 1)))) := by rw [tail1_succ, bv_append]; exact hown3
      clear hown3 hgrow3 HO hb hne
      go_wp2
      go_roundw
      case rel => exact ⟨j + 1, by omega, rfl, HO3, hb3⟩
      case measure => simp; omega
    · have hj2 : j = nz m := by omega
      subst hj2
      clear z3 hlt hj
      have hbf : ((((m : Int) + 1 + (nz m : Nat)) % 64) != 56) = false := by simp; omega
      go_wp2
      clear hbf
      go_loopw [5, 7] (fun v i ws => ∃ j : Nat, j ≤ 8 ∧ i = .int .i64 (56 - 8 * (j : Int)) ∧ v = .slice (some ⟨w.heap.size, 0, none⟩) (m + 1 + nz m + j) 128 ∧ Hid (ws.ownsRow w.heap.size 5 1 (.slice (some ⟨w.heap.size, 0, none⟩) (m + 1 + nz m + j) 128) (m + 1 + nz m + j) (bv (tail1 l (nz m) ++ (be64 (n * 8)).take j))) ∧ Hid (Below w.heap.size w ws)) (fun v _ _ => 128 - (match v with | .slice _ k _ => k | _ => 0))
      case atStart => exact ⟨0, Nat.zero_le _, rfl, rfl, by rw [List.take_zero, List.append_nil]; exact HO, hb⟩
      case round =>
        clear HO hb
        obtain ⟨j, hj, rfl, rfl, HO, hb⟩ := hrel
        by_cases hlt : j < 8
        · have q0 : (0 : Int) ≤ 56 - 8 * (j : Int) := by omega
          have q1 : (56 : Int) - 8 * (j : Int) ≤ 64 := by omega
          have q2 : (56 - 8 * (j : Int)).toNat = 56 - 8 * j := by omega
          have q3 : IntKind.u8.wrap ((n : Int) * 8 / 2 ^ (56 - 8 * j)) = ((UInt8.ofNat (n * 8 / 2 ^ (56 - 8 * j))).toNat : Int) := by have := byteN (n * 8) (56 - 8 * j); rwa [Int.natCast_mul] at this
          go_wp2_with (at_builtin; refine wpList_append_fits _ rfl _ _ 48 rfl w.heap.size 5 i0 1 Tryd.underlying48 hi hz1 w.heap.size (m + 1 + nz m + j) 128 _ rfl (HO.out.alloc _) ⟨wr.heap.size, 0, none⟩ 1 1 (bv [UInt8.ofNat (n * 8 / 2 ^ (56 - 8 * j))]) rfl rfl (World.news_of_block (heap_alloc_new wr _)) (bv_one _) (by omega) ?_; intro w3 hown3 hgrow3)
          have hb3 : Hid (Below w.heap.size w w3) := (hb.out.alloc hb.out.size _).grown hgrow3 (by have := hb.out.size; simp; omega) (fun k h => by cases h; exact Nat.le_refl _)
          have HO3 : Hid (w3.ownsRow w.heap.size 5 1 (.slice (some ⟨w.heap.size, 0, none⟩) (m + 1 + nz m + (j + 1)) 128) (m + 1 + nz m + (j + 1)) (bv (tail1 l (nz m) ++ (be64 (n * 8)).take (j + 1)))) := by rw [be64_take _ _ hlt, ← List.append_assoc, bv_append]; exact hown3
          clear hown3 hgrow3 HO hb q3
          go_wp2
          go_roundw
          case rel => exact ⟨j + 1, by omega, by go_num, rfl, HO3, hb3⟩
          case measure => simp; omega
        · have hj2 : j = 8 := by omega
          subst hj2
          go_wp2
          go_ret
          exact ⟨rfl, HO.out, hb.out⟩
end Go.Proofs.YtdgfbbaddoghaaaDoor.Sha
