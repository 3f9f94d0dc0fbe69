/- Rows of texts; hashes of leaves and nodes; the document's Cut, Leaf, Node. -/
import Derived.Test.YtkepjjkiajkdmaaDoorKz
import Derived.Test.YtkepjjkiajkdmaaDoorSxRd
namespace Go.Proofs.YtkepjjkiajkdmaaDoor
open Go.RowKit

theorem rsumK (ao : Option Addr) (m c : Nat) (l : List UInt8) (w : World) (hm : m ≤ 140737488355000) (hs : Src w ao m c l) :
    Calls Tryd.prog 47 #[.slice ao m c] w fun e w' => e = .returned (.string ⟨(Sha.sum l).toArray⟩) ∧ Below w.heap.size w w' := Sha.rsum_any ao m c l w hm hs.sha
set_option maxHeartbeats 1000000 in
set_option maxRecDepth 100000 in
theorem rcut_any (n : Nat) (w : World) (h2 : 2 ≤ n) (hb : n ≤ 4611686018427387904) :
    Calls Tryd.prog 48 #[.int .i64 (n : Int)] w fun e w' => e = .returned (.int .i64 (Mt.cut n : Int)) ∧ Below w.heap.size w w' := by
  go_enter Tryd.func48, Tryd.ntmps48
  go_wp2
  go_loopw [3] (fun i wr => ∃ k : Nat, i = .int .i64 (k : Int) ∧ Hid (∃ j, k = 2 ^ j) ∧ 1 ≤ k ∧ k < n ∧ Hid (Below w.heap.size w wr)) (fun i _ => n - (intOf i).toNat)
  case atStart => exact ⟨1, rfl, ⟨0, rfl⟩, by omega, by omega, Below.refl _ _⟩
  case round =>
    obtain ⟨k, rfl, hj, hk1, hkn, hB⟩ := hrel
    by_cases hc : 2 * k < n
    · have cc : 2 * (k : Int) < (n : Int) := by omega
      go_wp2
      go_roundw
      case rel =>
        obtain ⟨j, rfl⟩ := hj.out
        exact ⟨2 * 2 ^ j, by go_num, ⟨j + 1, by rw [Nat.pow_succ]; omega⟩, by omega, by omega, hB.out⟩
      case measure => simp [intOf]; omega
    · have cc : ¬ 2 * (k : Int) < (n : Int) := by omega
      go_wp2
      go_ret
      obtain ⟨j, hj2⟩ := hj.out
      have e := Mt.cut_is hj2 hkn (by omega)
      rw [e]
      exact ⟨rfl, hB.out⟩
set_option maxHeartbeats 1000000 in
set_option maxRecDepth 100000 in
theorem rleaf_any (ao : Option Addr) (m c : Nat) (l : List UInt8) (w : World) (hm : m ≤ 140737488354000) (hs : Src w ao m c l) :
    Calls Tryd.prog 27 #[.slice ao m c] w fun e w' => e = .returned (.string ⟨(leafL l).toArray⟩) ∧ Below w.heap.size w w' := by
  obtain ⟨i0, hi, hz0, hz1, hz2⟩ := info_parts info5
  have HS := keep hs
  have O0 : Hid ((w.alloc (.cells #[.int .u8 0] 5)).ownsRow w.heap.size 5 1 (.slice (some ⟨w.heap.size, 0, none⟩) 1 1) 1 (bv [0])) := ⟨by simp [bv], .inr ⟨_, _, _, rfl, Nat.le_refl _, heap_alloc_new w _, Nat.le_refl _, by decide, by simp, by simp [bv]⟩⟩
  clear hs
  go_enter Tryd.func27, Tryd.ntmps27
  go_wp2_with (at_builtin; go_loud (refine wpList_append_src rfl _ _ 41 rfl w.heap.size i0 _ Tryd.underlying41 hi hz0 hz1 hz2 rfl _ 1 [0] rfl (by exact O0.out) _ m c l rfl (HS.out.below ((Below.refl _ _).alloc (Nat.le_refl _) _)) (by omega) (le_alloc (Nat.le_refl _) _) ?_); intro v4 w9 ho4 hg4; have O4 := keep ho4; have b4 := keep (((Below.refl _ w).alloc (Nat.le_refl _) _).grown hg4 (le_alloc (Nat.le_refl _) _) (fun j hj => by cases hj; exact Nat.le_refl _)); clear ho4 hg4)
  obtain ⟨a5, k5, rfl, hs5, _⟩ := Src.of_own O4.out
  refine (rsumK a5 (1 + m) k5 ([0] ++ l) w9 (by omega) hs5).mono ?_
  rintro e w10 ⟨rfl, hb⟩
  have BF := keep (b4.out.trans (hb.mono b4.out.size))
  clear hb hs5
  go_wp2
  go_ret
  exact ⟨rfl, BF.out⟩
set_option maxHeartbeats 1000000 in
set_option maxRecDepth 100000 in
theorem rnode_any (x y : List UInt8) (w : World) (hx : x.length + y.length ≤ 140737488354000) :
    Calls Tryd.prog 32 #[.string ⟨x.toArray⟩, .string ⟨y.toArray⟩] w fun e w' => e = .returned (.string ⟨(nodeL x y).toArray⟩) ∧ Below w.heap.size w w' := by
  have e1 : (⟨#[1]⟩ : ByteArray) ++ ⟨x.toArray⟩ = ⟨(1 :: x).toArray⟩ := str_add [1] x
  have e2 : (⟨(1 :: x).toArray⟩ : ByteArray) ++ ⟨y.toArray⟩ = ⟨(1 :: (x ++ y)).toArray⟩ := str_add (1 :: x) y
  have hlen : (1 :: (x ++ y)).length ≤ 140737488355000 := by simp only [List.length_cons, List.length_append]; omega
  have hnode : nodeL x y = Sha.sum (1 :: (x ++ y)) := rfl
  rw [hnode]
  obtain ⟨L, hL⟩ : ∃ L, 1 :: (x ++ y) = L := ⟨_, rfl⟩
  rw [hL] at e2 hlen ⊢
  obtain ⟨N, hN⟩ : ∃ N, L.length = N := ⟨_, rfl⟩
  have cv := conv_str L N hN w
  have SM := keep (rsumK (some ⟨w.heap.size, 0, none⟩) N _ L _ (by omega) (Src.converted w L N hN))
  have bw := keep (below_bytesWorld w ⟨L.toArray⟩)
  clear hL hN hlen hnode
  go_enter Tryd.func32, Tryd.ntmps32
  go_wp2_with fail
  refine SM.out.mono ?_
  rintro e w2 ⟨rfl, hb⟩
  have BF := keep (bw.out.trans (hb.mono bw.out.size))
  clear hb
  go_wp2
  go_ret
  exact ⟨rfl, BF.out⟩
end Go.Proofs.YtkepjjkiajkdmaaDoor
