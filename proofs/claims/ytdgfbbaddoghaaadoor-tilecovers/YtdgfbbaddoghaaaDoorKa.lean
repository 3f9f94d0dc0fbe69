/- Rows of texts; hashes of leaves and nodes; the document's Cut, Leaf, Node. -/
import Derived.Test.YtdgfbbaddoghaaaDoorKz
import Derived.Test.YtdgfbbaddoghaaaDoorSxRd
namespace Go.Proofs.YtdgfbbaddoghaaaDoor
open Go.RowKit

theorem rsumK (ao : Option Addr) (m c : Nat) (l : List UInt8) (w : World) (hm : m ≤ 140737488355000) (hs : Src w ao m c l) :
    Calls Tryd.prog 37 #[.slice ao m c] w fun e w' => e = .returned (.string ⟨(Sha.sum l).toArray⟩) ∧ Below w.heap.size w w' := Sha.rsum_any ao m c l w hm hs.sha
set_option maxHeartbeats 1000000 in
set_option maxRecDepth 100000 in
theorem rcut_any (n : Nat) (w : World) (h2 : 2 ≤ n) (hb : n ≤ 4611686018427387904) :
    Calls Tryd.prog 38 #[.int .i64 (n : Int)] w fun e w' => e = .returned (.int .i64 (Mt.cut n : Int)) ∧ Below w.heap.size w w' := by
  go_enter Tryd.func38, Tryd.ntmps38
  go_wp2
  go_loopw [3] (fun i wr => ∃ k : Nat, i = .int .i64 (k : Int) ∧ Hid (∃ j, k = 2 ^ j) ∧ 1 ≤ k ∧ k < n ∧ Hid (Below w.heap.size w wr)) (fun i _ => n - (intOf i).toNat)
  case atStart => exact ⟨1, rfl, ⟨0, rfl⟩, by omega, by omega, Below.refl _ _⟩
  case round =>
    obtain ⟨k, rfl, hj, hk1, hkn, hB⟩ := hrel
    by_cases hc : 2 * k < n
    · have cc : 2 * (k : Int) < (n : Int) := by omega
      go_wp2
      go_roundw
      case rel =>
        obtain ⟨j, rfl⟩ := hj.out
        exact ⟨2 * 2 ^ j, by go_num, ⟨j + 1, by rw [Nat.pow_succ]; omega⟩, by omega, by omega, hB.out⟩
      case measure => simp [intOf]; omega
    · have cc : ¬ 2 * (k : Int) < (n : Int) := by omega
      go_wp2
      go_ret
      obtain ⟨j, hj2⟩ := hj.out
      have e := Mt.cut_is hj2 hkn (by omega)
      rw [e]
      exact ⟨rfl, hB.out⟩
set_option maxHeartbeats 1000000 in
set_option maxRecDepth 100000 in
theorem rnode_any (x y : List UInt8) (w : World) (hx : x.length + y.length ≤ 140737488354000) :
    Calls Tryd.prog 21 #[.string ⟨x.toArray⟩, .string ⟨y.toArray⟩] w fun e w' => e = .returned (.string ⟨(nodeL x y).toArray⟩) ∧ Below w.heap.size w w' := by
  have e1 : (⟨#[1]⟩ : ByteArray) ++ ⟨x.toArray⟩ = ⟨(1 :: x).toArray⟩ := str_add [1] x
  have e2 : (⟨(1 :: x).toArray⟩ : ByteArray) ++ ⟨y.toArray⟩ = ⟨(1 :: (x ++ y)).toArray⟩ := str_add (1 :: x) y
  have hlen : (1 :: (x ++ y)).length ≤ 140737488355000 := by simp only [List.length_cons, List.length_append]; omega
  have hnode : nodeL x y = Sha.sum (1 :: (x ++ y)) := rfl
  rw [hnode]
  obtain ⟨L, hL⟩ : ∃ L, 1 :: (x ++ y) = L := ⟨_, rfl⟩
  rw [hL] at e2 hlen ⊢
  obtain ⟨N, hN⟩ : ∃ N, L.length = N := ⟨_, rfl⟩
  have cv := conv_str L N hN w
  have SM := keep (rsumK (some ⟨w.heap.size, 0, none⟩) N _ L _ (by omega) (Src.converted w L N hN))
  have bw := keep (below_bytesWorld w ⟨L.toArray⟩)
  clear hL hN hlen hnode
  go_enter Tryd.func21, Tryd.ntmps21
  go_wp2_with fail
  refine SM.out.mono ?_
  rintro e w2 ⟨rfl, hb⟩
  have BF := keep (bw.out.trans (hb.mono bw.out.size))
  clear hb
  go_wp2
  go_ret
  exact ⟨rfl, BF.out⟩
end Go.Proofs.YtdgfbbaddoghaaaDoor
