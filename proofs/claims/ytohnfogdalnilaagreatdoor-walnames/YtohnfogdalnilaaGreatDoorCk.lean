/- The walks of wal's chunks: the iterator and its closure. -/
import Derived.Test.YtohnfogdalnilaaGreatDoorL
import Derived.Test.YtohnfogdalnilaaGreatDoorT
import Derived.RangeFuncNested
import Derived.RangeFuncWrites
import Derived.RangeFuncBound
import Derived.RangeFuncCalls
import Derived.RangeFuncLeaves
import Derived.Shelf.Abstract
import Derived.Shelf.RegionOpen
import Derived.WalkKit
import Derived.OwnWalkIn
import Derived.TacticsInMore
import Derived.LoopNIn
import Derived.LoopIn
namespace Go.Proofs.YtohnfogdalnilaaGreatDoor
open Go.RowKit Go.Shelf
attribute [local go_sem] Oper.semAt_some

def lenOf : Value → Nat
  | .slice _ n _ => n
  | _ => 0
/-- The slice of the k-th chunk. -/
def chunkv (b off n c k : Nat) : Value := .slice (some ⟨b, off + k * 4096, none⟩) (min (n - k * 4096) 4096) (c - k * 4096)
/-- How many chunks there are. -/
def chunkCount (n : Nat) : Nat := (n + 4095) / 4096

set_option maxHeartbeats 2000000 in
set_option maxRecDepth 100000 in
theorem chunks1_in (F : Fence) (nn : Nat) (h : F.fn 93) (hro : F.round = none) (hn : 1 ≤ nn) (l Bs b off n c : Nat) (hnc : n ≤ c) (hc : c ≤ maxLen) (J Jx : List Nat → World → Prop)
    (hY : ∀ pre x W, J pre W → pre.length < chunkCount n → YieldAt F (nn - 1) Tryz.prog l #[chunkv b off n c x] W fun e W' =>
      (e = .returned (.bool true) ∧ J (pre ++ [x]) W' ∧ True) ∨ (e = .returned (.bool false) ∧ Jx (pre ++ [x]) W'))
    (W : World) (hBs : W.cell? ⟨Bs, 0, none⟩ = some (.slice (some ⟨b, off, none⟩) n c)) (h0 : J [] W) :
    CallsIn F nn Tryz.prog 93 #[.func (.yield l) #[] #[], .pointer (some ⟨Bs, 0, none⟩)] W fun e W' => (∃ v, e = .returned v) ∧
      ((∃ ys, ys = List.range (chunkCount n) ∧ J ys W') ∨ (∃ pre, (∃ k, k ≤ chunkCount n ∧ pre = List.range k) ∧ Jx pre W')) := by
  refine callsIn_of_wp Tryz.func93 rfl h ?_ hro
  simp only [Tryz.ntmps93, List.size_toArray, List.length_cons, List.length_nil, Nat.reduceAdd, Nat.reduceSub, Array.replicate_succ, Array.replicate_zero, List.push_toArray, List.append_toArray, List.nil_append, List.cons_append]
  gi_wp2
  gi_loopw [3] (fun v wr => ∃ (k : Nat) (p : Option Addr) (C : Nat), k ≤ chunkCount n ∧ v = .slice p (n - k * 4096) C ∧ (0 < n - k * 4096 → p = some ⟨b, off + k * 4096, none⟩ ∧ C = c - k * 4096) ∧ Hid (J (List.range k) wr)) (fun v _ => lenOf v)
  case atStart => exact ⟨0, _, _, Nat.zero_le _, rfl, fun _ => ⟨rfl, rfl⟩, h0⟩
  case round =>
    obtain ⟨k, p, C, hk, rfl, hp, hJ⟩ := hrel
    obtain ⟨M, hM⟩ : ∃ M, n - k * 4096 = M := ⟨_, rfl⟩
    rw [hM] at hp
    rw [hM]
    rcases Nat.eq_zero_or_pos M with h1 | h1
    · have hkk : k = chunkCount n := by unfold chunkCount at hk ⊢; omega
      subst h1
      have HJ := hJ.out
      gi_wp2
      go_end0
      exact ⟨⟨_, rfl⟩, .inl ⟨_, by rw [hkk], HJ⟩⟩
    · obtain ⟨rfl, hC0⟩ := hp h1
      have hC : c - k * 4096 = C := hC0.symm
      clear hC0 hp
      have hMC : M ≤ C := by omega
      have hCm : C ≤ maxLen := by omega
      have hlt : k < chunkCount n := by unfold chunkCount; omega
      have hm0 : (0 : Int) < (M : Int) := by omega
      obtain ⟨fn, tmps, assign, body, hy, hR⟩ := hY _ k wr hJ.out (by rw [List.length_range]; exact hlt)
      unfold chunkv at hy
      rw [hM, hC] at hy
      rcases Nat.lt_or_ge 4096 M with h2 | h2
      · have hmin : min M 4096 = 4096 := by omega
        rw [hmin] at hy
        have h3 : ¬ (M : Int) ≤ 4096 := by omega
        gi_wp2
        refine hR.mono ?_
        rintro e W3 (⟨rfl, hJ3, _⟩ | ⟨rfl, hJx3⟩)
        · have hJ4 : Hid (J (List.range (k + 1)) W3) := by show J _ _; rw [List.range_succ]; exact hJ3
          have hcz : ¬ C = 4096 := by omega
          clear hJ3 hJ
          gi_wp2
          go_roundw
          case rel => exact ⟨k + 1, _, _, hlt, by rw [show n - (k + 1) * 4096 = M - 4096 by omega], fun _ => ⟨by rw [Nat.succ_mul, ← Nat.add_assoc], by omega⟩, hJ4⟩
          case measure => simp [lenOf]; omega
        · gi_wp2
          refine bodyPost_ret (results_none rfl _ _ _) rfl ?_
          exact ⟨⟨_, rfl⟩, .inr ⟨_, ⟨k + 1, hlt, List.range_succ.symm⟩, hJx3⟩⟩
      · have hmin : min M 4096 = M := by omega
        rw [hmin] at hy
        have h3 : (M : Int) ≤ 4096 := by omega
        gi_wp2
        refine hR.mono ?_
        rintro e W3 (⟨rfl, hJ3, _⟩ | ⟨rfl, hJx3⟩)
        · have hJ4 : Hid (J (List.range (k + 1)) W3) := by show J _ _; rw [List.range_succ]; exact hJ3
          clear hJ3 hJ
          gi_wp2
          go_roundw
          case rel => exact ⟨k + 1, _, _, hlt, by rw [show n - (k + 1) * 4096 = 0 by omega], fun h => by omega, hJ4⟩
          case measure => simp [lenOf]; omega
        · gi_wp2
          refine bodyPost_ret (results_none rfl _ _ _) rfl ?_
          exact ⟨⟨_, rfl⟩, .inr ⟨_, ⟨k + 1, hlt, List.range_succ.symm⟩, hJx3⟩⟩
/-- chunks(b): the slice is boxed; the function captures the box. -/
theorem chunks_in (F : Fence) (nn : Nat) (h : F.fn 54) (hro : F.round = none) (a : Option Addr) (n c : Nat) (w : World) :
    CallsIn F nn Tryz.prog 54 #[.slice a n c] w fun e w' => e = .returned (.func (.func 93) #[] #[.pointer (some ⟨w.heap.size, 0, none⟩)]) ∧ w' = w.alloc (.cells #[.slice a n c] 25) := by
  refine callsIn_of_wp Tryz.func54 rfl h ?_ hro
  simp only [Tryz.ntmps54, List.size_toArray, List.length_cons, List.length_nil, Nat.reduceAdd, Nat.reduceSub, Array.replicate_succ, Array.replicate_zero, List.push_toArray, List.append_toArray, List.nil_append, List.cons_append]
  gi_wp2
  go_ret
  exact ⟨rfl, rfl⟩
theorem chunks_stops (F : Fence) (nn : Nat) (h : F.fn 93) (hro : F.round = none) (hn : 1 ≤ nn) (Bs b off n c : Nat) (hnc : n ≤ c) (hc : c ≤ maxLen) (w : World) (hBs : Bs < w.heap.size) (hb : w.cell? ⟨Bs, 0, none⟩ = some (.slice (some ⟨b, off, none⟩) n c)) :
    SeqStopsK F nn Tryz.prog 93 #[.pointer (some ⟨Bs, 0, none⟩)] (fun k : Nat => #[chunkv b off n c k]) (fun _ _ => True) (fun ys => ys = List.range (chunkCount n)) (fun pre => ∃ k, k ≤ chunkCount n ∧ pre = List.range k) (chunkCount n) w := fun l J Jx W hW _ _ hY h0 =>
  chunks1_in F nn h hro hn l Bs b off n c hnc hc J Jx hY W ((hW.cell (p := ⟨Bs, 0, none⟩) hBs).trans hb) h0
end Go.Proofs.YtohnfogdalnilaaGreatDoor
