/- The walk of sha.pad. -/
import Derived.Test.YtjjpfckmbjgfbaaDoorP
namespace Go.Proofs.YtjjpfckmbjgfbaaDoor
open Go.RowKit
attribute [local go_sem] u8_xor

def rowB (k : Nat → UInt8) (j : Nat) : Value := .int .u8 ((k j).toNat : Int)
def xrow (k : Nat → UInt8) (x : UInt8) (n j : Nat) : UInt8 := if j < n then k j ^^^ x else k j
def padl (k : Nat → UInt8) (x : UInt8) : List UInt8 := (List.range 64).map fun j => k j ^^^ x
theorem size39 : (Tryd.prog.info? 39).map (·.size) = some 64 := by kernel_rfl

set_option maxHeartbeats 1000000 in
set_option maxRecDepth 100000 in
theorem pad_any (k : Nat → UInt8) (x : UInt8) (w : World) :
    Calls Tryd.prog 18 #[.agg (rowL 64 (rowB k)), .int .u8 (x.toNat : Int)] w fun e w' => e = .returned (.slice (some ⟨w.heap.size, 0, none⟩) 64 64) ∧ Src w' (some ⟨w.heap.size, 0, none⟩) 64 64 (padl k x) ∧ Below w.heap.size w w' := by
  go_enter Tryd.func18, Tryd.ntmps18
  go_wp2
  go_loopw [6] (fun i wr => ∃ n : Nat, n ≤ 64 ∧ i = .int .i64 n ∧ Hid (wr.rowIs w.heap.size 39 64 (rowB (xrow k x n))) ∧ Hid (Below w.heap.size w wr)) (fun i _ => 64 - (intOf i).toNat)
  case atStart => exact ⟨0, by omega, rfl, ⟨_, heap_alloc_new w _, rowL_size _ _, fun i hi => by rw [rowL_at _ _ _ hi]; unfold rowB xrow; rw [if_neg (by omega)]⟩, (Below.refl _ _).alloc (Nat.le_refl _) _⟩
  case round =>
    obtain ⟨n, hn, rfl, hr, hb⟩ := hrel
    by_cases hlt : n < 64
    · have hc : wr.cell? ⟨w.heap.size, n, none⟩ = some (.int .u8 ((k n).toNat : Int)) := by rw [hr.out.cell hlt]; unfold rowB xrow; rw [if_neg (by omega)]
      have hf := hr.out.frozen n
      have hr' : Hid ((wr.setCell ⟨w.heap.size, n, none⟩ (.int .u8 ((k n ^^^ x).toNat : Int))).rowIs w.heap.size 39 64 (rowB (xrow k x (n + 1)))) := (hr.out.set n _).congr (fun j _ => by
        unfold rowB xrow
        by_cases e : j = n
        · subst e; rw [if_pos rfl, if_pos (by omega)]
        · rw [if_neg e]
          by_cases e2 : j < n
          · rw [if_pos e2, if_pos (by omega)]
          · rw [if_neg e2, if_neg (by omega)])
      have hb' : Hid (Below w.heap.size w (wr.setCell ⟨w.heap.size, n, none⟩ (.int .u8 ((k n ^^^ x).toNat : Int)))) := hb.out.setCell (Nat.le_refl _) _
      go_wp2
      go_roundw
      case rel => exact ⟨n + 1, by omega, by go_num, hr', hb'⟩
      case measure => simp [intOf]; omega
    · have hn2 : n = 64 := by omega
      subst hn2
      go_wp2
      go_ret
      refine ⟨rfl, Src.mk_bytes (by simp [padl]) (Nat.le_refl _) (fun i hi => ?_), hb.out⟩
      rw [Nat.zero_add, hr.out.cell hi]
      unfold rowB xrow fn padl
      rw [if_pos hi]
      simp [List.getD, hi]
end Go.Proofs.YtjjpfckmbjgfbaaDoor
