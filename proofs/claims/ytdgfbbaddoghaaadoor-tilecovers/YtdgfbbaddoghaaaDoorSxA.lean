/- The walk of sha.takeAll. -/
import Derived.Test.YtdgfbbaddoghaaaDoorSxT
import Derived.Deep.DrawnRows
namespace Go.Proofs.YtdgfbbaddoghaaaDoor.Sha
open Go.RowKit
attribute [local go_sem ↓] Go.wp_at_zero Go.wp_at_succ

theorem cells8 {w : World} {B : Nat} {σ : St} (h : w.heap[B]? = some (.cells σ.vals 77 (0, 0))) :
    w.cell? ⟨B, 0, none⟩ = some (.int .u32 (U σ.a)) ∧ w.cell? ⟨B, 1, none⟩ = some (.int .u32 (U σ.b)) ∧ w.cell? ⟨B, 2, none⟩ = some (.int .u32 (U σ.c)) ∧ w.cell? ⟨B, 3, none⟩ = some (.int .u32 (U σ.d)) ∧ w.cell? ⟨B, 4, none⟩ = some (.int .u32 (U σ.e)) ∧ w.cell? ⟨B, 5, none⟩ = some (.int .u32 (U σ.f)) ∧ w.cell? ⟨B, 6, none⟩ = some (.int .u32 (U σ.g)) ∧ w.cell? ⟨B, 7, none⟩ = some (.int .u32 (U σ.h)) ∧ ∀ i, w.frozen? ⟨B, i, none⟩ = false := by
  refine ⟨?_, ?_, ?_, ?_, ?_, ?_, ?_, ?_, fun i => frozen_of_row _ _ _ _ _ h⟩ <;> (rw [cell_of_row _ _ _ _ _ _ h]; rfl)

def set8 (w : World) (B : Nat) (τ : St) : World :=
  ((((((((w.setCell ⟨B, 0, none⟩ (.int .u32 (U τ.a))).setCell ⟨B, 1, none⟩ (.int .u32 (U τ.b))).setCell ⟨B, 2, none⟩ (.int .u32 (U τ.c))).setCell ⟨B, 3, none⟩ (.int .u32 (U τ.d))).setCell ⟨B, 4, none⟩ (.int .u32 (U τ.e))).setCell ⟨B, 5, none⟩ (.int .u32 (U τ.f))).setCell ⟨B, 6, none⟩ (.int .u32 (U τ.g))).setCell ⟨B, 7, none⟩ (.int .u32 (U τ.h)))
theorem set8_same {w : World} {B : Nat} {σ : St} (τ : St) (h : w.heap[B]? = some (.cells σ.vals 77 (0, 0))) : (set8 w B τ).heap[B]? = some (.cells τ.vals 77 (0, 0)) := by
  have h8 := heap_setCell_same _ _ 7 _ 77 (.int .u32 (U τ.h)) (heap_setCell_same _ _ 6 _ 77 (.int .u32 (U τ.g)) (heap_setCell_same _ _ 5 _ 77 (.int .u32 (U τ.f)) (heap_setCell_same _ _ 4 _ 77 (.int .u32 (U τ.e)) (heap_setCell_same _ _ 3 _ 77 (.int .u32 (U τ.d)) (heap_setCell_same _ _ 2 _ 77 (.int .u32 (U τ.c)) (heap_setCell_same _ _ 1 _ 77 (.int .u32 (U τ.b)) (heap_setCell_same _ _ 0 _ 77 (.int .u32 (U τ.a)) h)))))))
  unfold set8
  rw [h8]
  simp [St.vals]
theorem set8_other {w : World} {B : Nat} (τ : St) (k : Nat) (h : k ≠ B) : (set8 w B τ).heap[k]? = w.heap[k]? := by
  unfold set8
  rw [heap_setCell_other _ _ _ _ h, heap_setCell_other _ _ _ _ h, heap_setCell_other _ _ _ _ h, heap_setCell_other _ _ _ _ h, heap_setCell_other _ _ _ _ h, heap_setCell_other _ _ _ _ h, heap_setCell_other _ _ _ _ h, heap_setCell_other _ _ _ _ h]
theorem set8_below {w w0 : World} {B N : Nat} (τ : St) (hN : N ≤ B) (h : Below N w0 w) : Below N w0 (set8 w B τ) :=
  (((((((h.setCell hN _).setCell hN _).setCell hN _).setCell hN _).setCell hN _).setCell hN _).setCell hN _).setCell hN _

set_option maxHeartbeats 1000000 in
set_option maxRecDepth 100000 in
theorem takeAll_any (s : St) (b off len cap : Nat) (g : Nat → UInt8) (w : World) (hlen : len ≤ 140737488355328) (hcap : len ≤ cap) (hcapm : cap ≤ maxLen) (hc : Bytes w b off len g) (hT : Tab w) (hb : b < w.heap.size) :
    Calls Tryd.prog 48 #[.agg #[.int .u32 (U s.a), .int .u32 (U s.b), .int .u32 (U s.c), .int .u32 (U s.d), .int .u32 (U s.e), .int .u32 (U s.f), .int .u32 (U s.g), .int .u32 (U s.h)], .slice (some ⟨b, off, none⟩) len cap] w
      fun e w' => e = .returned (.agg (blk g (len / 64) s).vals) ∧ Below w.heap.size w w' := by
  unfold maxLen at hcapm
  have h1lt : 1 < w.heap.size := World.block_lt_of_cell? w _ (hT 0 (by omega))
  have HC : Hid (Bytes w b off len g) := hc
  have HT : Hid (Tab w) := hT
  clear hc hT
  go_enter Tryd.func48, Tryd.ntmps48
  go_wp2
  go_loopw [5] (fun i wr => ∃ k : Nat, k ≤ len / 64 ∧ i = .int .i64 (64 * (k : Int)) ∧ Hid (wr.heap[w.heap.size]? = some (.cells (blk g k s).vals 77 (0, 0))) ∧ Hid (wr.heap[w.heap.size + 1]? = some (.cells #[.int .u32 0, .int .u32 0, .int .u32 0, .int .u32 0, .int .u32 0, .int .u32 0, .int .u32 0, .int .u32 0] 77 (0, 0))) ∧ Hid (Below w.heap.size w wr))
    (fun i _ => len - (intOf i).toNat)
  case atStart => exact ⟨0, by omega, rfl, heap_alloc2_old w _ _, heap_alloc2_new w _ _, ((Below.refl _ _).alloc (Nat.le_refl _) _).alloc (by show _ ≤ (w.heap.push _).size; simp) _⟩
  case round =>
    obtain ⟨k, hk, rfl, hg, hg1, hbel⟩ := hrel
    by_cases hlt : 64 * k + 64 ≤ len
    · obtain ⟨σ, hσ⟩ : ∃ σ, blk g k s = σ := ⟨_, rfl⟩
      rw [hσ] at hg
      have hs' : Hid (blk g (k + 1) s = tk σ (fun i => g (64 * k + i))) := by show tk (blk g k s) _ = _; rw [hσ]
      clear hσ
      obtain ⟨c0, c1, c2, c3, c4, c5, c6, c7, _⟩ := cells8 hg.out
      have hB1 : w.heap.size + 1 < wr.heap.size := by
        have := hg1.out
        rcases Nat.lt_or_ge (w.heap.size + 1) wr.heap.size with h | h
        · exact h
        · rw [Array.getElem?_eq_none h] at this; cases this
      obtain ⟨τ, hτ⟩ : ∃ τ, tk σ (fun i => g (64 * k + i)) = τ := ⟨_, rfl⟩
      have TK : Hid (Calls Tryd.prog 58 #[.agg #[.int .u32 (U σ.a), .int .u32 (U σ.b), .int .u32 (U σ.c), .int .u32 (U σ.d), .int .u32 (U σ.e), .int .u32 (U σ.f), .int .u32 (U σ.g), .int .u32 (U σ.h)], .slice (some ⟨b, off + 64 * k, none⟩) 64 (cap - 64 * k)] wr.drew fun e w' => e = .returned (.agg #[.int .u32 (U τ.a), .int .u32 (U τ.b), .int .u32 (U τ.c), .int .u32 (U τ.d), .int .u32 (U τ.e), .int .u32 (U τ.f), .int .u32 (U τ.g), .int .u32 (U τ.h)]) ∧ Hid (w'.heap[w.heap.size]? = some (.cells σ.vals 77 (0, 0))) ∧ Hid (w'.heap[w.heap.size + 1]? = some (.cells #[.int .u32 0, .int .u32 0, .int .u32 0, .int .u32 0, .int .u32 0, .int .u32 0, .int .u32 0, .int .u32 0] 77 (0, 0))) ∧ Hid (Below w.heap.size w w')) := by
        refine (take_any σ b (off + 64 * k) (cap - 64 * k) (fun i => g (64 * k + i)) wr.drew (by omega) ?_ ?_).mono ?_
        · intro i hi
          show wr.cell? _ = _
          rw [Nat.add_assoc, hbel.out.cell (p := ⟨b, off + (64 * k + i), none⟩) hb]
          exact HC.out _ (by omega)
        · intro i hi
          show wr.cell? _ = _
          rw [hbel.out.cell (p := ⟨1, i, none⟩) h1lt]
          exact HT.out i hi
        · rintro e w' ⟨rfl, hb'⟩
          refine ⟨?_, (hb'.block _ (by show _ < wr.heap.size; omega)).trans hg.out, (hb'.block _ (by show _ < wr.heap.size; omega)).trans hg1.out, hbel.out.drew.trans (hb'.mono hbel.out.size)⟩
          rw [hτ]
          rfl
      rw [hτ] at hs'
      clear hτ
      have l0 : (0 : Int) ≤ 64 * (k : Int) := by omega
      have l1 : 64 * (k : Int) ≤ 64 * (k : Int) + 64 := by omega
      have l2 : 64 * (k : Int) + 64 ≤ (cap : Int) := by omega
      have l3 : (64 * (k : Int)).toNat = 64 * k := by omega
      have l4 : (64 * (k : Int) + 64).toNat = 64 * k + 64 := by omega
      have l5 : IntKind.i64.wrap (64 * (k : Int) + 64) = 64 * (k : Int) + 64 := wrap_small _ (by omega) (by omega)
      have l6 : 64 * k + 64 - 64 * k = 64 := by omega
      go_wp2_with fail
      go_region_with ((go_at_call 58; go_fit TK.out; rintro e w' ⟨rfl, hg', hg1', hb'⟩; obtain ⟨d0, d1, d2, d3, d4, d5, d6, d7, d8⟩ := cells8 hg'.out))
      change Exit.inBlock _ _ _ _ (set8 w' w.heap.size τ)
      have e1 : Hid ((set8 w' w.heap.size τ).heap[w.heap.size]? = some (.cells (blk g (k + 1) s).vals 77 (0, 0))) := by rw [hs'.out]; exact set8_same τ hg'.out
      have e2 : Hid _ := (set8_other (w := w') (B := w.heap.size) τ (w.heap.size + 1) (by omega)).trans hg1'.out
      have e3 : Hid _ := set8_below (B := w.heap.size) τ (Nat.le_refl _) hb'.out
      clear hg hg1 hbel hg' hg1' hb' d0 d1 d2 d3 d4 d5 d6 d7 d8 c0 c1 c2 c3 c4 c5 c6 c7 TK
      go_wp2
      go_roundw
      case rel => exact ⟨k + 1, by omega, by go_num, e1, e2, e3⟩
      case measure => simp [intOf]; omega
    · have hk2 : k = len / 64 := by omega
      have hlt' : ¬ (64 * (k : Int) + 64 ≤ (len : Int)) := by omega
      rw [hk2] at hg
      clear hk2
      obtain ⟨σ, hσ⟩ : ∃ σ, blk g (len / 64) s = σ := ⟨_, rfl⟩
      rw [hσ] at hg
      have hs' : Hid (blk g (len / 64) s = σ) := hσ
      clear hσ
      go_wp2_with (first
        | (refine wpList_load_row rfl 77 _ rfl w.heap.size rfl 77 _ (0, 0) _ hg.out Tryd.underlying77 rfl (size31v _) ?_)
        | (refine wpList_store_row rfl 77 _ _ rfl (w.heap.size + 1) _ rfl rfl 77 _ hg1.out (size31v σ) rfl (vals_one _) ?_))
      refine bodyPost_ret (v := .agg (blk g (len / 64) s).vals) ?_ rfl ⟨rfl, below_setRow hbel.out (by omega) _⟩
      rw [hs'.out]
      exact results_cell_row Tryd.results48 _ _ (w.heap.size + 1) 77 _ (0, 0) _ rfl (setRow_heap _ _ _ _ _ _ hg1.out) Tryd.underlying77 rfl (size31v _)
end Go.Proofs.YtdgfbbaddoghaaaDoor.Sha
