/- The walk of sha.takeAll where there are no bytes; of sha.Sum. -/
import Derived.Test.YtdgfbbaddoghaaaDoorSxA
import Derived.Test.YtdgfbbaddoghaaaDoorSxE
namespace Go.Proofs.YtdgfbbaddoghaaaDoor.Sha
open Go.RowKit

set_option maxHeartbeats 1000000 in
set_option maxRecDepth 100000 in
theorem takeAll_zero (s : St) (ao : Option Addr) (cap : Nat) (w : World) :
    Calls Tryd.prog 48 #[.agg #[.int .u32 (U s.a), .int .u32 (U s.b), .int .u32 (U s.c), .int .u32 (U s.d), .int .u32 (U s.e), .int .u32 (U s.f), .int .u32 (U s.g), .int .u32 (U s.h)], .slice ao 0 cap] w
      fun e w' => e = .returned (.agg s.vals) ∧ Below w.heap.size w w' := by
  have hg : Hid (((w.alloc (.cells s.vals 77)).alloc (.cells #[.int .u32 0, .int .u32 0, .int .u32 0, .int .u32 0, .int .u32 0, .int .u32 0, .int .u32 0, .int .u32 0] 77)).heap[w.heap.size]? = some (.cells s.vals 77 (0, 0))) := heap_alloc2_old w _ _
  have hg1 : Hid (((w.alloc (.cells s.vals 77)).alloc (.cells #[.int .u32 0, .int .u32 0, .int .u32 0, .int .u32 0, .int .u32 0, .int .u32 0, .int .u32 0, .int .u32 0] 77)).heap[w.heap.size + 1]? = some (.cells #[.int .u32 0, .int .u32 0, .int .u32 0, .int .u32 0, .int .u32 0, .int .u32 0, .int .u32 0, .int .u32 0] 77 (0, 0))) := heap_alloc2_new w _ _
  go_enter Tryd.func48, Tryd.ntmps48
  go_wp2
  refine wp_loop_rounds 1 ?_
  rw [rounds_succ]
  go_wp2_with (first
    | (refine wpList_load_row rfl 77 _ rfl w.heap.size rfl 77 s.vals (0, 0) _ hg.out Tryd.underlying77 rfl (size31v _) ?_)
    | (refine wpList_store_row rfl 77 _ _ rfl (w.heap.size + 1) _ rfl rfl 77 _ hg1.out (size31v s) rfl (vals_one _) ?_))
  refine bodyPost_ret (v := .agg s.vals) ?_ rfl ⟨rfl, below_setRow (((Below.refl _ _).alloc (Nat.le_refl _) _).alloc (by show _ ≤ (w.heap.push _).size; simp) _) (by omega) _⟩
  exact results_cell_row Tryd.results48 _ _ (w.heap.size + 1) 77 _ (0, 0) _ rfl (setRow_heap _ _ _ _ _ _ hg1.out) Tryd.underlying77 rfl (size31v _)

theorem cells8z {w : World} {B : Nat} (h : w.heap[B]? = some (.cells #[.int .u32 0, .int .u32 0, .int .u32 0, .int .u32 0, .int .u32 0, .int .u32 0, .int .u32 0, .int .u32 0] 77 (0, 0))) :
    w.cell? ⟨B, 0, none⟩ = some (.int .u32 0) ∧ w.cell? ⟨B, 1, none⟩ = some (.int .u32 0) ∧ w.cell? ⟨B, 2, none⟩ = some (.int .u32 0) ∧ w.cell? ⟨B, 3, none⟩ = some (.int .u32 0) ∧ w.cell? ⟨B, 4, none⟩ = some (.int .u32 0) ∧ w.cell? ⟨B, 5, none⟩ = some (.int .u32 0) ∧ w.cell? ⟨B, 6, none⟩ = some (.int .u32 0) ∧ w.cell? ⟨B, 7, none⟩ = some (.int .u32 0) ∧ ∀ i, w.frozen? ⟨B, i, none⟩ = false := by
  refine ⟨?_, ?_, ?_, ?_, ?_, ?_, ?_, ?_, fun i => frozen_of_row _ _ _ _ _ h⟩ <;> (rw [cell_of_row _ _ _ _ _ _ h]; rfl)
theorem keep {p : Prop} (h : p) : Hid p := h
def Fst (w : World) : Prop := ∀ i, i < 8 → w.cell? ⟨0, i, none⟩ = some (.int .u32 (U (st0.list.getD i 0)))

set_option maxHeartbeats 1000000 in
set_option maxRecDepth 100000 in
theorem sum_core (ao ao2 : Option Addr) (m c r whole c2 : Nat) (l2 : List UInt8) (σ : St) (w : World) (hm : m ≤ 140737488355328) (hr : m % 64 = r) (hw : m - r = whole) (hT : Tab w) (hF : Fst w)
    (hs1 : ∀ w', (Instr.slice 48 (.slice ao m c) none (some (.int .i64 (whole : Int))) none).run Tryd.prog w' = .ok (.slice ao whole c) w')
    (hs2 : ∀ w', (Instr.slice 48 (.slice ao m c) (some (.int .i64 (whole : Int))) none none).run Tryd.prog w' = .ok (.slice ao2 r c2) w')
    (k1 : ∀ w', Below w.heap.size w w' → Calls Tryd.prog 48 #[.agg #[.int .u32 (U st0.a), .int .u32 (U st0.b), .int .u32 (U st0.c), .int .u32 (U st0.d), .int .u32 (U st0.e), .int .u32 (U st0.f), .int .u32 (U st0.g), .int .u32 (U st0.h)], .slice ao whole c] w' fun e w'' => e = .returned (.agg #[.int .u32 (U σ.a), .int .u32 (U σ.b), .int .u32 (U σ.c), .int .u32 (U σ.d), .int .u32 (U σ.e), .int .u32 (U σ.f), .int .u32 (U σ.g), .int .u32 (U σ.h)]) ∧ Below w'.heap.size w' w'')
    (k2 : Src w ao2 r c2 l2) :
    Calls Tryd.prog 33 #[.slice ao m c] w fun e w' => e = .returned (.string ⟨(blk (fn (tail1 l2 (nz r) ++ be64 (m * 8))) ((r + 1 + nz r + 8) / 64) σ).bytes.toArray⟩) ∧ Below w.heap.size w w' := by
  have f0 : w.cell? ⟨0, 0, none⟩ = some (.int .u32 (U st0.a)) := hF 0 (by omega)
  have f1 : w.cell? ⟨0, 1, none⟩ = some (.int .u32 (U st0.b)) := hF 1 (by omega)
  have f2 : w.cell? ⟨0, 2, none⟩ = some (.int .u32 (U st0.c)) := hF 2 (by omega)
  have f3 : w.cell? ⟨0, 3, none⟩ = some (.int .u32 (U st0.d)) := hF 3 (by omega)
  have f4 : w.cell? ⟨0, 4, none⟩ = some (.int .u32 (U st0.e)) := hF 4 (by omega)
  have f5 : w.cell? ⟨0, 5, none⟩ = some (.int .u32 (U st0.f)) := hF 5 (by omega)
  have f6 : w.cell? ⟨0, 6, none⟩ = some (.int .u32 (U st0.g)) := hF 6 (by omega)
  have f7 : w.cell? ⟨0, 7, none⟩ = some (.int .u32 (U st0.h)) := hF 7 (by omega)
  have h0 : 0 < w.heap.size := World.block_lt_of_cell? w _ f0
  have hwh : (m : Int) - (m : Int) % 64 = (whole : Int) := by omega
  have K1a := keep (k1 w.drew (Below.refl _ _).drew)
  have K1b := keep (k1 (w.alloc (.cells #[.int .u32 0, .int .u32 0, .int .u32 0, .int .u32 0, .int .u32 0, .int .u32 0, .int .u32 0, .int .u32 0] 77)).drew ((Below.refl _ _).alloc (Nat.le_refl _) _).drew)
  clear k1
  go_enter Tryd.func33, Tryd.ntmps33
  go_wp2
  go_region_with (first | (go_at_call 48; go_fit K1a.out; rintro e w1 ⟨rfl, hb1⟩) | (go_at_call 48; go_fit K1b.out; rintro e w1 ⟨rfl, hb1⟩; obtain ⟨d0, d1, d2, d3, d4, d5, d6, d7, d8⟩ := cells8z ((hb1.block w.heap.size (by simp)).trans (heap_alloc_new w _))))
  all_goals first
    | (have hgx := keep (heap_alloc_new w1 (.cells σ.vals 77)); have hbx := keep ((((Below.refl w.heap.size w).drew.trans (hb1.mono (Nat.le_refl _))).alloc hb1.size (.cells σ.vals 77)) : Below w.heap.size w (w1.alloc (.cells σ.vals 77))); change Exit.then _ _ _ _ (w1.alloc (.cells σ.vals 77)); generalize w1.alloc (.cells σ.vals 77) = wx at hgx hbx ⊢; generalize w1.heap.size = B at hgx hbx ⊢; clear hb1)
    | (have hgx := keep (set8_same σ (σ := ⟨0, 0, 0, 0, 0, 0, 0, 0⟩) ((hb1.block w.heap.size (by simp)).trans (heap_alloc_new w _))); have hbx := keep (set8_below (B := w.heap.size) σ (Nat.le_refl _) ((((Below.refl w.heap.size w).alloc (Nat.le_refl _) _).drew).trans (hb1.mono (by simp)))); change Exit.then _ _ _ _ (set8 w1 w.heap.size σ); generalize set8 w1 w.heap.size σ = wx at hgx hbx ⊢; generalize w.heap.size = B at hgx ⊢; clear hb1 d0 d1 d2 d3 d4 d5 d6 d7 d8)
  all_goals
    have hBlt : B < wx.heap.size := by
      rcases Nat.lt_or_ge B wx.heap.size with h | h
      · exact h
      · have := hgx.out; rw [Array.getElem?_eq_none h] at this; cases this
    have hrl : r < 64 := by omega
    obtain ⟨L, hL⟩ : ∃ L, tail1 l2 (nz r) ++ be64 (m * 8) = L := ⟨_, rfl⟩
    obtain ⟨q, hq⟩ : ∃ q, r + 1 + nz r + 8 = q := ⟨_, rfl⟩
    have hq1 : q ≤ 128 := by have := (nz_of r).2.1; have := (nz_of r).1; omega
    have hLq : L.length = q := by rw [← hL, List.length_append, tail1_length, k2.len, ← hq]; rfl
    have KE := keep ((ending_any ao2 r c2 l2 m wx.drew hrl hm ((k2.below hbx.out).below (Below.refl _ _).drew)))
    rw [hL, hq] at KE
    obtain ⟨τ, hτ⟩ : ∃ τ, blk (fn L) (q / 64) σ = τ := ⟨_, rfl⟩
    have KT : Hid (∀ w2 : World, w2.ownsRow wx.heap.size 5 1 (.slice (some ⟨wx.heap.size, 0, none⟩) q 128) q (bv L) → Below wx.heap.size wx.drew w2 → Calls Tryd.prog 48 #[.agg #[.int .u32 (U σ.a), .int .u32 (U σ.b), .int .u32 (U σ.c), .int .u32 (U σ.d), .int .u32 (U σ.e), .int .u32 (U σ.f), .int .u32 (U σ.g), .int .u32 (U σ.h)], .slice (some ⟨wx.heap.size, 0, none⟩) q 128] w2 fun e w' => e = .returned (.agg τ.vals) ∧ Below w2.heap.size w2 w') := by
      intro w2 ho hb2
      have hsb := (Src.owns ho)
      have hlt2 := (ho.lt wx.heap.size rfl).2
      have h1lt : 1 < w.heap.size := World.block_lt_of_cell? w _ (hT 0 (by omega))
      have hwx := hbx.out.size
      rw [← hτ]
      refine takeAll_any σ wx.heap.size 0 q 128 (fn L) w2 (by omega) hq1 (by unfold maxLen; omega) ?_ ?_ hlt2
      · intro i hi
        have := hsb.cells _ rfl i _ (bv_at L i (by omega))
        rwa [Addr.add_mid] at this
      · intro i hi
        rw [hb2.cell (p := ⟨1, i, none⟩) (by show 1 < wx.heap.size; omega)]
        show wx.cell? _ = _
        rw [hbx.out.cell (p := ⟨1, i, none⟩) h1lt]
        exact hT i hi
    have Hfin : Hid (blk (fn (tail1 l2 (nz r) ++ be64 (m * 8))) ((r + 1 + nz r + 8) / 64) σ = τ) := by rw [hL, hq, hτ]; rfl
    obtain ⟨c0, c1, c2', c3, c4, c5, c6, c7, _⟩ := cells8 hgx.out
    clear hτ hL hq hs1 K1a K1b f0 f1 f2 f3 f4 f5 f6 f7 hT hF
    go_wp2_with fail
    go_region_with (first | (go_at_call 50; go_fit KE.out; rintro e w2 ⟨rfl, hown2, hb2⟩; have HO2 := keep hown2; have HB2 := keep hb2; clear hown2 hb2; obtain ⟨e0, e1, e2, e3, e4, e5, e6, e7, _⟩ := cells8 ((HB2.out.block B hBlt).trans hgx.out)) | (go_at_call 48; go_fit (KT.out w2 HO2.out HB2.out); rintro e w3 ⟨rfl, hb3⟩) | (go_at_call 49; go_fit (text_any τ w3); rintro e w4 ⟨rfl, hb4⟩))
    all_goals
      go_wp2
      go_ret
      exact ⟨by rw [Hfin.out]; rfl, ((hbx.out.drew.trans (HB2.out.mono hbx.out.size)).trans (hb3.mono (Nat.le_trans hbx.out.size HB2.out.size))).trans (hb4.mono (Nat.le_trans (Nat.le_trans hbx.out.size HB2.out.size) hb3.size))⟩
end Go.Proofs.YtdgfbbaddoghaaaDoor.Sha
