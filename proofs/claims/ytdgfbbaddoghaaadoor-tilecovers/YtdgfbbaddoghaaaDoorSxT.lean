/- The walk of sha.take. -/
import Derived.Test.YtdgfbbaddoghaaaDoorSxW
namespace Go.Proofs.YtdgfbbaddoghaaaDoor.Sha
open Go.RowKit
attribute [local go_sem] U_add U_add' U_xor U_and U_or byte_U byte_W shl24 shl16 shl8 shl24W shl16W shl8W shr3 shr10 U_not

def St.vals (s : St) : Array Value := #[.int .u32 (U s.a), .int .u32 (U s.b), .int .u32 (U s.c), .int .u32 (U s.d), .int .u32 (U s.e), .int .u32 (U s.f), .int .u32 (U s.g), .int .u32 (U s.h)]
theorem size31 : (Tryd.prog.info? 77).map (·.size) = some 8 := by kernel_rfl
theorem size31v (s : St) : (Tryd.prog.info? 77).map (·.size) = some s.vals.size := size31
theorem vals_one (s : St) : s.vals.all (·.oneCell') = true := all_oneCell_toArray (by
  intro v hv
  simp at hv
  rcases hv with rfl | rfl | rfl | rfl | rfl | rfl | rfl | rfl <;> rfl)
def Bytes (w : World) (b off n : Nat) (f : Nat → UInt8) : Prop := ∀ i, i < n → w.cell? ⟨b, off + i, none⟩ = some (.int .u8 ((f i).toNat : Int))
def Tab (w : World) : Prop := ∀ i, i < 64 → w.cell? ⟨1, i, none⟩ = some (.int .u32 (U (kk i)))

set_option maxHeartbeats 1000000 in
set_option maxRecDepth 100000 in
theorem take_any (s : St) (b off cap : Nat) (f : Nat → UInt8) (w : World) (hcap : 64 ≤ cap) (hc : Bytes w b off 64 f) (hT : Tab w) :
    Calls Tryd.prog 58 #[.agg #[.int .u32 (U s.a), .int .u32 (U s.b), .int .u32 (U s.c), .int .u32 (U s.d), .int .u32 (U s.e), .int .u32 (U s.f), .int .u32 (U s.g), .int .u32 (U s.h)], .slice (some ⟨b, off, none⟩) 64 cap] w
      fun e w' => e = .returned (.agg (tk s f).vals) ∧ Below w.heap.size w w' := by
  go_enter Tryd.func58, Tryd.ntmps58
  go_wp2_with fail
  refine (words_any b off cap f _ hcap ?_).mono ?_
  · intro i hi
    rw [World.cell?_alloc_lt, World.cell?_alloc_lt]
    · exact hc i hi
    · exact World.block_lt_of_cell? w _ (hc i hi)
    · have := World.block_lt_of_cell? w _ (hc i hi); show _ < (w.heap.push _).size; simp at this ⊢; omega
  rintro e w1 ⟨rfl, hb1⟩
  have hs8 : w.heap.size + 2 ≤ w1.heap.size := by have := hb1.size; simpa using this
  go_wp2_with (refine wpList_store_row rfl 91 _ _ rfl w1.heap.size _ rfl rfl 91 _ (heap_alloc_new w1 _) (by rw [rowL_size]; exact size45) (by rw [rowL_size]; rfl) (rowL_one _ _ (fun _ => rfl)) ?_)
  rw [World.setRow_alloc_new]
  have hwx : ∃ wx, wx = w1.alloc (.cells (rowL 64 (rowW f 64)) 91) := ⟨_, rfl⟩
  obtain ⟨wx, hwx⟩ := hwx
  rw [← hwx]
  have hrw : Hid (wx.rowIs w1.heap.size 91 64 (rowW f 64)) := by rw [hwx]; exact ⟨_, heap_alloc_new w1 _, rowL_size _ _, fun i hi => rowL_at _ _ i hi⟩
  have hb2 : Hid (Below (w.heap.size + 2) ((w.alloc (.cells s.vals 77)).alloc (.cells #[.int .u32 0, .int .u32 0, .int .u32 0, .int .u32 0, .int .u32 0, .int .u32 0, .int .u32 0, .int .u32 0] 77)) wx) := by
    rw [hwx]; refine (hb1.mono (by simp)).alloc ?_ _; have := hb1.size; simpa using this
  have hS : Hid (wx.heap[w.heap.size]? = some (.cells s.vals 77 (0, 0))) := (hb2.out.block w.heap.size (by omega)).trans (heap_alloc2_old w _ _)
  have hR : Hid (wx.heap[w.heap.size + 1]? = some (.cells #[.int .u32 0, .int .u32 0, .int .u32 0, .int .u32 0, .int .u32 0, .int .u32 0, .int .u32 0, .int .u32 0] 77 (0, 0))) := (hb2.out.block (w.heap.size + 1) (by omega)).trans (heap_alloc2_new w _ _)
  have hbel : Hid (Below w.heap.size w wx) := (((Below.refl _ _).alloc (Nat.le_refl _) _).alloc (by show _ ≤ (w.heap.push _).size; simp) _).trans (hb2.out.mono (by omega))
  have h1lt : 1 < w.heap.size := World.block_lt_of_cell? w _ (hT 0 (by omega))
  have hTx : Hid (Tab wx) := fun i hi => by rw [hbel.out.cell (p := ⟨1, i, none⟩) h1lt]; exact hT i hi
  clear hwx hb1 hb2
  go_frame
  have c0 : wx.cell? ⟨w.heap.size, 0, none⟩ = some (.int .u32 (U s.a)) := by rw [cell_of_row _ _ _ _ _ _ hS.out]; rfl
  have c1 : wx.cell? ⟨w.heap.size, 1, none⟩ = some (.int .u32 (U s.b)) := by rw [cell_of_row _ _ _ _ _ _ hS.out]; rfl
  have c2 : wx.cell? ⟨w.heap.size, 2, none⟩ = some (.int .u32 (U s.c)) := by rw [cell_of_row _ _ _ _ _ _ hS.out]; rfl
  have c3 : wx.cell? ⟨w.heap.size, 3, none⟩ = some (.int .u32 (U s.d)) := by rw [cell_of_row _ _ _ _ _ _ hS.out]; rfl
  have c4 : wx.cell? ⟨w.heap.size, 4, none⟩ = some (.int .u32 (U s.e)) := by rw [cell_of_row _ _ _ _ _ _ hS.out]; rfl
  have c5 : wx.cell? ⟨w.heap.size, 5, none⟩ = some (.int .u32 (U s.f)) := by rw [cell_of_row _ _ _ _ _ _ hS.out]; rfl
  have c6 : wx.cell? ⟨w.heap.size, 6, none⟩ = some (.int .u32 (U s.g)) := by rw [cell_of_row _ _ _ _ _ _ hS.out]; rfl
  have c7 : wx.cell? ⟨w.heap.size, 7, none⟩ = some (.int .u32 (U s.h)) := by rw [cell_of_row _ _ _ _ _ _ hS.out]; rfl
  go_quiet (fail)
  go_wp2
  go_loopw [6, 7, 8, 9, 10, 11, 12, 13, 35] (fun va vb vc vd ve vf vg vh vi wr => ∃ k : Nat, k ≤ 64 ∧ vi = .int .i64 k ∧ va = .int .u32 (U (rnds f k s).a) ∧ vb = .int .u32 (U (rnds f k s).b) ∧ vc = .int .u32 (U (rnds f k s).c) ∧ vd = .int .u32 (U (rnds f k s).d) ∧ ve = .int .u32 (U (rnds f k s).e) ∧ vf = .int .u32 (U (rnds f k s).f) ∧ vg = .int .u32 (U (rnds f k s).g) ∧ vh = .int .u32 (U (rnds f k s).h) ∧ Hid (wr.heap = wx.heap) ∧ Hid (Below w.heap.size w wr))
    (fun _ _ _ _ _ _ _ _ vi _ => 64 - (intOf vi).toNat)
  case atStart => exact ⟨0, by omega, rfl, rfl, rfl, rfl, rfl, rfl, rfl, rfl, rfl, rfl, below_drewN hbel.out _⟩
  case round =>
    clear c0 c1 c2 c3 c4 c5 c6 c7
    obtain ⟨k, hk, rfl, rfl, rfl, rfl, rfl, rfl, rfl, rfl, rfl, hh, hbr⟩ := hrel
    by_cases hlt : k < 64
    · have hk0 : (0 : Int) ≤ (k : Int) := by omega
      have hk1 : (k : Int) < 64 := by omega
      have hcell : ∀ a, wr.cell? a = wx.cell? a := fun a => World.cell?_of_block (by rw [hh.out])
      have ck : wr.cell? ⟨1, k, none⟩ = some (.int .u32 (U (kk k))) := by rw [hcell]; exact hTx.out k hlt
      have cw : wr.cell? ⟨w1.heap.size, k, none⟩ = some (.int .u32 (U (wd f k))) := by rw [hcell, hrw.out.cell hlt, rowW_lt f 64 k hlt]
      clear hcell
      obtain ⟨σ, hσ⟩ : ∃ σ, rnds f k s = σ := ⟨_, rfl⟩
      rw [hσ]
      have hs' : Hid (rnds f (k + 1) s = rnd (kk k) (wd f k) σ) := by show rnd (kk k) (wd f k) (rnds f k s) = _; rw [hσ]
      clear hσ
      go_wp2_with fail
      go_quiet ((go_at_call 63; exact Calls.quiet_of_same (turnI _ _ (by omega) (by omega) _)))
      clear ck cw
      obtain ⟨ws, hws⟩ : ∃ ws, ws = wr.drewN nq := ⟨_, rfl⟩
      rw [← hws]
      have hh' : Hid (ws.heap = wx.heap) := by rw [hws]; exact hh.out
      have hbr' : Hid (Below w.heap.size w ws) := by rw [hws]; exact below_drewN hbr.out nq
      clear hh hbr hws
      go_wp2_with (go_at_call 63; refine (turnI _ _ (by omega) (by omega) _).mono ?_; rintro e w' ⟨rfl, rfl⟩)
      go_roundw
      case rel =>
        refine ⟨k + 1, by omega, by go_num, ?_, ?_, ?_, ?_, ?_, ?_, ?_, ?_, hh', hbr'⟩
        all_goals rw [hs'.out]
        all_goals rfl
      case measure => simp [intOf]; omega
    · have hk2 : k = 64 := by omega
      subst hk2
      have hg : wr.heap[w.heap.size]? = some (.cells s.vals 77 (0, 0)) := by rw [hh.out]; exact hS.out
      have c0 : wr.cell? ⟨w.heap.size, 0, none⟩ = some (.int .u32 (U s.a)) := by rw [cell_of_row _ _ _ _ _ _ hg]; rfl
      have c1 : wr.cell? ⟨w.heap.size, 1, none⟩ = some (.int .u32 (U s.b)) := by rw [cell_of_row _ _ _ _ _ _ hg]; rfl
      have c2 : wr.cell? ⟨w.heap.size, 2, none⟩ = some (.int .u32 (U s.c)) := by rw [cell_of_row _ _ _ _ _ _ hg]; rfl
      have c3 : wr.cell? ⟨w.heap.size, 3, none⟩ = some (.int .u32 (U s.d)) := by rw [cell_of_row _ _ _ _ _ _ hg]; rfl
      have c4 : wr.cell? ⟨w.heap.size, 4, none⟩ = some (.int .u32 (U s.e)) := by rw [cell_of_row _ _ _ _ _ _ hg]; rfl
      have c5 : wr.cell? ⟨w.heap.size, 5, none⟩ = some (.int .u32 (U s.f)) := by rw [cell_of_row _ _ _ _ _ _ hg]; rfl
      have c6 : wr.cell? ⟨w.heap.size, 6, none⟩ = some (.int .u32 (U s.g)) := by rw [cell_of_row _ _ _ _ _ _ hg]; rfl
      have c7 : wr.cell? ⟨w.heap.size, 7, none⟩ = some (.int .u32 (U s.h)) := by rw [cell_of_row _ _ _ _ _ _ hg]; rfl
      have hg1 : Hid (wr.heap[w.heap.size + 1]? = some (.cells #[.int .u32 0, .int .u32 0, .int .u32 0, .int .u32 0, .int .u32 0, .int .u32 0, .int .u32 0, .int .u32 0] 77 (0, 0))) := by rw [hh.out]; exact hR.out
      clear hg
      obtain ⟨σ, hσ⟩ : ∃ σ, rnds f 64 s = σ := ⟨_, rfl⟩
      rw [hσ]
      have hs' : Hid (tk s f = s.add σ) := by show s.add (rnds f 64 s) = _; rw [hσ]
      clear hσ
      go_wp2_with (refine wpList_store_row rfl 77 _ _ rfl (w.heap.size + 1) (s.add σ).vals rfl rfl 77 _ hg1.out (size31v _) rfl (vals_one _) ?_)
      refine bodyPost_ret (v := .agg (tk s f).vals) ?_ rfl ⟨rfl, below_setRow hbr.out (by omega) _⟩
      rw [hs'.out]
      exact results_cell_row Tryd.results58 _ _ (w.heap.size + 1) 77 _ (0, 0) _ rfl (setRow_heap _ _ _ _ _ _ hg1.out) Tryd.underlying77 rfl (size31v _)
end Go.Proofs.YtdgfbbaddoghaaaDoor.Sha
