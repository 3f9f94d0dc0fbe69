/- The walk of sha.keyBlock. -/
import Derived.Test.YtjjpfckmbjgfbaaDoorQ
import Derived.Lib.LazyBuf
namespace Go.Proofs.YtjjpfckmbjgfbaaDoor
open Go.RowKit

/-- A key's 64 bytes. -/
def kb (key : List UInt8) (j : Nat) : UInt8 := fn (if 64 < key.length then sum key else key) j
theorem kb_zero (l : List UInt8) (j : Nat) (h : l.length ≤ j) : fn l j = 0 := by
  unfold fn
  rw [List.getD_eq_getElem?_getD, List.getElem?_eq_none h]
  rfl
/-- The row behind the copy. -/
theorem row_copied {w : World} {b : Nat} {l : List UInt8} (h : w.rowIs b 39 64 (fun _ => .int .u8 0)) (k : Nat → UInt8) (hk : ∀ j, k j = fn l j) : (w.setCells b 0 (bv l)).rowIs b 39 64 (rowB k) :=
  (rowIs_setCells (bv l) 0 w _ h).congr (fun j _ => by
    unfold rowB
    rw [hk j, bv_length]
    by_cases hj : j < l.length
    · rw [if_pos ⟨Nat.zero_le _, by omega⟩, Nat.sub_zero, bv_at l j hj]; rfl
    · rw [if_neg (by omega), kb_zero l j (by omega)]; rfl)
def zl : List Value := List.replicate 64 (Value.int .u8 0)
def z64 : Array Value := zl.toArray
theorem row_spliced {w : World} {b : Nat} {l : List UInt8} (hl : l.length ≤ 64) (h : w.heap[b]? = some (.cells (splice zl 0 (bv l)).toArray 39 (0, 0))) (k : Nat → UInt8) (hk : ∀ j, k j = fn l j) : w.rowIs b 39 64 (rowB k) := by
  have hlen : (splice zl 0 (bv l)).length = 64 := by rw [length_splice _ _ _ (by rw [bv_length]; show 0 + l.length ≤ 64; omega)]; rfl
  refine ⟨_, h, by rw [List.size_toArray, hlen], fun i hi => ?_⟩
  rw [List.getElem?_toArray]
  unfold splice rowB zl
  rw [List.take_zero, List.nil_append, hk i]
  by_cases hj : i < l.length
  · rw [List.getElem?_append_left (by rw [bv_length]; exact hj), bv_at l i hj]
  · rw [List.getElem?_append_right (by rw [bv_length]; omega), kb_zero l i (by omega), bv_length, List.getElem?_drop, List.getElem?_replicate, if_pos (by omega)]
    rfl
theorem src_pos {w w' : World} {ao : Option Addr} {m c : Nat} {key : List UInt8} (hs : Src w ao m c key) (hb : Below w.heap.size w w') : 0 < (bv key).length → ∃ ad, ao = some ad ∧ ∀ j v, (bv key)[j]? = some v → w'.cell? (ad.add j) = some v := by
  intro h
  rw [bv_length, hs.len] at h
  obtain ⟨b, off, rfl, _, _⟩ := hs.form h
  exact ⟨_, rfl, (hs.below hb).cells _ rfl⟩
theorem sz5 : ∀ w, (Go.sizeOf 5).run Tryd.prog w = .ok 1 w := fun w => by kernel_rfl
theorem inf5 : (Tryd.prog.info? 5).map (·.size) = some 1 := by kernel_rfl


set_option maxHeartbeats 1000000 in
set_option maxRecDepth 100000 in
theorem keyBlock_long (ao : Option Addr) (m c : Nat) (key : List UInt8) (w : World) (h64 : 64 < m) (hm : m ≤ 140737488355328) (hc : c ≤ maxLen) (hT : Tab w) (hF : Fst w) (hs : Src w ao m c key) :
    Calls Tryd.prog 17 #[.slice ao m c] w fun e w' => e = .returned (.agg (rowL 64 (rowB (kb key)))) ∧ Below w.heap.size w w' := by
  go_enter Tryd.func17, Tryd.ntmps17
  go_wp2_with fail
  change Code.wp _ _ _ _ ((w.alloc (.cells z64 39)).alloc (.cells z64 39))
  obtain ⟨wx, hwx⟩ : ∃ wx, wx = (w.alloc (.cells z64 39)).alloc (.cells z64 39) := ⟨_, rfl⟩
  rw [← hwx]
  have hr1 : Hid (wx.rowIs (w.heap.size + 1) 39 64 (fun _ => .int .u8 0)) := by rw [hwx]; exact rowIs_rep (heap_alloc2_new w _ _) rfl
  have hr0 : Hid (wx.rowIs w.heap.size 39 64 (fun _ => .int .u8 0)) := by rw [hwx]; exact rowIs_rep (heap_alloc2_old w _ _) rfl
  have hbel : Hid (Below w.heap.size w wx) := by rw [hwx]; exact ((Below.refl _ _).alloc (Nat.le_refl _) _).alloc (by show _ ≤ (w.heap.push _).size; simp) _
  have hsx : w.heap.size + 2 = wx.heap.size := by rw [hwx]; simp
  clear hwx
  have KS := keep (sum_any ao m c key wx.drew hm hc ((hT.below hbel.out).below (Below.refl _ _).drew) ((hF.below hbel.out).below (Below.refl _ _).drew) ((hs.below hbel.out).below (Below.refl _ _).drew))
  obtain ⟨sm, hsm⟩ : ∃ sm, sum key = sm := ⟨_, rfl⟩
  rw [hsm] at KS
  have hsl : sm.length = 32 := by rw [← hsm]; exact sum_length key
  have hkb : Hid (∀ j, kb key j = fn sm j) := fun j => by unfold kb; rw [if_pos (by rw [hs.len]; exact h64), hsm]
  clear hsm hT hF
  have hbs : (⟨sm.toArray⟩ : ByteArray).size = 32 := hsl
  go_region_held3 (fun _ => True) (trivial) (first | (go_at_call 8; go_fit KS.out; rintro e w1 ⟨rfl, hb1⟩; have hb1' := keep hb1; clear hb1; have hr1' := keep (hr1.out.of_block (hb1'.out.block (w.heap.size + 1) (by show _ < wx.heap.size; omega)))) | (refine step_copy_string (by rfl) _ _ 22 9 (by rfl) 5 Tryd.underlying22 sz5 (w.heap.size + 1) 0 64 64 (by rfl) ⟨sm.toArray⟩ (by rfl) (by omega) (fun j hj => by rw [Nat.zero_add, hr1'.out.cell (by omega)]; rfl) (fun j hj => hr1'.out.frozen _) ?_))
  change Exit.then _ _ _ _ (w1.setCells (w.heap.size + 1) 0 (bv sm))
  have hy1 : Hid ((w1.setCells (w.heap.size + 1) 0 (bv sm)).rowIs (w.heap.size + 1) 39 64 (rowB (kb key))) := row_copied hr1'.out _ hkb.out
  have hy0 : Hid ((w1.setCells (w.heap.size + 1) 0 (bv sm)).rowIs w.heap.size 39 64 (fun _ => .int .u8 0)) := rowIs_setCells_other (by omega) _ _ _ (hr0.out.of_block (hb1'.out.block w.heap.size (by show _ < wx.heap.size; omega)))
  have hyb : Hid (Below w.heap.size w (w1.setCells (w.heap.size + 1) 0 (bv sm))) := below_setCells (by omega) _ _ _ (hbel.out.drew.trans (hb1'.out.mono hbel.out.size))
  generalize w1.setCells (w.heap.size + 1) 0 (bv sm) = wy at hy1 hy0 hyb ⊢
  clear hr1 hr0 hr1' hbel hb1' KS
  have hh2 : Hid _ := rowIs_heap hy1.out
  have hh0 : Hid _ := rowIs_heap hy0.out
  go_wp2_with (first
    | (refine wpList_load_row rfl 39 _ rfl (w.heap.size + 1) rfl 39 _ (0, 0) _ hh2.out Tryd.underlying39 rfl (by rw [rowL_size]; exact size39) ?_)
    | (refine wpList_store_row rfl 39 _ _ rfl w.heap.size _ rfl rfl 39 _ hh0.out (by rw [rowL_size]; exact size39) (by rw [rowL_size, rowL_size]) (rowL_one _ _ (fun _ => rfl)) ?_))
  refine bodyPost_ret (v := .agg (rowL 64 (rowB (kb key)))) ?_ rfl ⟨rfl, below_setRow hyb.out (Nat.le_refl _) _⟩
  exact results_cell_row Tryd.results17 _ _ w.heap.size 39 _ (0, 0) _ rfl (setRow_heap _ _ _ _ _ _ hh0.out) Tryd.underlying39 rfl (by rw [rowL_size]; exact size39)

set_option maxHeartbeats 1000000 in
set_option maxRecDepth 100000 in
theorem keyBlock_short (ao : Option Addr) (m c : Nat) (key : List UInt8) (w : World) (h64 : m ≤ 64) (hs : Src w ao m c key) :
    Calls Tryd.prog 17 #[.slice ao m c] w fun e w' => e = .returned (.agg (rowL 64 (rowB (kb key)))) ∧ Below w.heap.size w w' := by
  have hll := hs.len
  have hkb : Hid (∀ j, kb key j = fn key j) := fun j => by unfold kb; rw [if_neg (by omega)]
  have HS := keep hs
  clear hs
  go_enter Tryd.func17, Tryd.ntmps17
  go_wp2_with (first
    | (refine wpList_copy_splice rfl _ _ 22 22 rfl 5 Tryd.underlying22 inf5 _ _ 64 64 m c rfl rfl (w.heap.size + 1) 0 zl 39 (heap_alloc2_new w _ _) (bv key) (by rw [bv_length]; show _ = min m 64; omega) (fun h => ⟨rfl, src_pos HS.out (((Below.refl _ _).alloc (Nat.le_refl _) _).alloc (by show _ ≤ (w.heap.push _).size; simp) _) h⟩) (by rw [bv_length]; show 0 + _ ≤ 64; omega) (bv_one key) (w.heap.size + 1) _ (Below.refl _ _) (Nat.le_refl _) ?_; intro wy hy hyb; have hy1 := keep (row_spliced (by omega) hy.out _ hkb.out); have hy0 : Hid (wy.rowIs w.heap.size 39 64 (fun _ => .int .u8 0)) := rowIs_rep ((hyb.block w.heap.size (by omega)).trans (heap_alloc2_old w _ _)) rfl; have hyb' : Hid (Below w.heap.size w wy) := (((Below.refl _ _).alloc (Nat.le_refl _) _).alloc (by show _ ≤ (w.heap.push _).size; simp) _).trans (hyb.mono (by omega)); have hh2 : Hid _ := rowIs_heap hy1.out; have hh0 : Hid _ := rowIs_heap hy0.out; clear hy hyb)
    | (refine wpList_load_row rfl 39 _ rfl (w.heap.size + 1) rfl 39 _ (0, 0) _ hh2.out Tryd.underlying39 rfl (by rw [rowL_size]; exact size39) ?_)
    | (refine wpList_store_row rfl 39 _ _ rfl w.heap.size _ rfl rfl 39 _ hh0.out (by rw [rowL_size]; exact size39) (by rw [rowL_size, rowL_size]) (rowL_one _ _ (fun _ => rfl)) ?_))
  refine bodyPost_ret (v := .agg (rowL 64 (rowB (kb key)))) ?_ rfl ⟨rfl, below_setRow hyb'.out (Nat.le_refl _) _⟩
  exact results_cell_row Tryd.results17 _ _ w.heap.size 39 _ (0, 0) _ rfl (setRow_heap _ _ _ _ _ _ hh0.out) Tryd.underlying39 rfl (by rw [rowL_size]; exact size39)
theorem keyBlock_any (ao : Option Addr) (m c : Nat) (key : List UInt8) (w : World) (hm : m ≤ 140737488355328) (hc : c ≤ maxLen) (hT : Tab w) (hF : Fst w) (hs : Src w ao m c key) :
    Calls Tryd.prog 17 #[.slice ao m c] w fun e w' => e = .returned (.agg (rowL 64 (rowB (kb key)))) ∧ Below w.heap.size w w' := by
  rcases Nat.lt_or_ge 64 m with h | h
  · exact keyBlock_long ao m c key w h hm hc hT hF hs
  · exact keyBlock_short ao m c key w h hs
end Go.Proofs.YtjjpfckmbjgfbaaDoor
