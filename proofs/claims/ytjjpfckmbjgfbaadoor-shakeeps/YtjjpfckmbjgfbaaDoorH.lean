/- sha.Mac of any key and bytes: its contract. -/
import Derived.Test.YtjjpfckmbjgfbaaDoorG
namespace Go.Proofs.YtjjpfckmbjgfbaaDoor
open Go.RowKit

def mac (key b : List UInt8) : List UInt8 := sum (padl (kb key) 92 ++ sum (padl (kb key) 54 ++ b))
theorem pad36 (k : Nat → UInt8) (w : World) : Calls Tryd.prog 18 #[.agg (rowL 64 (rowB k)), .int .u8 54] w fun e w' => e = .returned (.slice (some ⟨w.heap.size, 0, none⟩) 64 64) ∧ Src w' (some ⟨w.heap.size, 0, none⟩) 64 64 (padl k 54) ∧ Below w.heap.size w w' := pad_any k 54 w
theorem pad5c (k : Nat → UInt8) (w : World) : Calls Tryd.prog 18 #[.agg (rowL 64 (rowB k)), .int .u8 92] w fun e w' => e = .returned (.slice (some ⟨w.heap.size, 0, none⟩) 64 64) ∧ Src w' (some ⟨w.heap.size, 0, none⟩) 64 64 (padl k 92) ∧ Below w.heap.size w w' := pad_any k 92 w

set_option maxHeartbeats 1000000 in
set_option maxRecDepth 100000 in
theorem mac_any (ao : Option Addr) (m c : Nat) (key : List UInt8) (ao2 : Option Addr) (m2 c2 : Nat) (l : List UInt8) (w : World) (hm : m ≤ 140737488355328) (hc : c ≤ maxLen) (hm2 : m2 ≤ 140737488351232) (hT : Tab w) (hF : Fst w) (hs : Src w ao m c key) (hs2 : Src w ao2 m2 c2 l) :
    Calls Tryd.prog 10 #[.slice ao m c, .slice ao2 m2 c2] w fun e w' => e = .returned (.string ⟨(mac key l).toArray⟩) ∧ Below w.heap.size w w' := by
  obtain ⟨i0, hi, hz0, hz1, hz2⟩ := info_parts info5
  have h0lt : 1 < w.heap.size := World.block_lt_of_cell? w _ (hT 0 (by omega))
  have HT := keep hT
  have HF := keep hF
  have HS2 := keep hs2
  clear hT hF hs2
  go_enter Tryd.func10, Tryd.ntmps10
  go_wp2_with fail
  refine (keyBlock_any ao m c key w hm hc HT.out HF.out hs).mono ?_
  rintro e w1 ⟨rfl, hb1⟩
  have hb1' := keep hb1
  clear hb1 hs
  go_wp2_with (first
    | (refine wpList_store_row rfl 39 _ _ rfl w1.heap.size _ rfl rfl 39 _ (heap_alloc_new w1 _) (by rw [rowL_size]; exact size39) (by rw [rowL_size]; rfl) (rowL_one _ _ (fun _ => rfl)) ?_; rw [World.setRow_alloc_new]; have hK := keep (heap_alloc_new w1 (.cells (rowL 64 (rowB (kb key))) 39)); have hbx := keep (hb1'.out.alloc hb1'.out.size (.cells (rowL 64 (rowB (kb key))) 39)); have hBx : w1.heap.size < (w1.alloc (.cells (rowL 64 (rowB (kb key))) 39)).heap.size := (by simp); generalize w1.alloc (.cells (rowL 64 (rowB (kb key))) 39) = wx at hK hbx hBx ⊢; go_frame)
    | (refine wpList_load_row rfl 39 _ rfl w1.heap.size rfl 39 _ (0, 0) _ hK.out Tryd.underlying39 rfl (by rw [rowL_size]; exact size39) ?_))
  refine (pad36 (kb key) wx).mono ?_
  rintro e w2 ⟨rfl, hp2, hb2⟩
  have hp2' := keep hp2
  have hb2' := keep (hbx.out.trans (hb2.mono hbx.out.size))
  have hK2 := keep ((hb2.block w1.heap.size hBx).trans hK.out)
  clear hp2 hb2 hK hb1'
  go_wp2_with (at_builtin; refine wpList_append_full rfl _ _ 22 22 rfl i0 _ Tryd.underlying22 hi hz0 hz1 hz2 _ 64 m2 _ l _ rfl hp2'.out rfl ((HS2.out.below hb2'.out).go Tryd.underlying22) (by omega) ?_; intro ao3 c3 w3 hs3 hc3 hb3)
  have hs3' := keep hs3
  have hb3' := keep (hb2'.out.trans (hb3.mono hb2'.out.size))
  have hsz2 : w1.heap.size < w2.heap.size := by
    rcases Nat.lt_or_ge w1.heap.size w2.heap.size with h | h
    · exact h
    · have := hK2.out; rw [Array.getElem?_eq_none h] at this; cases this
  have hK3 := keep ((hb3.block w1.heap.size hsz2).trans hK2.out)
  clear hs3 hb3 hK2
  refine (sum_any ao3 (64 + m2) c3 _ w3 (by omega) hc3 (HT.out.below hb3'.out) (HF.out.below hb3'.out) hs3'.out).mono ?_
  rintro e w4 ⟨rfl, hb4⟩
  have hb4' := keep (hb3'.out.trans (hb4.mono hb3'.out.size))
  have hsz3 : w1.heap.size < w3.heap.size := by
    rcases Nat.lt_or_ge w1.heap.size w3.heap.size with h | h
    · exact h
    · have := hK3.out; rw [Array.getElem?_eq_none h] at this; cases this
  have hK4 := keep ((hb4.block w1.heap.size hsz3).trans hK3.out)
  clear hb4 hK3 hs3' hp2'
  obtain ⟨inn, hinn⟩ : ∃ inn, sum (padl (kb key) 54 ++ l) = inn := ⟨_, rfl⟩
  rw [hinn]
  have hil : inn.length = 32 := by rw [← hinn]; exact sum_length _
  have hfin : Hid (mac key l = sum (padl (kb key) 92 ++ inn)) := by unfold mac; rw [hinn]; rfl
  clear hinn
  go_wp2_with (refine wpList_load_row rfl 39 _ rfl w1.heap.size rfl 39 _ (0, 0) _ hK4.out Tryd.underlying39 rfl (by rw [rowL_size]; exact size39) ?_)
  refine (pad5c (kb key) w4).mono ?_
  rintro e w5 ⟨rfl, hp5, hb5⟩
  have hp5' := keep hp5
  have hb5' := keep (hb4'.out.trans (hb5.mono hb4'.out.size))
  clear hp5 hb5
  go_wp2_with (at_builtin; refine wpList_append_full rfl _ _ 22 9 rfl i0 _ Tryd.underlying22 hi hz0 hz1 hz2 _ 64 32 _ inn _ rfl hp5'.out rfl (src_string Tryd.underlying9 inn 32 hil) (by omega) ?_; intro ao6 c6 w6 hs6 hc6 hb6)
  have hb6' := keep (hb5'.out.trans (hb6.mono hb5'.out.size))
  refine (sum_any ao6 (64 + 32) c6 _ w6 (by omega) hc6 (HT.out.below hb6'.out) (HF.out.below hb6'.out) hs6).mono ?_
  rintro e w7 ⟨rfl, hb7⟩
  clear hs6
  go_wp2
  go_ret
  exact ⟨by rw [hfin.out]; rfl, hb6'.out.trans (hb7.mono hb6'.out.size)⟩
end Go.Proofs.YtjjpfckmbjgfbaaDoor
