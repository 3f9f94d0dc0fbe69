/- The walk of the statement on known answers. -/
import Derived.Test.YtjjpfckmbjgfbaaDoorC
import Derived.Lib.SlBytesConst
namespace Go.Proofs.YtjjpfckmbjgfbaaDoor
open Go.RowKit

theorem hex_list (l : List UInt8) (h : List UInt8) (w : World) (hl : l.length ≤ 1000) (hh : hexOf l = h) :
    Calls Tryd.prog 12 #[.string ⟨l.toArray⟩] w fun e w' => e = .returned (.string ⟨h.toArray⟩) ∧ Below w.heap.size w w' := by
  have := hex_any ⟨l.toArray⟩ w (by show l.length ≤ _; omega)
  rw [← hh]
  exact this

theorem conv_const (w : World) (C : Array Value) (n c : Nat) : (convert 22 22 (.slice (some ⟨w.heap.size, 0, none⟩) n c)).run Tryd.prog (w.alloc (.cells C 5)) = .ok (.slice (some ⟨w.heap.size, 0, none⟩) n c) (w.alloc (.cells C 5 (C.size, C.size + 1))) :=
  Lib.run_convert_bytes_const w 22 5 C n c Tryd.underlying22 Tryd.underlying5
theorem conv_const2 (w : World) (D : Obj) (C : Array Value) (n c : Nat) : (convert 22 22 (.slice (some ⟨w.heap.size + 1, 0, none⟩) n c)).run Tryd.prog ((w.alloc D).alloc (.cells C 5)) = .ok (.slice (some ⟨w.heap.size + 1, 0, none⟩) n c) ((w.alloc D).alloc (.cells C 5 (C.size, C.size + 1))) := by
  have h := conv_const (w.alloc D) C n c
  have e : (w.alloc D).heap.size = w.heap.size + 1 := by show (w.heap.push D).size = _; simp
  rwa [e] at h
theorem made_bv (q : Nat) : madeCells #[.int .u8 0] q = (bv (List.replicate q 0)).toArray := by
  apply Array.ext_getElem?
  intro i
  unfold madeCells bv
  by_cases h : i < q
  · simp [h]
    rw [Nat.mod_one]
    rfl
  · rw [Array.getElem?_eq_none (by simp; omega), Array.getElem?_eq_none (by simp; omega)]

set_option maxHeartbeats 1000000 in
set_option maxRecDepth 100000 in
theorem known_walk (n : Int) (w : World) (hT : Tab w) (hF : Fst w) :
    Calls Tryd.prog 5 #[.int .i64 n] w fun e w' => e = .returned (.bool true) ∧ Below w.heap.size w w' := by
  obtain ⟨i0, hi, hz0, hz1, hz2⟩ := info_parts info5
  obtain ⟨q, hq, hand⟩ := and63 n
  have hcv := conv_const
  have hcv2 := conv_const2
  have HT := keep hT
  have HF := keep hF
  clear hT hF
  go_enter Tryd.func5, Tryd.ntmps5
  go_wp2_with fail
  have b0 := keep ((Below.refl w.heap.size w).alloc (Nat.le_refl _) (.cells (bv [97, 98, 99]).toArray 5 (3, 4)))
  refine (sum_any (some ⟨w.heap.size, 0, none⟩) 3 3 [97, 98, 99] _ (by omega) (by unfold maxLen; omega) (HT.out.below b0.out) (HF.out.below b0.out) (Src.block (heap_alloc_new w _) rfl)).mono ?_
  rintro e w1 ⟨rfl, hb1⟩
  have b1 := keep (b0.out.trans (hb1.mono b0.out.size))
  clear hb1 b0
  go_wp2_with fail
  refine (hex_list (sum [97, 98, 99]) _ w1 (by rw [sum_length]; omega) known_abc).mono ?_
  rintro e w2 ⟨rfl, hb2⟩
  have b2 := keep (b1.out.trans (hb2.mono b1.out.size))
  clear hb2 b1
  go_wp2_with fail
  refine (sum_any none 0 0 [] w2 (by omega) (by unfold maxLen; omega) (HT.out.below b2.out) (HF.out.below b2.out) (Src.empty (fun _ => rfl))).mono ?_
  rintro e w3 ⟨rfl, hb3⟩
  have b3 := keep (b2.out.trans (hb3.mono b2.out.size))
  clear hb3 b2
  go_wp2_with fail
  refine (hex_list (sum []) _ w3 (by rw [sum_length]; omega) known_none).mono ?_
  rintro e w4 ⟨rfl, hb4⟩
  have b4 := keep (b3.out.trans (hb4.mono b3.out.size))
  clear hb4 b3
  go_wp2_with fail
  have b5 := keep ((b4.out.alloc b4.out.size (.cells (bv jefe).toArray 5 (4, 5))).alloc (by have := b4.out.size; simp; omega) (.cells (bv what).toArray 5 (28, 29)))
  have b45 := keep (((Below.refl w4.heap.size w4).alloc (Nat.le_refl _) (.cells (bv jefe).toArray 5 (4, 5))).alloc (by simp) (.cells (bv what).toArray 5 (28, 29)))
  refine (mac_any (some ⟨w4.heap.size, 0, none⟩) 4 4 jefe (some ⟨w4.heap.size + 1, 0, none⟩) 28 28 what _ (by omega) (by unfold maxLen; omega) (by omega) (HT.out.below b5.out) (HF.out.below b5.out) (Src.block (heap_alloc2_old w4 _ _) rfl) (Src.block (heap_alloc2_new w4 _ _) rfl)).mono ?_
  rintro e w5 ⟨rfl, hb5⟩
  have b6 := keep (b5.out.trans (hb5.mono b5.out.size))
  clear hb5 b5 b4 b45
  go_wp2_with fail
  refine (hex_list (mac jefe what) _ w5 (by unfold mac; rw [sum_length]; omega) known_mac).mono ?_
  rintro e w6 ⟨rfl, hb6⟩
  have b7 := keep (b6.out.trans (hb6.mono b6.out.size))
  clear hb6 b6
  have hmk : ∀ (u : World) (k : Nat), k ≤ 64 → (Instr.makeSlice 22 (.int .i64 (k : Int)) (.int .i64 (k : Int))).run Tryd.prog u = .ok (.slice (some ⟨u.heap.size, 0, none⟩) k k) (u.alloc (.cells (bv (List.replicate k 0)).toArray 5)) := fun u k hk => by
    have h := run_make (P := Tryd.prog) u 22 5 i0 (.int .u8 0) Tryd.underlying22 hi hz0 .i64 .i64 (k : Int) (k : Int) (by omega) (Int.le_refl _) (by rw [hz2]; omega) (by omega)
    rw [Int.toNat_natCast] at h
    rw [← made_bv]
    simpa [hz1, Value.cells] using h
  have hmk1 := fun u => hmk u q (by omega)
  have hmk2 : ∀ u : World, (Instr.makeSlice 22 (.int .i64 64) (.int .i64 64)).run Tryd.prog u = .ok (.slice (some ⟨u.heap.size, 0, none⟩) 64 64) (u.alloc (.cells (bv (List.replicate 64 0)).toArray 5)) := fun u => hmk u 64 (by omega)
  clear hmk
  obtain ⟨Lq, hLq⟩ : ∃ Lq, List.replicate q (0 : UInt8) = Lq := ⟨_, rfl⟩
  obtain ⟨L64, hL64⟩ : ∃ L64, List.replicate 64 (0 : UInt8) = L64 := ⟨_, rfl⟩
  rw [hLq] at hmk1
  rw [hL64] at hmk2
  have hq1 : Lq.length = q := by rw [← hLq, List.length_replicate]
  have hq2 : L64.length = 64 := by rw [← hL64, List.length_replicate]
  have hmm : mac Lq [120] = mac L64 [120] := by rw [← hLq, ← hL64]; exact mac_rep q (by omega) _
  clear hLq hL64
  have HM := keep hmm
  clear hmm
  go_wp2_with fail
  have b8 := keep ((b7.out.alloc b7.out.size (.cells (bv Lq).toArray 5)).alloc (by have := b7.out.size; simp; omega) (.cells (bv [120]).toArray 5 (1, 2)))
  refine (mac_any (some ⟨w6.heap.size, 0, none⟩) q q Lq (some ⟨w6.heap.size + 1, 0, none⟩) 1 1 [120] _ (by omega) (by unfold maxLen; omega) (by omega) (HT.out.below b8.out) (HF.out.below b8.out) (Src.block (heap_alloc2_old w6 _ _) hq1) (Src.block (heap_alloc2_new w6 _ _) rfl)).mono ?_
  rintro e w7 ⟨rfl, hb7⟩
  have b9 := keep (b8.out.trans (hb7.mono b8.out.size))
  clear hb7 b8 b7
  rw [HM.out]
  go_wp2_with fail
  have b10 := keep ((b9.out.alloc b9.out.size (.cells (bv L64).toArray 5)).alloc (by have := b9.out.size; simp; omega) (.cells (bv [120]).toArray 5 (1, 2)))
  refine (mac_any (some ⟨w7.heap.size, 0, none⟩) 64 64 L64 (some ⟨w7.heap.size + 1, 0, none⟩) 1 1 [120] _ (by omega) (by unfold maxLen; omega) (by omega) (HT.out.below b10.out) (HF.out.below b10.out) (Src.block (heap_alloc2_old w7 _ _) hq2) (Src.block (heap_alloc2_new w7 _ _) rfl)).mono ?_
  rintro e w8 ⟨rfl, hb8⟩
  have b11 := keep (b10.out.trans (hb8.mono b10.out.size))
  clear hb8 b10 b9 HM
  generalize mac L64 [120] = mm
  go_wp2
  go_ret
  exact ⟨by simp, b11.out⟩
end Go.Proofs.YtjjpfckmbjgfbaaDoor
