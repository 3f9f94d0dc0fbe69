/- The walk of awake. -/
import Derived.Test.YtlhblbaingojaabJb
import Derived.Lib.SlBytesConst
namespace Go.Proofs.Ytlhblbaingojaab
open Go.RowKit
open Sk (Ent)

theorem conv_constS (w : World) (C : Array Value) (n c : Nat) : (convert 24 24 (.slice (some ⟨w.heap.size, 0, none⟩) n c)).run Try.prog (w.alloc (.cells C 5)) = .ok (.slice (some ⟨w.heap.size, 0, none⟩) n c) (w.alloc (.cells C 5 (C.size, C.size + 1))) :=
  Lib.run_convert_bytes_const (P := Try.prog) w 24 5 C n c Try.underlying24 Try.underlying5
theorem Src.builtS (w : World) (b : UInt8) : Src (w.alloc (.cells #[.int .u8 (b.toNat : Int)] 5 (1, 2))) (some ⟨w.heap.size, 0, none⟩) 1 1 [b] :=
  Src.mk_bytes rfl (Nat.le_refl _) (fun i hi => by
    obtain rfl : i = 0 := by omega
    rw [cell_of_row _ _ _ _ _ _ (heap_alloc_new w _)]
    rfl)
theorem Src.builtS2 (w : World) (b b' : UInt8) : Src (w.alloc (.cells #[.int .u8 (b.toNat : Int), .int .u8 (b'.toNat : Int)] 5 (2, 3))) (some ⟨w.heap.size, 0, none⟩) 2 2 [b, b'] :=
  Src.mk_bytes rfl (Nat.le_refl _) (fun i hi => by
    rcases (show i = 0 ∨ i = 1 by omega) with rfl | rfl
    · rw [cell_of_row _ _ _ _ _ _ (heap_alloc_new w _)]; rfl
    · rw [cell_of_row _ _ _ _ _ _ (heap_alloc_new w _)]; rfl)
def eX : Ent := ⟨[97], 3, false, [120]⟩
def eY : Ent := ⟨[97, 98], 2, true, []⟩
theorem kn_ok : Bq.okB [eX, eY] = true := by decide
theorem kn_raw : Bq.rawB [eX, eY] = [2, 0, 1, 97, 6, 1, 120, 1, 1, 98, 5, 0] := by decide
theorem kn_len : (Bq.blk [eX, eY]).length = 16 := by unfold Bq.blk; rw [List.length_append, be_length, kn_raw]; rfl
theorem kn_take : (Bq.blk [eX, eY]).take 12 = [2, 0, 1, 97, 6, 1, 120, 1, 1, 98, 5, 0] := by unfold Bq.blk; rw [kn_raw]; rfl
theorem kn_parse : Bq.parse (Bq.blk [eX, eY]) = some [eX, eY] := Bq.parse_blk kn_ok
set_option maxHeartbeats 4000000 in
set_option maxRecDepth 100000 in
theorem awake_any (w : World) : Calls Try.prog 8 #[] w fun e w' => e = .returned (.bool true) ∧ Below w.heap.size w w' := by
  have kc := conv_constS
  obtain ⟨W1, hW1⟩ : ∃ W1, w.alloc (.cells #[.int .u8 97] 5 (1, 2)) = W1 := ⟨_, rfl⟩
  have b1 : Hid (Below w.heap.size w W1) := by rw [← hW1]; exact (Below.refl _ _).alloc (Nat.le_refl _) _
  have S1 : Hid (Src W1 (some ⟨w.heap.size, 0, none⟩) 1 1 [97]) := by rw [← hW1]; exact Src.builtS w 97
  obtain ⟨W2, hW2⟩ : ∃ W2, W1.alloc (.cells #[.int .u8 120] 5 (1, 2)) = W2 := ⟨_, rfl⟩
  have b2 : Hid (Below W1.heap.size W1 W2) := by rw [← hW2]; exact (Below.refl _ _).alloc (Nat.le_refl _) _
  have S2 : Hid (Src W2 (some ⟨W1.heap.size, 0, none⟩) 1 1 [120]) := by rw [← hW2]; exact Src.builtS W1 120
  obtain ⟨W3, hW3⟩ : ∃ W3, W2.alloc (.cells #[.int .u8 97, .int .u8 98] 5 (2, 3)) = W3 := ⟨_, rfl⟩
  have b3 : Hid (Below W2.heap.size W2 W3) := by rw [← hW3]; exact (Below.refl _ _).alloc (Nat.le_refl _) _
  have S3 : Hid (Src W3 (some ⟨W2.heap.size, 0, none⟩) 2 2 [97, 98]) := by rw [← hW3]; exact Src.builtS2 W2 97 98
  obtain ⟨W4, hW4⟩ : ∃ W4, W3.alloc (.cells #[.slice (some ⟨w.heap.size, 0, none⟩) 1 1, .int .i64 3, .bool false, .slice (some ⟨W1.heap.size, 0, none⟩) 1 1, .slice (some ⟨W2.heap.size, 0, none⟩) 2 2, .int .i64 2, .bool true, .slice none 0 0] 36) = W4 := ⟨_, rfl⟩
  have b4 : Hid (Below W3.heap.size W3 W4) := by rw [← hW4]; exact (Below.refl _ _).alloc (Nat.le_refl _) _
  have g4 : Hid (W4.heap[W3.heap.size]? = some (.cells #[.slice (some ⟨w.heap.size, 0, none⟩) 1 1, .int .i64 3, .bool false, .slice (some ⟨W1.heap.size, 0, none⟩) 1 1, .slice (some ⟨W2.heap.size, 0, none⟩) 2 2, .int .i64 2, .bool true, .slice none 0 0] 36)) := by rw [← hW4]; exact heap_alloc_new W3 _
  have R4 : Hid (RSrc entKind W4 (some ⟨W3.heap.size, 0, none⟩) 2 2 [⟨some ⟨w.heap.size, 0, none⟩, 1, some ⟨W1.heap.size, 0, none⟩, 1, eX⟩, ⟨some ⟨W2.heap.size, 0, none⟩, 2, none, 0, eY⟩]) := by
    refine ⟨rfl, Nat.le_refl _, (fun h => by cases h), fun ad had j u hu => ?_, fun e he => ?_⟩
    · cases had
      rw [Addr.add_mid, Nat.zero_add, cell_of_row _ _ _ _ _ _ g4.out]
      rw [← hu, List.getElem?_toArray]
      rfl
    · simp only [List.mem_cons, List.not_mem_nil, or_false] at he
      have b34 := b3.out.trans (b4.out.mono b3.out.size)
      have b24 := b2.out.trans (b34.mono b2.out.size)
      rcases he with rfl | rfl
      · exact ⟨S1.out.below b24, S2.out.below b34⟩
      · exact ⟨S3.out.below b4.out, src_nil _⟩
  have BW := keep (b1.out.trans ((b2.out.trans ((b3.out.trans (b4.out.mono b3.out.size)).mono b2.out.size)).mono b1.out.size))
  have BB := keep (build_any _ 2 2 _ W4 R4.out (fun y hy => by
    simp only [List.mem_cons, List.not_mem_nil, or_false] at hy
    rcases hy with rfl | rfl <;> (simp only [eX, eY, List.length_cons, List.length_nil]; omega)))
  have eL : ([⟨some ⟨w.heap.size, 0, none⟩, 1, some ⟨W1.heap.size, 0, none⟩, 1, eX⟩, ⟨some ⟨W2.heap.size, 0, none⟩, 2, none, 0, eY⟩] : List EV).map (·.e) = [eX, eY] := rfl
  rw [eL] at BB
  clear eL
  go_enter Try.func8, Try.ntmps8
  go_wp2_with fail
  refine BB.out.mono ?_
  rintro e w5 (⟨_, a5, c5, rfl, ho5, hb5⟩ | ⟨hok, _, _⟩)
  · rw [kn_len] at ho5 ⊢
    obtain ⟨_, _, e5, hs5, _⟩ := Src.of_own ho5
    cases e5
    have B5 := keep (BW.out.trans (hb5.mono BW.out.size))
    have PP := keep (parse_any a5 16 c5 _ w5 hs5)
    have S5 := keep hs5
    have hc5 := hs5.cap
    clear ho5 hb5 hs5 BB hW1 hW2 hW3 hW4
    go_wp2_with fail
    refine PP.out.mono ?_
    rintro e w6 (⟨L, a6, c6, ys, hp, rfl, hs6, he6, hb6⟩ | ⟨hp, _, _⟩)
    · have h2 : ys.length = 2 := by
        rw [kn_parse] at hp
        cases hp
        have := congrArg List.length he6
        simpa using this
      rw [h2]
      have B6 := keep (B5.out.trans (hb6.mono B5.out.size))
      have cv := conv_src ((S5.out.below hb6).head 12 (by omega))
      rw [kn_take] at cv
      have BC := keep (fun w => bcheck_len none 0 0 w (.inl rfl))
      have i1 : (12 : Int) ≤ (c5 : Int) := by omega
      clear hp hs6 he6 hb6 PP kc
      go_wp2_with fail
      refine (BC.out _).mono ?_
      rintro e w7 ⟨rfl, hb7⟩
      have B7 := keep (B6.out.trans (hb7.mono B6.out.size))
      clear hb7
      go_wp2
      go_ret
      exact ⟨rfl, B7.out⟩
    · rw [kn_parse] at hp; cases hp
  · rw [kn_ok] at hok; cases hok
end Go.Proofs.Ytlhblbaingojaab
