/- The walks of Same and awake. -/
import Derived.Test.YtgfbhbmaibcadabB4
import Derived.Test.YtgfbhbmaibcadabB5
import Derived.Lib.SlBytesConst
namespace Go.Proofs.Ytgfbhbmaibcadab
open Go.RowKit

theorem list_beqB (l l2 : List UInt8) : (l == l2) = decide (l = l2) := by
  by_cases h : l = l2
  · subst h; simp
  · rw [decide_eq_false h, beq_eq_false_iff_ne]; exact h
set_option maxHeartbeats 1000000 in
set_option maxRecDepth 100000 in
theorem same_any (ao : Option Addr) (m c : Nat) (l : List UInt8) (ao2 : Option Addr) (m2 c2 : Nat) (l2 : List UInt8) (w : World) (hs : Src w ao m c l) (hs2 : Src w ao2 m2 c2 l2) :
    Calls Try.prog 15 #[.slice ao m c, .slice ao2 m2 c2] w fun e w' => e = .returned (.bool (decide (l = l2))) ∧ Below w.heap.size w w' := by
  have h1 := conv_src hs
  have h2 := conv_src hs2
  clear hs hs2
  go_enter Try.func15, Try.ntmps15
  go_wp2
  go_ret
  exact ⟨by rw [← list_beqB]; rfl, by first | exact Below.refl _ _ | exact (Below.refl _ _).drew⟩

theorem conv_const (w : World) (C : Array Value) (n c : Nat) : (convert 28 28 (.slice (some ⟨w.heap.size, 0, none⟩) n c)).run Try.prog (w.alloc (.cells C 5)) = .ok (.slice (some ⟨w.heap.size, 0, none⟩) n c) (w.alloc (.cells C 5 (C.size, C.size + 1))) :=
  Lib.run_convert_bytes_const (P := Try.prog) w 28 5 C n c Try.underlying28 Try.underlying5
theorem Src.builtF (w : World) (b : UInt8) : Src (w.alloc (.cells #[.int .u8 (b.toNat : Int)] 5 (1, 2))) (some ⟨w.heap.size, 0, none⟩) 1 1 [b] :=
  Src.mk_bytes rfl (Nat.le_refl _) (fun i hi => by
    obtain rfl : i = 0 := by omega
    rw [cell_of_row _ _ _ _ _ _ (heap_alloc_new w _)]
    rfl)
theorem known_a : Bl.has (Bl.build [[97]]) [97] = true := by decide +kernel
theorem known_no : Bl.has (Bl.build []) [97] = false := by decide +kernel
theorem known_none : Bl.has [] [] = true := by decide +kernel
theorem row_one (w : World) (ao : Option Addr) (m c : Nat) (l : List UInt8) (hs : Src w ao m c l) : RSrc byteKind (w.alloc (.cells #[.slice ao m c] 28)) (some ⟨w.heap.size, 0, none⟩) 1 1 [⟨ao, c, l⟩] := by
  obtain rfl := hs.len
  refine ⟨rfl, Nat.le_refl _, (fun e => by cases e), fun ad had j u hu => ?_, fun e he => ?_⟩
  · cases had
    have : (rv byteKind [⟨ao, c, l⟩]) = [.slice ao l.length c] := rfl
    rw [this] at hu
    have hj : j = 0 := by
      have := (List.getElem?_eq_some_iff.1 hu).1
      simp at this
      exact this
    subst hj
    rw [Addr.add_mid, cell_of_row _ _ _ _ _ _ (heap_alloc_new w _)]
    simpa using hu
  · rw [List.mem_singleton.1 he]
    exact hs.below ((Below.refl _ _).alloc (Nat.le_refl _) _)
theorem row_none (w : World) : RSrc byteKind w none 0 0 [] := RSrc.empty (fun _ => rfl)
set_option maxHeartbeats 2000000 in
set_option maxRecDepth 100000 in
theorem awake_any (w : World) : Calls Try.prog 14 #[] w fun e w' => e = .returned (.bool true) ∧ Below w.heap.size w w' := by
  have k1 := keep known_a
  have k2 := keep known_no
  have k3 := keep known_none
  obtain ⟨W2, hW2⟩ : ∃ W2, (w.alloc (.cells #[.int .u8 97] 5 (1, 2))).alloc (.cells #[.slice (some ⟨w.heap.size, 0, none⟩) 1 1] 28) = W2 := ⟨_, rfl⟩
  have B2 : Hid (Below w.heap.size w W2) := by rw [← hW2]; exact ((Below.refl _ _).alloc (Nat.le_refl _) _).alloc (by simp) _
  have R2 : Hid (RSrc byteKind W2 (some ⟨w.heap.size + 1, 0, none⟩) 1 1 [⟨some ⟨w.heap.size, 0, none⟩, 1, [97]⟩]) := by
    have := row_one _ _ _ _ _ (Src.builtF w 97)
    rw [World.size_alloc] at this
    rw [← hW2]
    exact this
  have BB := keep (build_any _ 1 1 _ W2 (by omega) (fun e he => by rw [List.mem_singleton.1 he]; show 1 + 1 ≤ 140737488355328; omega) R2.out)
  have hz : Hid (Bl.sizeOf 1 = 8) := rfl
  rw [hz.out] at BB
  have kc := conv_const
  go_enter Try.func14, Try.ntmps14
  go_wp2_with fail
  refine BB.out.mono ?_
  rintro e w3 ⟨v3, rfl, hv3⟩
  obtain ⟨a3, c3, rfl, hs3, _⟩ := hv3.src
  have S3 := keep hs3
  have B3 := keep (B2.out.trans (hv3.2.mono B2.out.size))
  clear hv3 hs3 BB hW2
  go_wp2_with fail
  refine (has_any a3 8 c3 _ _ 1 1 [97] _ (by omega) (by omega) (S3.out.below ((Below.refl _ _).alloc (Nat.le_refl _) _)) (Src.builtF w3 97)).mono ?_
  rintro e w4 ⟨rfl, hb4⟩
  have B4 := keep (B3.out.trans ((((Below.refl _ _).alloc (Nat.le_refl _) _).trans (hb4.mono (by simp))).mono B3.out.size))
  clear hb4
  have k1' : Bl.has (Bl.build (List.map (fun x : ByteE => x.bytes) [⟨some ⟨w.heap.size, 0, none⟩, 1, [97]⟩])) [97] = true := k1.out
  rw [k1']
  clear k1'
  go_wp2_with fail
  refine (build_any none 0 0 [] w4 (by omega) (fun e he => by cases he) (row_none w4)).mono ?_
  rintro e w5 ⟨v5, rfl, hv5⟩
  have hz0 : Bl.sizeOf 0 = 8 := rfl
  rw [hz0] at hv5
  clear hz0
  obtain ⟨a5, c5, rfl, hs5, _⟩ := hv5.src
  have S5 := keep hs5
  have B5 := keep (B4.out.trans (hv5.2.mono B4.out.size))
  clear hv5 hs5
  go_wp2_with fail
  refine (has_any a5 8 c5 _ _ 1 1 [97] _ (by omega) (by omega) (S5.out.below ((Below.refl _ _).alloc (Nat.le_refl _) _)) (Src.builtF w5 97)).mono ?_
  rintro e w6 ⟨rfl, hb6⟩
  have B6 := keep (B5.out.trans ((((Below.refl _ _).alloc (Nat.le_refl _) _).trans (hb6.mono (by simp))).mono B5.out.size))
  clear hb6
  have k2' : Bl.has (Bl.build (List.map (fun x : ByteE => x.bytes) [])) [97] = false := k2.out
  rw [k2']
  clear k2'
  go_wp2_with fail
  refine (has_any none 0 0 [] none 0 0 [] w6 (by omega) (by omega) (src_nil w6) (src_nil w6)).mono ?_
  rintro e w7 ⟨rfl, hb7⟩
  have B7 := keep (B6.out.trans (hb7.mono B6.out.size))
  clear hb7
  rw [k3.out]
  go_wp2
  go_ret
  exact ⟨rfl, B7.out⟩
end Go.Proofs.Ytgfbhbmaibcadab
