/- The walk of wal's Name; a segment's name over plain numbers. -/
import Derived.Test.YtogphpejdnhnjaaGreatDoorPw
import Derived.Test.YtogphpejdnhnjaaGreatDoorL
import Derived.Lib.ItoaLen
namespace Go.Proofs.YtogphpejdnhnjaaGreatDoor
open Go.RowKit

theorem grow_bel (w : World) (k : Nat) (os : Array Obj) : Below w.heap.size w (Go.Sort.grow (w.drewN k) os) :=
  ⟨rfl, rfl, rfl, by show w.heap.size ≤ (w.heap ++ os).size; simp, fun i hi => by
    show (w.heap ++ os)[i]? = _
    rw [Array.getElem?_append_left hi]⟩
/-- The library's table stands as it was laid. -/
def Tab (w : World) : Prop := Lib.TabIs Tryz.prog w "internal/strconv.uint64pow10" .u64 Lib.pow10Tab
theorem nDigits_le : ∀ (k u : Nat), u < 10 ^ (k + 1) → Lib.nDigits u ≤ k + 1
  | 0, u, h => by rw [Lib.nDigits_small (by omega)]; omega
  | k + 1, u, h => by
    by_cases h1 : u < 10
    · rw [Lib.nDigits_small h1]; omega
    · rw [Lib.nDigits_big h1]
      have := nDigits_le k (u / 10) (by rw [Nat.pow_succ] at h; omega)
      omega
/-- May a number be a segment's? -/
def isSeg (n : Int) : Bool := decide (0 ≤ n) && decide (n ≤ 1099511627776)
/-- Its file's name. -/
def segName (n : Int) : List UInt8 := if isSeg n then [119, 97, 108, 47] ++ Lib.repeatL [48] (13 - (Lib.itoa n).length) ++ Lib.itoa n else []
theorem itoa_len {n : Int} (h : isSeg n = true) : 1 ≤ (Lib.itoa n).length ∧ (Lib.itoa n).length ≤ 13 := by
  simp only [isSeg, Bool.and_eq_true, decide_eq_true_eq] at h
  unfold Lib.itoa
  rw [if_neg (by omega), Lib.decDigits_length]
  exact ⟨Lib.nDigits_pos _, nDigits_le 12 _ (by have e : (10 : Nat) ^ (12 + 1) = 10000000000000 := rfl; omega)⟩
theorem segName_len {n : Int} (h : isSeg n = true) : (segName n).length = 17 := by
  have := itoa_len h
  unfold segName
  rw [if_pos h, List.length_append, List.length_append, Lib.repeatL_length]
  simp
  omega
theorem segName_none {n : Int} (h : isSeg n = false) : segName n = [] := by unfold segName; rw [h]; rfl

set_option maxHeartbeats 1000000 in
set_option maxRecDepth 100000 in
theorem name_any (n : Int) (w : World) (ht : Tab w) :
    Calls Tryz.prog 77 #[.int .i64 n] w fun e w' => e = .returned (.string ⟨(segName n).toArray⟩) ∧ Below w.heap.size w w' := by
  have HT := keep ht
  clear ht
  by_cases h0 : n < 0
  · rw [segName_none (by simp only [isSeg]; rw [decide_eq_false (show ¬ 0 ≤ n by omega)]; rfl)]
    go_enter Tryz.func77, Tryz.ntmps77
    go_wp2_with fail
    go_ret
    exact ⟨rfl, Below.refl _ _⟩
  by_cases h1 : 1099511627776 < n
  · rw [segName_none (by simp only [isSeg]; rw [decide_eq_false (show ¬ n ≤ 1099511627776 by omega), Bool.and_false])]
    go_enter Tryz.func77, Tryz.ntmps77
    go_wp2_with fail
    go_ret
    exact ⟨rfl, Below.refl _ _⟩
  have hs : isSeg n = true := by simp [isSeg]; omega
  have hl := itoa_len hs
  go_enter Tryz.func77, Tryz.ntmps77
  go_wp2_with fail
  refine (Any.strconv_Itoa lay_itoa n (by omega) (by omega) w HT.out).mono ?_
  rintro e w1 ⟨rfl, k, os, hw1⟩
  have B1 : Hid (Below w.heap.size w w1) := by rw [hw1]; exact grow_bel w k os
  clear hw1
  obtain ⟨L, hL⟩ : ∃ L, Lib.itoa n = L := ⟨_, rfl⟩
  rw [hL] at hl ⊢
  have HL := keep hL
  have HS := keep hs
  obtain ⟨j, hj⟩ : ∃ j, j = 13 - L.length := ⟨_, rfl⟩
  have hw : IntKind.i64.wrap (13 - (L.length : Int)) = (j : Int) := by rw [wrap_small _ (by omega) (by omega)]; omega
  have HJ := keep hj
  have RP := keep (Any.strings_Repeat lay_rep lay_rep_x ⟨#[48]⟩ j w1 (by omega) (by show 1 * j ≤ _; omega))
  clear hL hs hj
  go_wp2_with fail
  refine RP.out.mono ?_
  rintro e w2 ⟨rfl, hb2⟩
  have B2 := keep (B1.out.trans (hb2.mono B1.out.size))
  clear hb2 RP
  obtain ⟨Z, hZ⟩ : ∃ Z, Lib.repeatL [48] j = Z := ⟨_, rfl⟩
  have hzl : Z.length = j := by rw [← hZ, Lib.repeatL_length]; simp
  have HZ := keep hZ
  rw [show (Lib.repeatL (ByteArray.mk #[48]).data.toList j) = Z from hZ]
  have n1 : ¬ 9223372036854775807 < 4 + Z.length := by have := HJ.out; omega
  have n2 : ¬ 9223372036854775807 < 4 + Z.length + L.length := by have := HJ.out; omega
  clear hZ
  go_wp2
  go_ret
  refine ⟨?_, B2.out⟩
  unfold segName
  rw [if_pos HS.out, HL.out, ← HJ.out, HZ.out]
  have e : ((⟨#[119, 97, 108, 47]⟩ : ByteArray) ++ (⟨Z.toArray⟩ : ByteArray) ++ (⟨L.toArray⟩ : ByteArray)) = ⟨([119, 97, 108, 47] ++ Z ++ L).toArray⟩ := by
    apply ByteArray.ext
    simp [ByteArray.data_append]
  rw [e]
  rfl
theorem Tab.below {w w' : World} (h : Tab w) (hb : Below w.heap.size w w') (_ : 0 < w.heap.size) : Tab w' := by
  have hg : Tryz.prog.globalNamed "internal/strconv.uint64pow10" = some 7 := by kernel_rfl
  unfold Tab Lib.TabIs at h ⊢
  rw [← h]
  simp only [World.var?, hg, Option.bind_some] at h ⊢
  cases hx : w.heap[7]? with
  | none => rw [hx] at h; cases h
  | some o => rw [hb.block 7 (Array.getElem?_eq_some_iff.1 hx).1, hx]
end Go.Proofs.YtogphpejdnhnjaaGreatDoor
