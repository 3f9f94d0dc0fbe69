/- The walks of block's putSum, and of the document's Summed. -/
import Derived.Test.YtlhblbaingojaabJ4
import Derived.Test.YtlhblbaingojaabXa
import Derived.Test.YtlhblbaingojaabCr
import Derived.Test.YtlhblbaingojaabRc
namespace Go.Proofs.Ytlhblbaingojaab
open Go.RowKit
open Sk (Ent)

theorem be4 (X : UInt32) : be 4 X.toNat = [UInt8.ofNat (X.toNat / 16777216), UInt8.ofNat (X.toNat / 65536), UInt8.ofNat (X.toNat / 256), UInt8.ofNat X.toNat] := by
  simp [be, List.range_succ]
theorem Src.built4 (w : World) (x0 x1 x2 x3 : Int) (y0 y1 y2 y3 : UInt8) (h0 : x0 = (y0.toNat : Int)) (h1 : x1 = (y1.toNat : Int)) (h2 : x2 = (y2.toNat : Int)) (h3 : x3 = (y3.toNat : Int)) : Src (w.alloc (.cells #[.int .u8 x0, .int .u8 x1, .int .u8 x2, .int .u8 x3] 5)) (some ⟨w.heap.size, 0, none⟩) 4 4 [y0, y1, y2, y3] := by
  subst h0
  subst h1
  subst h2
  subst h3
  refine ⟨rfl, Nat.le_refl _, (fun e => by cases e), fun ad had j u hu => ?_⟩
  cases had
  rw [Addr.add_mid, Nat.zero_add, cell_of_row _ _ _ _ _ _ (heap_alloc_new w _)]
  simpa [bv] using hu

theorem own_lower {w : World} {base base' n : Nat} {v : Value} {xs : List Value} (h : w.ownsRow base 5 1 v n xs) (hb : base' ≤ base) : w.ownsRow base' 5 1 v n xs := by
  refine ⟨h.1, ?_⟩
  rcases h.2 with h0 | ⟨g, cap, cur, e, hg, r⟩
  · exact .inl h0
  · exact .inr ⟨g, cap, cur, e, Nat.le_trans hb hg, r⟩
/-- Bytes, and their sum behind them. -/
def summed (l : List UInt8) : List UInt8 := l ++ be 4 (crc l).toNat
set_option maxHeartbeats 2000000 in
set_option maxRecDepth 100000 in
theorem putSum_any (B : Nat) (ao : Option Addr) (m c : Nat) (l : List UInt8) (w : World) (hm : m ≤ 1000000) (hB : B ≤ w.heap.size) (ho : w.ownsRow B 5 1 (.slice ao m c) m (bv l)) :
    Calls Try.prog 22 #[.slice ao m c] w fun e w' => ∃ v, e = .returned v ∧ w'.ownsRow B 5 1 v (m + 4) (bv (summed l)) ∧ Below B w w' := by
  obtain ⟨i0, hi, hz0, hz1, hz2⟩ := info_parts info5
  obtain ⟨_, _, e1, hs, _⟩ := Src.of_own ho
  cases e1
  have O0 := keep ho
  have KC := keep (crc_any ao m c l w (by omega) hs)
  obtain ⟨X, hX⟩ : ∃ X, crc l = X := ⟨_, rfl⟩
  have HX := keep hX
  rw [hX] at KC
  clear hX ho hs
  have hXl := X.toNat_lt
  obtain ⟨y0, hy0⟩ : ∃ y, UInt8.ofNat (X.toNat / 16777216) = y := ⟨_, rfl⟩
  obtain ⟨y1, hy1⟩ : ∃ y, UInt8.ofNat (X.toNat / 65536) = y := ⟨_, rfl⟩
  obtain ⟨y2, hy2⟩ : ∃ y, UInt8.ofNat (X.toNat / 256) = y := ⟨_, rfl⟩
  obtain ⟨y3, hy3⟩ : ∃ y, UInt8.ofNat X.toNat = y := ⟨_, rfl⟩
  have g0 : Hid (X.toNat / 16777216 % 256 = y0.toNat) := by rw [← hy0, UInt8.toNat_ofNat']; exact rfl
  have g1 : Hid (X.toNat / 65536 % 256 = y1.toNat) := by rw [← hy1, UInt8.toNat_ofNat']; exact rfl
  have g2 : Hid (X.toNat / 256 % 256 = y2.toNat) := by rw [← hy2, UInt8.toNat_ofNat']; exact rfl
  have g3 : Hid (X.toNat % 256 = y3.toNat) := by rw [← hy3, UInt8.toNat_ofNat']; exact rfl
  have HB := keep (be4 X)
  rw [hy0, hy1, hy2, hy3] at HB
  have HXL := keep hXl
  clear hy0 hy1 hy2 hy3 hXl
  go_enter Try.func22, Try.ntmps22
  go_wp2_with fail
  refine KC.out.mono ?_
  rintro e w5 ⟨rfl, hb5⟩
  have O5 := keep (own_below O0.out hb5)
  have b5 := keep hb5
  have b5' := keep (hb5.mono hB)
  clear hb5
  have hB5 : B ≤ w5.heap.size := Nat.le_trans hB b5.out.size
  go_wp2_with (at_builtin; refine wpList_append_src rfl _ _ 24 rfl B i0 _ Try.underlying24 hi hz0 hz1 hz2 rfl _ m l rfl (by exact O5.out.alloc _) _ 4 4 [y0, y1, y2, y3] rfl (Src.built4 _ _ _ _ _ _ _ _ _ (by have h1 := g0.out; have h2 := HXL.out; unfold U; omega) (by have h1 := g1.out; have h2 := HXL.out; unfold U; omega) (by have h1 := g2.out; have h2 := HXL.out; unfold U; omega) (by have h1 := g3.out; have h2 := HXL.out; unfold U; omega)) (by omega) (le_alloc hB5 _) ?_; intro v6 w6 ho6 hg6; have O6 := keep ho6; have b6 := keep ((b5'.out.alloc hB5 _).grown hg6 (le_alloc hB5 _) (fun j hj => (O5.out.lt j hj).1)); clear ho6 hg6)
  go_ret
  refine ⟨_, rfl, ?_, b6.out⟩
  unfold summed
  rw [HX.out, HB.out]
  exact O6.out
set_option maxHeartbeats 2000000 in
set_option maxRecDepth 100000 in
theorem rsummed_any (ao : Option Addr) (m c : Nat) (l : List UInt8) (w : World) (hm : m ≤ 1000000) (hs : Src w ao m c l) :
    Calls Try.prog 26 #[.slice ao m c] w fun e w' => ∃ v, e = .returned v ∧ New w w' v (m + 4) (summed l) := by
  obtain ⟨i0, hi, hz0, hz1, hz2⟩ := info_parts info5
  have HS := keep hs
  have KC := keep (rcrc_any ao m c l w (by omega) hs)
  obtain ⟨X, hX⟩ : ∃ X, crc l = X := ⟨_, rfl⟩
  have HX := keep hX
  rw [hX] at KC
  clear hX hs
  have hXl := X.toNat_lt
  obtain ⟨y0, hy0⟩ : ∃ y, UInt8.ofNat (X.toNat / 16777216) = y := ⟨_, rfl⟩
  obtain ⟨y1, hy1⟩ : ∃ y, UInt8.ofNat (X.toNat / 65536) = y := ⟨_, rfl⟩
  obtain ⟨y2, hy2⟩ : ∃ y, UInt8.ofNat (X.toNat / 256) = y := ⟨_, rfl⟩
  obtain ⟨y3, hy3⟩ : ∃ y, UInt8.ofNat X.toNat = y := ⟨_, rfl⟩
  have g0 : Hid (X.toNat / 16777216 % 256 = y0.toNat) := by rw [← hy0, UInt8.toNat_ofNat']; exact rfl
  have g1 : Hid (X.toNat / 65536 % 256 = y1.toNat) := by rw [← hy1, UInt8.toNat_ofNat']; exact rfl
  have g2 : Hid (X.toNat / 256 % 256 = y2.toNat) := by rw [← hy2, UInt8.toNat_ofNat']; exact rfl
  have g3 : Hid (X.toNat % 256 = y3.toNat) := by rw [← hy3, UInt8.toNat_ofNat']; exact rfl
  have HB := keep (be4 X)
  rw [hy0, hy1, hy2, hy3] at HB
  have HXL := keep hXl
  clear hy0 hy1 hy2 hy3 hXl
  go_enter Try.func26, Try.ntmps26
  go_wp2_with fail
  refine KC.out.mono ?_
  rintro e w5 ⟨rfl, hb5⟩
  have b5 := keep hb5
  clear hb5
  go_wp2_with (first
    | (at_builtin; refine wpList_append_src rfl _ _ 24 rfl w.heap.size i0 _ Try.underlying24 hi hz0 hz1 hz2 rfl _ m l rfl (by exact O6.out.alloc _) _ 4 4 [y0, y1, y2, y3] rfl (Src.built4 _ _ _ _ _ _ _ _ _ (by have h1 := g0.out; have h2 := HXL.out; unfold U; omega) (by have h1 := g1.out; have h2 := HXL.out; unfold U; omega) (by have h1 := g2.out; have h2 := HXL.out; unfold U; omega) (by have h1 := g3.out; have h2 := HXL.out; unfold U; omega)) (by omega) (le_alloc b6.out.size _) ?_; intro v7 w7 ho7 hg7; have O7 := keep ho7; have b7 := keep ((b6.out.alloc b6.out.size _).grown hg7 (le_alloc b6.out.size _) (fun j hj => (O6.out.lt j hj).1)); clear ho7 hg7)
    | (at_builtin; refine wpList_append_src rfl _ _ 24 rfl w.heap.size i0 _ Try.underlying24 hi hz0 hz1 hz2 rfl _ 0 [] rfl (own_emptyS (t := 5) (k := 1) b5.out.size) _ m c l rfl (HS.out.below (b5.out.alloc b5.out.size _)) (by omega) (le_alloc b5.out.size _) ?_; intro v6 w6 ho6 hg6; have O6 := keep ho6; simp only [Nat.zero_add, List.nil_append] at O6; have b6 := keep ((b5.out.alloc b5.out.size _).grown hg6 (le_alloc b5.out.size _) (fun j hj => by cases hj; exact b5.out.size)); clear ho6 hg6))
  go_ret
  refine ⟨_, rfl, ?_, b7.out⟩
  unfold summed
  rw [HX.out, HB.out]
  exact O7.out
end Go.Proofs.Ytlhblbaingojaab
