/- The walk of the document's PutFrame. -/
import Derived.Test.YticglckbjdchjaaRt
import Derived.Test.YticglckbjdchjaaRc
import Derived.Test.YticglckbjdchjaaPf
namespace Go.Proofs.Yticglckbjdchjaa
open Go.RowKit

theorem be4 (X : UInt32) : be 4 X.toNat = [UInt8.ofNat (X.toNat / 16777216), UInt8.ofNat (X.toNat / 65536), UInt8.ofNat (X.toNat / 256), UInt8.ofNat X.toNat] := by
  simp [be, List.range_succ]
theorem Src.built4 (w : World) (x0 x1 x2 x3 : Int) (y0 y1 y2 y3 : UInt8) (h0 : x0 = (y0.toNat : Int)) (h1 : x1 = (y1.toNat : Int)) (h2 : x2 = (y2.toNat : Int)) (h3 : x3 = (y3.toNat : Int)) : Src (w.alloc (.cells #[.int .u8 x0, .int .u8 x1, .int .u8 x2, .int .u8 x3] 5)) (some ⟨w.heap.size, 0, none⟩) 4 4 [y0, y1, y2, y3] := by
  subst h0
  subst h1
  subst h2
  subst h3
  refine ⟨rfl, Nat.le_refl _, (fun e => by cases e), fun ad had j u hu => ?_⟩
  cases had
  rw [Addr.add_mid, Nat.zero_add, cell_of_row _ _ _ _ _ _ (heap_alloc_new w _)]
  simpa [bv] using hu

theorem own_lower {w : World} {base base' n : Nat} {v : Value} {xs : List Value} (h : w.ownsRow base 5 1 v n xs) (hb : base' ≤ base) : w.ownsRow base' 5 1 v n xs := by
  refine ⟨h.1, ?_⟩
  rcases h.2 with h0 | ⟨g, cap, cur, e, hg, r⟩
  · exact .inl h0
  · exact .inr ⟨g, cap, cur, e, Nat.le_trans hb hg, r⟩
theorem apart_of {w1 w3 : World} {base n n3 : Nat} {v v3 : Value} {xs ys : List Value} (h : w1.ownsRow base 5 1 v n xs) (h3 : w3.ownsRow w1.heap.size 5 1 v3 n3 ys) : v3.ownBlock = none ∨ v3.ownBlock ≠ v.ownBlock := by
  cases ho : v3.ownBlock with
  | none => exact .inl rfl
  | some g =>
    right
    intro e
    have h1 := (h.lt g e.symm).2
    have h2 := (h3.lt g ho).1
    omega

set_option maxHeartbeats 1000000 in
set_option maxRecDepth 100000 in
theorem rputFrame_any (ao : Option Addr) (m c : Nat) (l : List UInt8) (ao2 : Option Addr) (m2 c2 : Nat) (body : List UInt8) (w : World) (hm : m + m2 + 13 ≤ 140737488355328) (hs : Src w ao m c l) (hs2 : Src w ao2 m2 c2 body) :
    Calls Try.prog 27 #[.slice ao m c, .slice ao2 m2 c2] w fun e w' => ∃ v, e = .returned v ∧ New w w' v (m + (frame body).length) (l ++ frame body) := by
  obtain ⟨i0, hi, hz0, hz1, hz2⟩ := info_parts info5
  have HS := keep hs
  have HS2 := keep hs2
  have hll := hs2.len
  clear hs hs2
  have hcl := cl_of m2 (by omega)
  have h9 := num_le m2 (by omega)
  have KG := keep (rputNum_nil (m2 : Int) w)
  rw [hcl] at KG
  obtain ⟨H, hH⟩ : ∃ H, num m2 = H := ⟨_, rfl⟩
  have HF : Hid (frame body = H ++ (be 4 (crc (H ++ body)).toNat ++ body)) := by rw [← hH, ← hll]; exact rfl
  rw [hH] at KG h9
  obtain ⟨X, hX⟩ : ∃ X, crc (H ++ body) = X := ⟨_, rfl⟩
  have HX := keep hX
  rw [hX] at HF
  clear hH hX hcl
  go_enter Try.func27, Try.ntmps27
  go_wp2_with fail
  go_fit KG.out
  rintro e w1 ⟨a1, c1, rfl, hn1⟩
  have O1 := keep hn1.1
  have b1 := keep hn1.2
  obtain ⟨_, _, e1, hs1, _⟩ := hn1.src
  cases e1
  have S1 := keep hs1
  clear hn1 hs1 KG
  go_wp2_with (first
    | (at_builtin; refine wpList_append_src rfl _ _ 22 rfl w.heap.size i0 _ Try.underlying22 hi hz0 hz1 hz2 rfl _ H.length H rfl O1'.out _ m2 c2 body rfl (HS2.out.below (b1.out.trans (B3.out.mono b1.out.size))) (by omega) (Nat.le_trans b1.out.size B3.out.size) ?_; intro v4 w4 ho4 hg4; have O4 := keep ho4; have b4 := keep ((b1.out.trans (B3.out.mono b1.out.size)).grown hg4 (Nat.le_trans b1.out.size B3.out.size) (fun j hj => (O1'.out.lt j hj).1)); have O3' := keep (O3.out.kept hg4 (apart_of O1.out O3.out)); clear ho4 hg4 O3 O1' O1 B3)
    | (at_builtin; refine wpList_append_src rfl _ _ 22 rfl w1.heap.size i0 _ Try.underlying22 hi hz0 hz1 hz2 rfl _ m l rfl O2.out _ H.length c1 H rfl (S1.out.below B2.out) (by omega) B2.out.size ?_; intro v3 w3 ho3 hg3; have O3 := keep ho3; have B3 := keep (B2.out.grown hg3 B2.out.size (fun j hj => (O2.out.lt j hj).1)); have O1' := keep (own_below O1.out B3.out); clear ho3 hg3 O2 B2)
    | (at_builtin; refine wpList_append_src rfl _ _ 22 rfl w1.heap.size i0 _ Try.underlying22 hi hz0 hz1 hz2 rfl _ 0 [] rfl (World.ownsRow_nil _ _ _ _) _ m c l rfl (HS.out.below b1.out) (by omega) (Nat.le_refl _) ?_; intro v2 w2 ho2 hg2; have O2 := keep ho2; simp only [Nat.zero_add, List.nil_append] at O2; have B2 := keep ((Below.refl w1.heap.size w1).grown hg2 (Nat.le_refl _) (fun j hj => by cases hj)); clear ho2 hg2))
  obtain ⟨a4, c4, rfl, hs4, _⟩ := Src.of_own O4.out
  have KC := keep (rcrc_any a4 (H.length + m2) c4 (H ++ body) w4 (by omega) hs4)
  rw [HX.out] at KC
  clear hs4 O4
  go_fit KC.out
  rintro e w5 ⟨rfl, hb5⟩
  have O5 := keep (own_lower (own_below O3'.out hb5) b1.out.size)
  have b5 := keep (b4.out.trans (hb5.mono b4.out.size))
  clear hb5 O3' b4 KC
  have hXl := X.toNat_lt
  obtain ⟨y0, hy0⟩ : ∃ y, UInt8.ofNat (X.toNat / 16777216) = y := ⟨_, rfl⟩
  obtain ⟨y1, hy1⟩ : ∃ y, UInt8.ofNat (X.toNat / 65536) = y := ⟨_, rfl⟩
  obtain ⟨y2, hy2⟩ : ∃ y, UInt8.ofNat (X.toNat / 256) = y := ⟨_, rfl⟩
  obtain ⟨y3, hy3⟩ : ∃ y, UInt8.ofNat X.toNat = y := ⟨_, rfl⟩
  have g0 : Hid (X.toNat / 16777216 % 256 = y0.toNat) := by rw [← hy0, UInt8.toNat_ofNat']; exact rfl
  have g1 : Hid (X.toNat / 65536 % 256 = y1.toNat) := by rw [← hy1, UInt8.toNat_ofNat']; exact rfl
  have g2 : Hid (X.toNat / 256 % 256 = y2.toNat) := by rw [← hy2, UInt8.toNat_ofNat']; exact rfl
  have g3 : Hid (X.toNat % 256 = y3.toNat) := by rw [← hy3, UInt8.toNat_ofNat']; exact rfl
  have HB := keep (be4 X)
  rw [hy0, hy1, hy2, hy3] at HB
  have HXL := keep hXl
  clear hy0 hy1 hy2 hy3 hXl
  go_wp2_with (first
    | (at_builtin; refine wpList_append_src rfl _ _ 22 rfl w.heap.size i0 _ Try.underlying22 hi hz0 hz1 hz2 rfl _ (m + H.length + 4) (l ++ H ++ [y0, y1, y2, y3]) rfl O6.out _ m2 c2 body rfl (HS2.out.below b6.out) (by omega) b6.out.size ?_; intro v7 w7 ho7 hg7; have O7 := keep ho7; have b7 := keep (b6.out.grown hg7 b6.out.size (fun j hj => (O6.out.lt j hj).1)); clear ho7 hg7)
    | (at_builtin; refine wpList_append_src rfl _ _ 22 rfl w.heap.size i0 _ Try.underlying22 hi hz0 hz1 hz2 rfl _ (m + H.length) (l ++ H) rfl (by exact O5.out.alloc _) _ 4 4 [y0, y1, y2, y3] rfl (Src.built4 _ _ _ _ _ _ _ _ _ (by have h1 := g0.out; have h2 := HXL.out; unfold U; omega) (by have h1 := g1.out; have h2 := HXL.out; unfold U; omega) (by have h1 := g2.out; have h2 := HXL.out; unfold U; omega) (by have h1 := g3.out; have h2 := HXL.out; unfold U; omega)) (by omega) (le_alloc b5.out.size _) ?_; intro v6 w6 ho6 hg6; have O6 := keep ho6; have b6 := keep ((b5.out.alloc b5.out.size _).grown hg6 (le_alloc b5.out.size _) (fun j hj => (O5.out.lt j hj).1)); clear ho6 hg6))
  go_ret
  refine ⟨_, rfl, ?_⟩
  have hfl : m + (frame body).length = m + H.length + 4 + m2 := by
    rw [HF.out, List.length_append, List.length_append, be_length, hll]; omega
  rw [hfl, HF.out, HB.out]
  have := O7.out
  rw [List.append_assoc, List.append_assoc] at this
  exact ⟨this, b7.out⟩
end Go.Proofs.Yticglckbjdchjaa
