/- The walks of what is summed for a node, of node, Node. -/
import Derived.Test.YtdgfbbaddoghaaaDoorPa
namespace Go.Proofs.YtdgfbbaddoghaaaDoor
open Go.RowKit

set_option maxHeartbeats 2000000 in
set_option maxRecDepth 100000 in
theorem input_any (x y : List UInt8) (w : World) (hx : x.length + y.length ≤ 140737488354000) :
    Calls Tryd.prog 51 #[.agg #[.string ⟨x.toArray⟩, .string ⟨y.toArray⟩]] w fun e w' => ∃ v, e = .returned v ∧ New w w' v (1 + x.length + y.length) (1 :: (x ++ y)) := by
  obtain ⟨X, hX⟩ : ∃ X, x.length = X := ⟨_, rfl⟩
  obtain ⟨Y, hY⟩ : ∃ Y, y.length = Y := ⟨_, rfl⟩
  rw [hX, hY] at hx ⊢
  obtain ⟨W1, hW1⟩ : ∃ Wn, w.alloc (.cells #[.string ⟨x.toArray⟩, .string ⟨y.toArray⟩] 64) = Wn := ⟨_, rfl⟩
  have b1 : Hid (Below w.heap.size w W1) := by rw [← hW1]; exact (Below.refl _ _).alloc (Nat.le_refl _) _
  have s1 : W1.heap.size = w.heap.size + 1 := by rw [← hW1, alloc_size]
  have c10 : W1.cell? ⟨w.heap.size, 0, none⟩ = some (.string ⟨x.toArray⟩) := by rw [← hW1]; exact cell_of_row _ _ _ _ _ _ (heap_alloc_new w _)
  have c11 : W1.cell? ⟨w.heap.size, 1, none⟩ = some (.string ⟨y.toArray⟩) := by rw [← hW1]; exact cell_of_row _ _ _ _ _ _ (heap_alloc_new w _)
  obtain ⟨W2, hW2⟩ : ∃ Wn, W1.alloc (.cells #[.int .u8 1] 5) = Wn := ⟨_, rfl⟩
  have b2 : Hid (Below W1.heap.size W1 W2) := by rw [← hW2]; exact (Below.refl _ _).alloc (Nat.le_refl _) _
  have s2 : W2.heap.size = w.heap.size + 1 + 1 := by rw [← hW2, alloc_size, s1]
  have c20 : W2.cell? ⟨w.heap.size, 0, none⟩ = some (.string ⟨x.toArray⟩) := below_cell b2.out c10
  have c21 : W2.cell? ⟨w.heap.size, 1, none⟩ = some (.string ⟨y.toArray⟩) := below_cell b2.out c11
  have x2 : Hid (Src W2 (some ⟨w.heap.size + 1, 0, none⟩) 1 1 [1]) := by rw [← hW2, ← s1]; exact Src.built W1 1
  have v3 := conv_str x X hX W2
  obtain ⟨W3, hW3⟩ : ∃ Wn, Lib.bytesWorld W2 5 ⟨x.toArray⟩ = Wn := ⟨_, rfl⟩
  rw [hW3, s2] at v3
  have b3 : Hid (Below W2.heap.size W2 W3) := by rw [← hW3]; exact below_bytesWorld _ _
  have x3 : Hid (Src W3 (some ⟨w.heap.size + 1 + 1, 0, none⟩) X (grownCap W2 X 0 5) x) := by rw [← hW3, ← s2]; exact Src.converted W2 x X hX
  have c31 : W3.cell? ⟨w.heap.size, 1, none⟩ = some (.string ⟨y.toArray⟩) := below_cell b3.out c21
  have v4 := conv_str y Y hY W3
  obtain ⟨W4, hW4⟩ : ∃ Wn, Lib.bytesWorld W3 5 ⟨y.toArray⟩ = Wn := ⟨_, rfl⟩
  rw [hW4] at v4
  have b4 : Hid (Below W3.heap.size W3 W4) := by rw [← hW4]; exact below_bytesWorld _ _
  have x4 : Hid (Src W4 (some ⟨W3.heap.size, 0, none⟩) Y (grownCap W3 Y 0 5) y) := by rw [← hW4]; exact Src.converted W3 y Y hY
  obtain ⟨C3, hC3⟩ : ∃ C, grownCap W2 X 0 5 = C := ⟨_, rfl⟩
  obtain ⟨C4, hC4⟩ : ∃ C, grownCap W3 Y 0 5 = C := ⟨_, rfl⟩
  rw [hC3] at v3 x3
  rw [hC4] at v4 x4
  obtain ⟨A4, hA4⟩ : ∃ A, W3.heap.size = A := ⟨_, rfl⟩
  rw [hA4] at v4 x4
  obtain ⟨W5, hW5⟩ : ∃ Wn, W4.alloc (.cells #[.slice (some ⟨w.heap.size + 1, 0, none⟩) 1 1, .slice (some ⟨w.heap.size + 1 + 1, 0, none⟩) X C3, .slice (some ⟨A4, 0, none⟩) Y C4] 48) = Wn := ⟨_, rfl⟩
  have b5 : Hid (Below W4.heap.size W4 W5) := by rw [← hW5]; exact (Below.refl _ _).alloc (Nat.le_refl _) _
  have k0 : W5.cell? ⟨W4.heap.size, 0, none⟩ = some (.slice (some ⟨w.heap.size + 1, 0, none⟩) 1 1) := by rw [← hW5]; exact cell_of_row _ _ _ _ _ _ (heap_alloc_new W4 _)
  have k1 : W5.cell? ⟨W4.heap.size, 1, none⟩ = some (.slice (some ⟨w.heap.size + 1 + 1, 0, none⟩) X C3) := by rw [← hW5]; exact cell_of_row _ _ _ _ _ _ (heap_alloc_new W4 _)
  have k2 : W5.cell? ⟨W4.heap.size, 2, none⟩ = some (.slice (some ⟨A4, 0, none⟩) Y C4) := by rw [← hW5]; exact cell_of_row _ _ _ _ _ _ (heap_alloc_new W4 _)
  have B5 := keep (b1.out.trans ((b2.out.trans ((b3.out.trans ((b4.out.trans (b5.out.mono b4.out.size)).mono b3.out.size)).mono b2.out.size)).mono b1.out.size))
  have CC := keep (concat_three W4.heap.size _ 1 1 [1] _ X C3 x _ Y C4 y W5 (by omega) (by omega) k0 k1 k2 (((x2.out.below b3.out).below b4.out).below b5.out) ((x3.out.below b4.out).below b5.out) (x4.out.below b5.out))
  clear k0 k1 k2 hC3 hC4 c10 c11 hA4 hX hY s2 hW3 hW4
  go_enter Tryd.func51, Tryd.ntmps51
  go_wp2_with fail
  refine CC.out.mono ?_
  rintro e w6 ⟨v, rfl, hN⟩
  have N6 : Hid (New w w6 v (1 + X + Y) (1 :: (x ++ y))) := ⟨own_low hN.1 B5.out.size, B5.out.trans (hN.2.mono B5.out.size)⟩
  clear hN CC hW1 hW2 hW5 s1
  go_wp2
  go_ret
  exact ⟨_, rfl, N6.out⟩
set_option maxHeartbeats 2000000 in
set_option maxRecDepth 100000 in
theorem pnode_any (x y : List UInt8) (w : World) (hx : x.length + y.length ≤ 140737488354000) (hL : Ld w) :
    Calls Tryd.prog 36 #[.agg #[.string ⟨x.toArray⟩, .string ⟨y.toArray⟩]] w fun e w' => e = .returned (.string ⟨(nodeL x y).toArray⟩) ∧ Below w.heap.size w w' := by
  have HLd := keep hL
  clear hL
  obtain ⟨W1, hW1⟩ : ∃ Wn, w.alloc (.cells #[.string ⟨x.toArray⟩, .string ⟨y.toArray⟩] 64) = Wn := ⟨_, rfl⟩
  have b1 : Hid (Below w.heap.size w W1) := by rw [← hW1]; exact (Below.refl _ _).alloc (Nat.le_refl _) _
  have c10 : W1.cell? ⟨w.heap.size, 0, none⟩ = some (.string ⟨x.toArray⟩) := by rw [← hW1]; exact cell_of_row _ _ _ _ _ _ (heap_alloc_new w _)
  have c11 : W1.cell? ⟨w.heap.size, 1, none⟩ = some (.string ⟨y.toArray⟩) := by rw [← hW1]; exact cell_of_row _ _ _ _ _ _ (heap_alloc_new w _)
  have IN := keep (input_any x y W1 hx)
  have hx2 := hx
  have hN0 : nodeL x y = Sha.sum (1 :: (x ++ y)) := rfl
  rw [hN0]
  obtain ⟨L, hLL⟩ : ∃ L, 1 :: (x ++ y) = L := ⟨_, rfl⟩
  rw [hLL] at IN ⊢
  obtain ⟨N, hN⟩ : ∃ N, 1 + x.length + y.length = N := ⟨_, rfl⟩
  have hNb : N ≤ 140737488355328 := by omega
  rw [hN] at IN
  clear hx hx2 hN hN0 hLL
  go_enter Tryd.func36, Tryd.ntmps36
  go_wp2_with fail
  refine IN.out.mono ?_
  rintro e w2 ⟨v, rfl, hN2⟩
  obtain ⟨ao3, c3, rfl, hs3, hc3⟩ := hN2.src
  have B2 := keep (b1.out.trans (hN2.2.mono b1.out.size))
  have SM := keep (sumK ao3 N c3 L w2 hNb hc3 (HLd.out.below B2.out) hs3)
  clear hN2 hs3 hc3 IN hW1 c10 c11
  go_wp2_with fail
  refine SM.out.mono ?_
  rintro e w4 ⟨rfl, hb4⟩
  have B4 := keep (B2.out.trans (hb4.mono B2.out.size))
  clear hb4
  go_wp2
  go_ret
  exact ⟨rfl, B4.out⟩
set_option maxHeartbeats 2000000 in
set_option maxRecDepth 100000 in
theorem node_any (x y : List UInt8) (w : World) (hx : x.length + y.length ≤ 140737488354000) (hL : Ld w) :
    Calls Tryd.prog 19 #[.string ⟨x.toArray⟩, .string ⟨y.toArray⟩] w fun e w' => e = .returned (.string ⟨(nodeL x y).toArray⟩) ∧ Below w.heap.size w w' := by
  have PN := keep (pnode_any x y w hx hL)
  clear hx hL
  go_enter Tryd.func19, Tryd.ntmps19
  go_wp2_with fail
  refine PN.out.mono ?_
  rintro e w4 ⟨rfl, hb4⟩
  have B4 := keep hb4
  clear hb4
  go_wp2
  go_ret
  exact ⟨rfl, B4.out⟩
end Go.Proofs.YtdgfbbaddoghaaaDoor
