/- The walk of the program's New. -/
import Derived.Test.YtdgfbbaddoghaaaDoorTa
import Derived.Deep.LoopGhost
namespace Go.Proofs.YtdgfbbaddoghaaaDoor
open Go.RowKit
open Mt (Pos)

theorem and_one (k : Nat) (h : k ≤ 1099511627776) : bits .and .i64 (k : Int) 1 = ((k % 2 : Nat) : Int) := by
  have hb : (BitVec.ofInt 64 (k : Int)).toNat = k := by
    rw [BitVec.toNat_ofInt]
    omega
  have h1 : (BitVec.ofInt 64 (1 : Int)).toNat = 1 := by decide
  have e : ((BitVec.ofInt 64 (k : Int)) &&& (BitVec.ofInt 64 (1 : Int))).toNat = k % 2 := by
    rw [BitVec.toNat_and, hb, h1, Nat.and_one_is_mod]
  show IntKind.i64.wrap (((BitVec.ofInt 64 (k : Int)) &&& (BitVec.ofInt 64 (1 : Int))).toNat : Int) = _
  rw [e]
  exact wrap_small _ (by omega) (by omega)
theorem own_setP {w : World} {B t k n R : Nat} {v : Value} {xs : List Value} (h : w.ownsRow B t k v n xs) (hR : R < B) (i : Nat) (u : Value) : (w.setCell ⟨R, i, none⟩ u).ownsRow B t k v n xs := by
  rcases h.2 with h0 | ⟨g, cap, cur, rfl, hb, hg, r⟩
  · exact ⟨h.1, .inl h0⟩
  · exact ⟨h.1, .inr ⟨g, cap, cur, rfl, hb, (Below.heap_setCell w ⟨R, i, none⟩ u g (by show ¬ g = R; omega)).trans hg, r⟩⟩
theorem set2P {w : World} {R : Nat} {T : TypeId} {x y : Value} (h : w.heap[R]? = some (.cells #[x, y] T)) (a b : Value) : ((w.setCell ⟨R, 0, none⟩ a).setCell ⟨R, 1, none⟩ b).heap[R]? = some (.cells #[a, b] T) := by
  have h1 := put_row h 0 a
  have h2 := put_row h1 1 b
  simpa using h2
set_option maxHeartbeats 400000 in
set_option maxRecDepth 100000 in
theorem new_no (size : Int) (w : World) (h : size < 0 ∨ 1099511627776 ≤ size) : Calls Tryd.prog 17 #[.int .i64 size] w (PosA 41 w [] 8) := by
  go_enter Tryd.func17, Tryd.ntmps17
  by_cases h1 : size < 0
  · go_wp2
    go_ret2
    exact PosA.none (Below.refl _ _)
  · have h2 : (1099511627776 : Int) ≤ size := by omega
    go_wp2
    go_ret2
    exact PosA.none (Below.refl _ _)
/-- A node and the row so far in memory. -/
structure NwI (n : Nat) (w wr : World) (k : Nat) (L : List Pos) (v : Value) : Prop where
  le : k ≤ n
  at' : wr.heap[w.heap.size]? = some (.cells #[.int .i64 (L.length : Int), .int .i64 (k : Int)] 41)
  ups : Mt.ups 0 n = L ++ Mt.ups L.length k
  row : wr.ownsRow (w.heap.size + 1) 41 2 v (L.length + 1) (rv posKind (L ++ [(⟨L.length, k⟩ : Pos)]))
  low : Below w.heap.size w wr
set_option maxHeartbeats 600000 in
set_option maxRecDepth 100000 in
theorem new_any (n : Nat) (w : World) (hn : n < 1099511627776) : Calls Tryd.prog 17 #[.int .i64 (n : Int)] w (PosA 41 w (Mt.ups 0 n) 0) := by
  obtain ⟨i0, hi0, hz0, hz1, hz2⟩ := info_partsS infoP
  have SH := keep (Mt.ups_short hn)
  have HN := keep hn
  have n0 : ¬ (n : Int) < 0 := by omega
  have n1 : ¬ (1099511627776 : Int) ≤ (n : Int) := by omega
  obtain ⟨H, hH⟩ : ∃ H, w.heap.size = H := ⟨_, rfl⟩
  obtain ⟨W1, hW1⟩ : ∃ Wn, w.alloc (.cells #[.int .i64 0, .int .i64 (n : Int)] 41) = Wn := ⟨_, rfl⟩
  have s1 : W1.heap.size = H + 1 := by rw [← hW1, alloc_size, hH]
  have g1 : W1.heap[H]? = some (.cells #[.int .i64 0, .int .i64 (n : Int)] 41) := by rw [← hW1, ← hH]; exact heap_alloc_new w _
  have b1 : Hid (Below w.heap.size w W1) := by rw [← hW1]; exact (Below.refl _ _).alloc (Nat.le_refl _) _
  have c10 : W1.cell? ⟨H, 0, none⟩ = some (.int .i64 0) := cell_of_row _ _ _ _ _ _ g1
  have c11 : W1.cell? ⟨H, 1, none⟩ = some (.int .i64 (n : Int)) := cell_of_row _ _ _ _ _ _ g1
  obtain ⟨W2, hW2⟩ : ∃ Wn, W1.alloc (.cells #[.int .i64 0, .int .i64 (n : Int)] 41) = Wn := ⟨_, rfl⟩
  have b2 : Hid (Below W1.heap.size W1 W2) := by rw [← hW2]; exact (Below.refl _ _).alloc (Nat.le_refl _) _
  have I0 : Hid (NwI n w W2 n [] (.slice (some ⟨H + 1, 0, none⟩) 1 1)) := by
    refine ⟨Nat.le_refl _, ?_, rfl, ?_, b1.out.trans (b2.out.mono b1.out.size)⟩
    · rw [hH]; exact (b2.out.block H (by omega)).trans g1
    · refine ⟨by simp [rv, posKind], .inr ⟨_, _, _, rfl, by omega, (by rw [← hW2, ← s1]; exact heap_alloc_new W1 _), Nat.le_refl _, by decide, by simp, by simp [rv, posKind]⟩⟩
  clear g1 b1 b2
  go_enter Tryd.func17, Tryd.ntmps17
  go_wp2
  clear n0 n1 hn hW1 hW2 s1 c10 c11
  go_loopg [5] n (fun m v wr => ∃ (k : Nat) (L : List Pos), k ≤ m ∧ Hid (NwI n w wr k L v))
  case atStart => exact ⟨n, [], Nat.le_refl _, I0⟩
  case round =>
    clear I0
    obtain ⟨k, L, hkm, hI⟩ := hrel
    obtain ⟨M, hM⟩ : ∃ M, L.length = M := ⟨_, rfl⟩
    have hkn := hI.out.le
    have hAt := hI.out.at'
    have hUp := keep hI.out.ups
    have O1 := keep hI.out.row
    have B1 := keep hI.out.low
    rw [hM] at hAt hUp O1
    rw [hH] at hAt
    obtain ⟨vp, vc, hv⟩ := own_is O1.out
    subst hv
    clear hI
    have c0 : wr.cell? ⟨H, 0, none⟩ = some (.int .i64 (M : Int)) := cell_of_row _ _ _ _ _ _ hAt
    have c1 : wr.cell? ⟨H, 1, none⟩ = some (.int .i64 (k : Int)) := cell_of_row _ _ _ _ _ _ hAt
    have HNo := HN.out
    have AN := and_one k (by omega)
    have k0 : (0 : Int) ≤ (k : Int) := by omega
    have k1 : (k : Int) ≤ 1099511627776 := by omega
    by_cases ho : k % 2 = 1
    · rw [ho] at AN
      have HL : Hid (Mt.ups 0 n = (L ++ [(⟨M, k⟩ : Pos)]) ++ Mt.ups (M + 1) (k / 2)) := by
        show _ = _
        rw [hUp.out, Mt.ups_odd ho, List.append_assoc]
        rfl
      have HMl : Hid (M + 1 ≤ 41) := by
        have h3 := SH.out
        have h4 := Mt.ups_pos (M + 1) (k / 2)
        rw [HL.out, List.length_append, List.length_append] at h3
        simp only [List.length_cons, List.length_nil, hM] at h3
        show _ ≤ _
        omega
      have hMb := HMl.out
      obtain ⟨q, hq⟩ : ∃ q, k / 2 = q := ⟨_, rfl⟩
      have e2 : (k : Int) / 2 = (q : Int) := by omega
      rw [hq] at HL
      have hqk : Hid (q < k) := by show _ < _; omega
      have hqn : Hid (q ≤ n) := by show _ ≤ _; omega
      have hkm2 := keep hkm
      have m1 : (M : Int) + 1 = ((M + 1 : Nat) : Int) := by omega
      have M1 := keep m1
      clear m1
      obtain ⟨W3, hW3⟩ : ∃ Wn, (wr.setCell ⟨H, 0, none⟩ (.int .i64 ((M : Int) + 1))).setCell ⟨H, 1, none⟩ (.int .i64 (q : Int)) = Wn := ⟨_, rfl⟩
      have g3 : W3.heap[H]? = some (.cells #[.int .i64 ((M : Int) + 1), .int .i64 (q : Int)] 41) := by rw [← hW3]; exact set2P hAt _ _
      have d0 : W3.cell? ⟨H, 0, none⟩ = some (.int .i64 ((M : Int) + 1)) := cell_of_row _ _ _ _ _ _ g3
      have d1 : W3.cell? ⟨H, 1, none⟩ = some (.int .i64 (q : Int)) := cell_of_row _ _ _ _ _ _ g3
      have B3 : Hid (Below w.heap.size w W3) := by
        rw [← hW3]
        exact (B1.out.setCell (p := ⟨H, 0, none⟩) (by show w.heap.size ≤ H; omega) _).setCell (p := ⟨H, 1, none⟩) (by show w.heap.size ≤ H; omega) _
      have O3 : Hid (W3.ownsRow (w.heap.size + 1) 41 2 (.slice vp (M + 1) vc) (M + 1) (rv posKind (L ++ [(⟨M, k⟩ : Pos)]))) := by
        rw [← hW3]
        exact own_setP (own_setP O1.out (by omega) _ _) (by omega) _ _
      have S3 : Hid (H + 1 ≤ W3.heap.size) := by
        have := (Array.getElem?_eq_some_iff.1 g3).1
        show _ ≤ _
        omega
      have f0 : wr.frozen? ⟨H, 0, none⟩ = false := by simp [World.frozen?, hAt]
      have f1 : wr.frozen? ⟨H, 1, none⟩ = false := by simp [World.frozen?, hAt]
      have G3 := keep g3
      have rc := keep (rec_cells (k := posKind) W3 41 ⟨M + 1, q⟩)
      have b4 := keep (B3.out.alloc B3.out.size (.cells #[.int .i64 ((M + 1 : Nat) : Int), .int .i64 (q : Int)] 41))
      have O4 : Hid ((W3.alloc (.cells #[.int .i64 ((M + 1 : Nat) : Int), .int .i64 (q : Int)] 41)).ownsRow (w.heap.size + 1) 41 2 (.slice vp (M + 1) vc) (M + 1) (rv posKind (L ++ [(⟨M, k⟩ : Pos)]))) := own_next O3.out ((Below.refl _ _).alloc (Nat.le_refl _) _)
      have S4 : Hid (w.heap.size + 1 ≤ (W3.alloc (.cells #[.int .i64 ((M + 1 : Nat) : Int), .int .i64 (q : Int)] 41)).heap.size) := by have := S3.out; show _ ≤ _; rw [alloc_size]; omega
      have G4 : Hid ((W3.alloc (.cells #[.int .i64 ((M + 1 : Nat) : Int), .int .i64 (q : Int)] 41)).heap[H]? = some (.cells #[.int .i64 ((M + 1 : Nat) : Int), .int .i64 (q : Int)] 41)) := by
        have h5 := ((Below.refl W3.heap.size W3).alloc (Nat.le_refl _) (.cells #[.int .i64 ((M + 1 : Nat) : Int), .int .i64 (q : Int)] 41)).block H (by have := S3.out; omega)
        rw [M1.out] at g3
        exact h5.trans g3
      have HMM := keep hM
      clear g3 hAt hUp hM hq hkm ho HNo hkn
      go_wp2_with (at_builtin; rw [M1.out]; go_loud (refine wpList_append_rec posKind_ok rfl _ _ 36 41 rfl (w.heap.size + 1) i0 _ 16 Tryd.underlying36 hi0 hz0 hz1 hz2 rfl (.slice vp (M + 1) vc) (M + 1) (L ++ [(⟨M, k⟩ : Pos)]) rfl O4.out _ 1 ⟨M + 1, q⟩ rfl rc.out (by have := HMl.out; unfold maxLen; omega) (by have := HMl.out; omega) S4.out ?_); intro v7 w7 ho7 hg7; have O7 := keep ho7; have G7 := keep hg7; clear ho7 hg7)
      go_roundg q
      case rel =>
        have lt4 := fun g hg => (O4.out.lt g hg).1
        refine ⟨q, L ++ [(⟨M, k⟩ : Pos)], Nat.le_refl _, ⟨hqn.out, ?_, ?_, ?_, b4.out.grown G7.out b4.out.size (fun j hj => by have := lt4 j hj; omega)⟩⟩
        · rw [List.length_append, HMM.out, hH]
          refine (G7.out.block H (by have := S4.out; omega) (fun e => by have := lt4 H e.symm; omega)).trans G4.out
        · rw [List.length_append, HMM.out]
          exact HL.out
        · rw [List.length_append, HMM.out]
          exact O7.out
      case measure => have := hqk.out; have := hkm2.out; omega
    · have AN2 : k % 2 = 0 := by omega
      rw [AN2] at AN
      have HL : Hid (Mt.ups 0 n = L ++ [(⟨M, k⟩ : Pos)]) := by
        show _ = _
        rw [hUp.out, Mt.ups_even ho]
      have HMM := keep hM
      clear hAt hUp hM ho HNo hkn AN2
      go_wp2
      go_ret2
      refine ⟨_, rfl, ?_, B1.out⟩
      rw [HL.out, List.length_append, HMM.out]
      exact own_low O1.out (Nat.le_succ _)
end Go.Proofs.YtdgfbbaddoghaaaDoor
