/- The walks of the document's Check, Copy and Ahead for entries. -/
import Derived.Test.YtjiphmeoofeepaaVb
import Derived.Test.YtjiphmeoofeepaaRl
namespace Go.Proofs.Ytjiphmeoofeepaa
open Go.RowKit
open Sk (Ent)

theorem own_emptyS {w : World} {B t k : Nat} (h : B ≤ w.heap.size) : (w.alloc (.cells #[] t)).ownsRow B t k (.slice (some ⟨w.heap.size, 0, none⟩) 0 0) 0 [] :=
  ⟨by simp, .inr ⟨_, _, _, rfl, h, heap_alloc_new w _, Nat.le_refl _, Nat.zero_le _, by simp, by simp⟩⟩
theorem own_slice {w : World} {B t k n : Nat} {v : Value} {xs : List Value} (h : w.ownsRow B t k v n xs) : ∃ ao c, v = .slice ao n c := by
  rcases h.2 with ⟨rfl, rfl⟩ | ⟨g, cap, cur, rfl, _⟩
  · exact ⟨_, _, rfl⟩
  · exact ⟨_, _, rfl⟩
set_option maxHeartbeats 2000000 in
set_option maxRecDepth 100000 in
theorem rcopy_any (x : EV) (w : World) (hk : x.e.key.length ≤ 140737488355328) (hv : x.e.val.length ≤ 140737488355328) (hh : entKind.held w x) : Calls Try.prog 6 #[ev x] w fun e w' => ∃ y : EV, e = .returned (ev y) ∧ y.e = x.e ∧ OwnE w.heap.size w' y ∧ Below w.heap.size w w' := by
  obtain ⟨i0, hi, hz0, hz1, hz2⟩ := info_parts info5
  obtain ⟨kp, kc, vp, vc, key, seq, gone, val⟩ := x
  have HK : Hid (Src w kp key.length kc key) := hh.1
  have HV : Hid (Src w vp val.length vc val) := hh.2
  simp only at hk hv
  clear hh
  unfold ev
  simp only
  obtain ⟨K, hK⟩ : ∃ K, key.length = K := ⟨_, rfl⟩
  obtain ⟨V, hV⟩ : ∃ V, val.length = V := ⟨_, rfl⟩
  have HKK := keep hK
  have HVV := keep hV
  rw [hK] at HK hk ⊢
  rw [hV] at HV hv ⊢
  clear hK hV
  obtain ⟨W1, hW1⟩ : ∃ W1, (w.alloc (.cells #[.slice kp K kc, .int .i64 seq, .bool gone, .slice vp V vc] 28)).alloc (.cells #[.slice none 0 0, .int .i64 0, .bool false, .slice none 0 0] 28) = W1 := ⟨_, rfl⟩
  have b1 : Hid (Below w.heap.size w W1) := by rw [← hW1]; exact ((Below.refl _ _).alloc (Nat.le_refl _) _).alloc (by simp) _
  have s1 : Hid (W1.heap.size = w.heap.size + 2) := by rw [← hW1]; show _ = _; simp
  have g0 : Hid (W1.heap[w.heap.size]? = some (.cells #[.slice kp K kc, .int .i64 seq, .bool gone, .slice vp V vc] 28)) := by
    rw [← hW1]; exact (Below.heap_alloc _ _ _ (by simp)).trans (heap_alloc_new w _)
  have g1 : Hid (W1.heap[w.heap.size + 1]? = some (.cells #[.slice none 0 0, .int .i64 0, .bool false, .slice none 0 0] 28)) := by
    have := heap_alloc_new (w.alloc (.cells #[.slice kp K kc, .int .i64 seq, .bool gone, .slice vp V vc] 28)) (.cells #[.slice none 0 0, .int .i64 0, .bool false, .slice none 0 0] 28)
    rw [World.size_alloc] at this
    rw [← hW1]; exact this
  have c0 : W1.cell? ⟨w.heap.size, 0, none⟩ = some (.slice kp K kc) := cell_of_row _ _ _ _ _ _ g0.out
  have f0 : W1.frozen? ⟨w.heap.size, 0, none⟩ = false := by simp [World.frozen?, g0.out]
  have q0 : (W1.alloc (.cells #[] 5)).cell? ⟨w.heap.size, 0, none⟩ = some (.slice kp K kc) := below_cell ((Below.refl _ _).alloc (Nat.le_refl _) _) c0
  have KA : Hid (∀ w2 a2 k2, Below W1.heap.size W1 w2 → w2.heap[w.heap.size]? = some (.cells #[.slice kp K kc, .int .i64 seq, .bool gone, .slice vp V vc] 28) ∧ w2.heap[w.heap.size + 1]? = some (.cells #[.slice none 0 0, .int .i64 0, .bool false, .slice none 0 0] 28) ∧ (w2.setCell ⟨w.heap.size, 0, none⟩ (.slice a2 K k2)).heap[w.heap.size]? = some (.cells #[.slice a2 K k2, .int .i64 seq, .bool gone, .slice vp V vc] 28)) := fun w2 a2 k2 hb => by
    have h := (hb.block _ (by rw [s1.out]; omega)).trans g0.out
    exact ⟨h, (hb.block _ (by rw [s1.out]; omega)).trans g1.out, (set_row h 0 (.slice a2 K k2)).trans (by simp)⟩
  go_enter Try.func6, Try.ntmps6
  go_wp2_with (first
    | (at_builtin; refine wpList_append_src rfl _ _ 26 rfl w.heap.size i0 _ Try.underlying26 hi hz0 hz1 hz2 rfl _ 0 [] rfl (own_emptyS b3.out.size) _ V vc val rfl (HV.out.below (b3.out.trans (((Below.refl _ _).alloc (Nat.le_refl _) _).mono b3.out.size))) (by omega) (le_alloc b3.out.size _) ?_; intro v4 w4 ho4 hg4; have O4 := keep ho4; have b34 := keep (((Below.refl _ W3).alloc (Nat.le_refl _) _).grown hg4 (le_alloc (Nat.le_refl _) _) (fun j hj => by cases hj; exact Nat.le_refl _)); rw [Nat.zero_add, List.nil_append] at O4; clear ho4 hg4; obtain ⟨a4, k4, rfl⟩ := own_slice O4.out; have g4 := keep ((b34.out.block _ (Nat.lt_of_lt_of_le (by omega) s3.out)).trans g3.out); have g41 := keep ((b34.out.block _ (Nat.lt_of_lt_of_le (Nat.lt_succ_self _) s3.out)).trans g31.out); have f43 : w4.frozen? ⟨w.heap.size, 3, none⟩ = false := (by simp [World.frozen?, g4.out]); have c43 : w4.cell? ⟨w.heap.size, 3, none⟩ = some (.slice vp V vc) := cell_of_row _ _ _ _ _ _ g4.out; obtain ⟨W5, hW5⟩ : ∃ W5, w4.setCell ⟨w.heap.size, 3, none⟩ (.slice a4 V k4) = W5 := ⟨_, rfl⟩; have g5 : Hid (W5.heap[w.heap.size]? = some (.cells #[.slice a2 K k2, .int .i64 seq, .bool gone, .slice a4 V k4] 28)) := (by rw [← hW5]; exact (set_row g4.out 3 (.slice a4 V k4)).trans (by simp)); have g51 : Hid (W5.heap[w.heap.size + 1]? = some (.cells #[.slice none 0 0, .int .i64 0, .bool false, .slice none 0 0] 28)) := (by rw [← hW5]; exact (set_far 3 _ (by omega)).trans g41.out); have h50 : W5.cell? ⟨w.heap.size, 0, none⟩ = some (.slice a2 K k2) := cell_of_row _ _ _ _ _ _ g5.out; have h51 : W5.cell? ⟨w.heap.size, 1, none⟩ = some (.int .i64 seq) := cell_of_row _ _ _ _ _ _ g5.out; have h52 : W5.cell? ⟨w.heap.size, 2, none⟩ = some (.bool gone) := cell_of_row _ _ _ _ _ _ g5.out; have h53 : W5.cell? ⟨w.heap.size, 3, none⟩ = some (.slice a4 V k4) := cell_of_row _ _ _ _ _ _ g5.out; have d0 : W5.cell? ⟨w.heap.size + 1, 0, none⟩ = some (.slice none 0 0) := cell_of_row _ _ _ _ _ _ g51.out; have d1 : W5.cell? ⟨w.heap.size + 1, 1, none⟩ = some (.int .i64 0) := cell_of_row _ _ _ _ _ _ g51.out; have d2 : W5.cell? ⟨w.heap.size + 1, 2, none⟩ = some (.bool false) := cell_of_row _ _ _ _ _ _ g51.out; have d3 : W5.cell? ⟨w.heap.size + 1, 3, none⟩ = some (.slice none 0 0) := cell_of_row _ _ _ _ _ _ g51.out; have e0 : W5.frozen? ⟨w.heap.size + 1, 0, none⟩ = false := (by simp [World.frozen?, g51.out]); have e1 : W5.frozen? ⟨w.heap.size + 1, 1, none⟩ = false := (by simp [World.frozen?, g51.out]); have e2 : W5.frozen? ⟨w.heap.size + 1, 2, none⟩ = false := (by simp [World.frozen?, g51.out]); have e3 : W5.frozen? ⟨w.heap.size + 1, 3, none⟩ = false := (by simp [World.frozen?, g51.out]))
    | (at_builtin; refine wpList_append_src rfl _ _ 26 rfl w.heap.size i0 _ Try.underlying26 hi hz0 hz1 hz2 rfl _ 0 [] rfl (own_emptyS b1.out.size) _ K kc key rfl (HK.out.below (b1.out.trans (((Below.refl _ _).alloc (Nat.le_refl _) _).mono b1.out.size))) (by omega) (le_alloc b1.out.size _) ?_; intro v2 w2 ho2 hg2; have O2 := keep ho2; have b12 := keep (((Below.refl _ W1).alloc (Nat.le_refl _) _).grown hg2 (le_alloc (Nat.le_refl _) _) (fun j hj => by cases hj; exact Nat.le_refl _)); rw [Nat.zero_add, List.nil_append] at O2; clear ho2 hg2; obtain ⟨a2, k2, rfl⟩ := own_slice O2.out; have G2 := keep (KA.out w2 a2 k2 b12.out); obtain ⟨W3, hW3⟩ : ∃ W3, w2.setCell ⟨w.heap.size, 0, none⟩ (.slice a2 K k2) = W3 := ⟨_, rfl⟩; have g3 : Hid (W3.heap[w.heap.size]? = some (.cells #[.slice a2 K k2, .int .i64 seq, .bool gone, .slice vp V vc] 28)) := (by rw [← hW3]; exact G2.out.2.2); have b3 : Hid (Below w.heap.size w W3) := (by rw [← hW3]; exact (b1.out.trans (b12.out.mono b1.out.size)).setCell (p := ⟨w.heap.size, 0, none⟩) (Nat.le_refl _) _); have f20 : w2.frozen? ⟨w.heap.size, 0, none⟩ = false := (by simp [World.frozen?, G2.out.1]); have c20 : w2.cell? ⟨w.heap.size, 0, none⟩ = some (.slice kp K kc) := cell_of_row _ _ _ _ _ _ G2.out.1; have s3 : Hid (w.heap.size + 2 ≤ W3.heap.size) := (by rw [← hW3]; have := b12.out.size; rw [s1.out] at this; exact (show w.heap.size + 2 ≤ (w2.setCell ⟨w.heap.size, 0, none⟩ (.slice a2 K k2)).heap.size from by simpa using this)); have g31 : Hid (W3.heap[w.heap.size + 1]? = some (.cells #[.slice none 0 0, .int .i64 0, .bool false, .slice none 0 0] 28)) := (by rw [← hW3]; exact (set_far 0 _ (by omega)).trans G2.out.2.1); have q3 : (W3.alloc (.cells #[] 5)).cell? ⟨w.heap.size, 3, none⟩ = some (.slice vp V vc) := below_cell ((Below.refl _ _).alloc (Nat.le_refl _) _) (cell_of_row _ _ _ _ _ _ g3.out)))
  have far : ∀ {v : Value} {n : Nat} {xs : List Value}, w4.ownsRow w.heap.size 5 1 v n xs → ∀ g, v.ownBlock = some g → g ≠ w.heap.size ∧ g ≠ w.heap.size + 1 := fun {v n xs} h g hg => by
    obtain ⟨cur, hc⟩ := own_tag h hg
    refine ⟨fun e => ?_, fun e => ?_⟩
    · rw [e, g4.out] at hc; cases hc
    · rw [e, g41.out] at hc; cases hc
  have far2 : ∀ g, (Value.slice a2 K k2).ownBlock = some g → g ≠ w.heap.size := fun g hg => by
    obtain ⟨cur, hc⟩ := own_tag O2.out hg
    intro e
    rw [e, G2.out.1] at hc; cases hc
  have O2' := keep (own_block (w' := w4) O2.out (fun g hg => (b34.out.block g (by rw [← hW3]; simpa using own_size O2.out hg)).trans (by rw [← hW3]; exact set_far 0 _ (far2 g hg))))
  refine ⟨rfl, .agg #[.slice a2 K k2, .int .i64 seq, .bool gone, .slice a4 V k4], ?_, ⟨a2, k2, a4, k4, ⟨key, seq, gone, val⟩⟩, ?_, rfl, ⟨?_, ?_⟩, ?_⟩
  · clear hW1 hW3 hW5
    have r0 : (W5.setCell ⟨w.heap.size + 1, 0, none⟩ (.slice a2 K k2)).cell? ⟨w.heap.size + 1, 0, none⟩ = some (.slice a2 K k2) := World.cell?_setCell_same' _ _ _ (by simp [go_sem, d0])
    have r1 : ((W5.setCell ⟨w.heap.size + 1, 0, none⟩ (.slice a2 K k2)).setCell ⟨w.heap.size + 1, 1, none⟩ (.int .i64 seq)).cell? ⟨w.heap.size + 1, 1, none⟩ = some (.int .i64 seq) := World.cell?_setCell_same' _ _ _ (by simp [go_sem, d1])
    have r2 : (((W5.setCell ⟨w.heap.size + 1, 0, none⟩ (.slice a2 K k2)).setCell ⟨w.heap.size + 1, 1, none⟩ (.int .i64 seq)).setCell ⟨w.heap.size + 1, 2, none⟩ (.bool gone)).cell? ⟨w.heap.size + 1, 2, none⟩ = some (.bool gone) := World.cell?_setCell_same' _ _ _ (by simp [go_sem, d2])
    have r3 : ((((W5.setCell ⟨w.heap.size + 1, 0, none⟩ (.slice a2 K k2)).setCell ⟨w.heap.size + 1, 1, none⟩ (.int .i64 seq)).setCell ⟨w.heap.size + 1, 2, none⟩ (.bool gone)).setCell ⟨w.heap.size + 1, 3, none⟩ (.slice a4 V k4)).cell? ⟨w.heap.size + 1, 3, none⟩ = some (.slice a4 V k4) := World.cell?_setCell_same' _ _ _ (by simp [go_sem, d3])
    simp [results, Try.f6, go_sem, loadCells, loadCellsFrom, r0, r1, r2, r3]
  · show _ = Ending.returned (Value.agg #[.slice a2 key.length k2, .int .i64 seq, .bool gone, .slice a4 val.length k4])
    rw [HKK.out, HVV.out]
  · show World.ownsRow _ _ _ _ (.slice a2 key.length k2) key.length (bv key)
    rw [HKK.out]
    refine own_block O2'.out (fun g hg => ?_)
    obtain ⟨h1, h2⟩ := far O2'.out g hg
    rw [← hW5]
    simp only [set_far _ _ h1, set_far _ _ h2]
  · show World.ownsRow _ _ _ _ (.slice a4 val.length k4) val.length (bv val)
    rw [HVV.out]
    refine own_block O4.out (fun g hg => ?_)
    obtain ⟨h1, h2⟩ := far O4.out g hg
    rw [← hW5]
    simp only [set_far _ _ h1, set_far _ _ h2]
  · have h5 : Below w.heap.size w W5 := by rw [← hW5]; exact (b3.out.trans (b34.out.mono b3.out.size)).setCell (p := ⟨w.heap.size, 3, none⟩) (Nat.le_refl _) _
    exact ((((h5.setCell (p := ⟨w.heap.size + 1, 0, none⟩) (Nat.le_succ _) _).setCell (p := ⟨w.heap.size + 1, 1, none⟩) (Nat.le_succ _) _).setCell (p := ⟨w.heap.size + 1, 2, none⟩) (Nat.le_succ _) _).setCell (p := ⟨w.heap.size + 1, 3, none⟩) (Nat.le_succ _) _)
end Go.Proofs.Ytjiphmeoofeepaa
