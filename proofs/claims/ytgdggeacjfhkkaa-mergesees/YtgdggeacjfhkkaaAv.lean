/- The walk of the laws' awake. -/
import Derived.Test.YtgdggeacjfhkkaaMa
import Derived.Test.YtgdggeacjfhkkaaMb
import Derived.Test.YtgdggeacjfhkkaaMf
import Derived.Lib.ConvBytes
namespace Go.Proofs.Ytgdggeacjfhkkaa.Mg
open Go.Proofs.Ytgdggeacjfhkkaa
open Go.Proofs.Ytgdggeacjfhkkaa.Sk (Ent Goes Up)
def a5 : Ent := ⟨[97], 5, false, []⟩
def a3 : Ent := ⟨[97], 3, false, []⟩
def a1 : Ent := ⟨[97], 1, false, []⟩
def b4 : Ent := ⟨[98], 4, true, []⟩
def awL : List Ent := [a5, a3, a1, b4]
theorem aw_up : Up awL := by
  refine ⟨?_, ?_, ?_, ?_, trivial⟩ <;> (intro b hb; simp only [List.mem_cons, List.not_mem_nil, or_false] at hb)
  · rcases hb with rfl | rfl | rfl <;> (show ahead _ _ = true; decide)
  · rcases hb with rfl | rfl <;> (show ahead _ _ = true; decide)
  · rcases hb with rfl; (show ahead _ _ = true; decide)
theorem aw_prune : prune awL [3] false = [a5, a3, b4] := by rfl
theorem aw_prune2 : prune awL [3] true = [a5, a3] := by rfl
theorem aw_vis : vis awL 4 = [a3] := by rfl
theorem aw_split : (split awL 2).length = 2 := by rfl
theorem find_twice (l : List Ent) (p : Ent → Bool) : (l ++ l).find? p = l.find? p := by
  rw [List.find?_append]
  cases l.find? p <;> rfl
theorem aw_merge {m : List Ent} (h : Mrg ([[a5, a3], [a1, b4], awL].flatten) m) : m.length = 4 := by
  have h2 : Mrg ([[a5, a3], [a1, b4], awL].flatten) awL := (Mrg.self aw_up).congr (fun e => (find_twice awL (alike e)).symm)
  rw [h.uniq h2]
  rfl
end Go.Proofs.Ytgdggeacjfhkkaa.Mg
namespace Go.Proofs.Ytgdggeacjfhkkaa
open Go.RowKit
open Sk (Ent)

set_option maxHeartbeats 2000000 in
set_option maxRecDepth 100000 in
theorem awake1_any (l : List UInt8) (seq : Int) (gone : Bool) (w : World) :
    Calls Try.prog 22 #[.string ⟨l.toArray⟩, .int .i64 seq, .bool gone] w fun e w' => ∃ y : EV, e = .returned (ev y) ∧ y.e = ⟨l, seq, gone, []⟩ ∧ entKind.held w' y ∧ Below w.heap.size w w' := by
  have kc := fun w : World => Lib.run_convert_string_bytes (P := Try.prog) w 9 34 5 ⟨l.toArray⟩ Try.underlying9 Try.underlying34 Try.underlying5
  obtain ⟨W1, hW1⟩ : ∃ W1, w.alloc (.cells #[.slice none 0 0, .int .i64 0, .bool false, .slice none 0 0] 36) = W1 := ⟨_, rfl⟩
  have b1 : Hid (Below w.heap.size w W1) := by rw [← hW1]; exact (Below.refl _ _).alloc (Nat.le_refl _) _
  have s1 : Hid (W1.heap.size = w.heap.size + 1) := by rw [← hW1]; show _ = _; simp
  have g1 : Hid (W1.heap[w.heap.size]? = some (.cells #[.slice none 0 0, .int .i64 0, .bool false, .slice none 0 0] 36)) := by rw [← hW1]; exact heap_alloc_new w _
  obtain ⟨W2, hW2⟩ : ∃ W2, Lib.bytesWorld W1 5 ⟨l.toArray⟩ = W2 := ⟨_, rfl⟩
  have b2 : Hid (Below W1.heap.size W1 W2) := by rw [← hW2]; exact below_bytesWorld W1 _
  obtain ⟨K, hK⟩ : ∃ K, grownCap W1 l.length 0 5 = K := ⟨_, rfl⟩
  have S2 : Hid (Src W2 (some ⟨W1.heap.size, 0, none⟩) l.length K l) := by rw [← hW2, ← hK]; exact Src.converted W1 l l.length rfl
  have kc1 := kc W1
  rw [hW2, show (⟨l.toArray⟩ : ByteArray).size = l.length by simp [ByteArray.size], hK] at kc1
  have g2 := keep ((b2.out.block _ (by rw [s1.out]; omega)).trans g1.out)
  have d0 : W2.cell? ⟨w.heap.size, 0, none⟩ = some (.slice none 0 0) := cell_of_row _ _ _ _ _ _ g2.out
  have d1 : W2.cell? ⟨w.heap.size, 1, none⟩ = some (.int .i64 0) := cell_of_row _ _ _ _ _ _ g2.out
  have d2 : W2.cell? ⟨w.heap.size, 2, none⟩ = some (.bool false) := cell_of_row _ _ _ _ _ _ g2.out
  have d3 : W2.cell? ⟨w.heap.size, 3, none⟩ = some (.slice none 0 0) := cell_of_row _ _ _ _ _ _ g2.out
  have e0 : W2.frozen? ⟨w.heap.size, 0, none⟩ = false := by simp [World.frozen?, g2.out]
  have e1 : W2.frozen? ⟨w.heap.size, 1, none⟩ = false := by simp [World.frozen?, g2.out]
  have e2 : W2.frozen? ⟨w.heap.size, 2, none⟩ = false := by simp [World.frozen?, g2.out]
  have e3 : W2.frozen? ⟨w.heap.size, 3, none⟩ = false := by simp [World.frozen?, g2.out]
  clear kc hK hW2
  obtain ⟨M, hM⟩ : ∃ M, l.length = M := ⟨_, rfl⟩
  have HM := keep hM
  rw [hM] at kc1 S2
  clear hM
  go_enter Try.func22, Try.ntmps22
  go_wp2
  refine ⟨rfl, .agg #[.slice (some ⟨W1.heap.size, 0, none⟩) M K, .int .i64 seq, .bool gone, .slice none 0 0], ?_, ⟨some ⟨W1.heap.size, 0, none⟩, K, none, 0, ⟨l, seq, gone, []⟩⟩, ?_, rfl, ⟨?_, ?_⟩, ?_⟩
  · clear hW1
    have r0 : (W2.setCell ⟨w.heap.size, 0, none⟩ (.slice (some ⟨W1.heap.size, 0, none⟩) M K)).cell? ⟨w.heap.size, 0, none⟩ = some (.slice (some ⟨W1.heap.size, 0, none⟩) M K) := World.cell?_setCell_same' _ _ _ (by simp [go_sem, d0])
    have r1 : ((W2.setCell ⟨w.heap.size, 0, none⟩ (.slice (some ⟨W1.heap.size, 0, none⟩) M K)).setCell ⟨w.heap.size, 1, none⟩ (.int .i64 seq)).cell? ⟨w.heap.size, 1, none⟩ = some (.int .i64 seq) := World.cell?_setCell_same' _ _ _ (by simp [go_sem, d1])
    have r2 : (((W2.setCell ⟨w.heap.size, 0, none⟩ (.slice (some ⟨W1.heap.size, 0, none⟩) M K)).setCell ⟨w.heap.size, 1, none⟩ (.int .i64 seq)).setCell ⟨w.heap.size, 2, none⟩ (.bool gone)).cell? ⟨w.heap.size, 2, none⟩ = some (.bool gone) := World.cell?_setCell_same' _ _ _ (by simp [go_sem, d2])
    have r3 : ((((W2.setCell ⟨w.heap.size, 0, none⟩ (.slice (some ⟨W1.heap.size, 0, none⟩) M K)).setCell ⟨w.heap.size, 1, none⟩ (.int .i64 seq)).setCell ⟨w.heap.size, 2, none⟩ (.bool gone)).setCell ⟨w.heap.size, 3, none⟩ (.slice none 0 0)).cell? ⟨w.heap.size, 3, none⟩ = some (.slice none 0 0) := World.cell?_setCell_same' _ _ _ (by simp [go_sem, d3])
    simp [results, Try.f22, go_sem, loadCells, loadCellsFrom, r0, r1, r2, r3]
  · show _ = Ending.returned (Value.agg #[.slice (some ⟨W1.heap.size, 0, none⟩) l.length K, .int .i64 seq, .bool gone, .slice none 0 0])
    rw [HM.out]
  · show Src _ (some ⟨W1.heap.size, 0, none⟩) l.length K l
    rw [HM.out]
    have far : W1.heap.size ≠ w.heap.size := by rw [s1.out]; omega
    refine ⟨S2.out.len, S2.out.cap, S2.out.nil, fun ad had j u hu => ?_⟩
    have h1 := S2.out.cells ad had j u hu
    cases had
    rw [World.cell?_of_block (w := W2) (by rw [Addr.add_mid]; simp only [set_far _ _ far])]
    exact h1
  · exact src_nil _
  · exact (((((b1.out.trans (b2.out.mono b1.out.size)).setCell (p := ⟨w.heap.size, 0, none⟩) (Nat.le_refl _) _).setCell (p := ⟨w.heap.size, 1, none⟩) (Nat.le_refl _) _).setCell (p := ⟨w.heap.size, 2, none⟩) (Nat.le_refl _) _).setCell (p := ⟨w.heap.size, 3, none⟩) (Nat.le_refl _) _)
end Go.Proofs.Ytgdggeacjfhkkaa
