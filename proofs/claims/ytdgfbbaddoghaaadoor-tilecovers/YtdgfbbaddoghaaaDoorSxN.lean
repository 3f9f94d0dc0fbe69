/- Blocks one behind the other; the sum of bytes out of its whole blocks and its ending; no walk. -/
import Derived.Test.YtdgfbbaddoghaaaDoorSxE
namespace Go.Proofs.YtdgfbbaddoghaaaDoor.Sha

theorem sch_congr (f g : Nat → UInt8) (h : ∀ i, i < 64 → f i = g i) (n : Nat) : sch f n = sch g n := by
  induction n with
  | zero =>
    unfold sch
    apply List.map_congr_left
    intro i hi
    have hi' : i < 16 := List.mem_range.1 hi
    unfold w16
    rw [h (4 * i) (by omega), h (4 * i + 1) (by omega), h (4 * i + 2) (by omega), h (4 * i + 3) (by omega)]
  | succ n ih => unfold sch; rw [ih]
theorem rnds_congr (f g : Nat → UInt8) (h : ∀ i, i < 64 → f i = g i) (n : Nat) (s : St) : rnds f n s = rnds g n s := by
  induction n with
  | zero => rfl
  | succ n ih =>
    unfold rnds
    rw [ih]
    unfold wd
    rw [sch_congr f g h]
theorem tk_congr (s : St) (f g : Nat → UInt8) (h : ∀ i, i < 64 → f i = g i) : tk s f = tk s g := by
  unfold tk
  rw [rnds_congr f g h]
theorem blk_congr (f g : Nat → UInt8) (n : Nat) (s : St) (h : ∀ i, i < 64 * n → f i = g i) : blk f n s = blk g n s := by
  induction n with
  | zero => rfl
  | succ n ih =>
    unfold blk
    rw [ih (fun i hi => h i (by omega))]
    exact tk_congr _ _ _ (fun i hi => h _ (by omega))
theorem blk_add (g : Nat → UInt8) (a b : Nat) (s : St) : blk g (a + b) s = blk (fun i => g (64 * a + i)) b (blk g a s) := by
  induction b with
  | zero => rfl
  | succ b ih =>
    rw [← Nat.add_assoc]
    unfold blk
    rw [ih]
    apply tk_congr
    intro i _
    show g _ = g _
    congr 1
    omega
theorem padded_length (l : List UInt8) : (padded l).length = l.length + 1 + nz l.length + 8 := by
  unfold padded
  simp [be64]
  omega
theorem fn_left (a b : List UInt8) (i : Nat) (h : i < a.length) : fn (a ++ b) i = fn a i := by
  unfold fn
  rw [List.getD_eq_getElem?_getD, List.getElem?_append_left h, ← List.getD_eq_getElem?_getD]
theorem fn_right (a b : List UInt8) (i : Nat) : fn (a ++ b) (a.length + i) = fn b i := by
  unfold fn
  rw [List.getD_eq_getElem?_getD, List.getElem?_append_right (by omega), ← List.getD_eq_getElem?_getD]
  congr 1
  omega
theorem fn_take (l : List UInt8) (n i : Nat) (h : i < n) : fn (l.take n) i = fn l i := by
  unfold fn
  rw [List.getD_eq_getElem?_getD, List.getElem?_take, if_pos h, ← List.getD_eq_getElem?_getD]
/-- The sum, as the program makes it: whole blocks, and then the ending. -/
theorem sum_parts (l : List UInt8) (m r whole : Nat) (hm : l.length = m) (hr : m % 64 = r) (hw : m - r = whole) :
    (blk (fn (tail1 (l.drop whole) (nz r) ++ be64 (m * 8))) ((r + 1 + nz r + 8) / 64) (blk (fn l) (whole / 64) st0)).bytes = sum l := by
  unfold sum
  rw [padded_length, hm]
  have hz : nz m = nz r := by unfold nz; omega
  have z1 := (nz_of r).1
  have e0 : (m + 1 + nz m + 8) / 64 = whole / 64 + (r + 1 + nz r + 8) / 64 := by rw [hz]; omega
  have ep : padded l = l.take whole ++ (tail1 (l.drop whole) (nz r) ++ be64 (m * 8)) := by
    unfold padded tail1
    rw [hm, hz]
    simp only [← List.append_assoc]
    rw [List.take_append_drop]
  have ht : (l.take whole).length = whole := by rw [List.length_take]; omega
  have hwd : 64 * (whole / 64) = whole := by omega
  rw [e0, blk_add, ep]
  congr 1
  have e1 : blk (fn (l.take whole ++ (tail1 (l.drop whole) (nz r) ++ be64 (m * 8)))) (whole / 64) st0 = blk (fn l) (whole / 64) st0 := by
    apply blk_congr
    intro i hi
    rw [fn_left _ _ _ (by omega), fn_take _ _ _ (by omega)]
  rw [e1]
  apply blk_congr
  intro i _
  rw [hwd]
  have := fn_right (l.take whole) (tail1 (l.drop whole) (nz r) ++ be64 (m * 8)) i
  rw [ht] at this
  exact this.symm
theorem bytes32 (s : St) : s.bytes.length = 32 := rfl
theorem sum_length (l : List UInt8) : (sum l).length = 32 := bytes32 _
end Go.Proofs.YtdgfbbaddoghaaaDoor.Sha
