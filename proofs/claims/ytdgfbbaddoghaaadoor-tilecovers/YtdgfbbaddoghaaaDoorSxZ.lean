/- sha.Sum of any slice of bytes: its contract. -/
import Derived.Test.YtdgfbbaddoghaaaDoorSxY
import Derived.Test.YtdgfbbaddoghaaaDoorSxN
namespace Go.Proofs.YtdgfbbaddoghaaaDoor.Sha
open Go.RowKit

theorem elem22 : Tryd.prog.underlying 48 = some (.slice (Tryd.prog.elem 48)) := by kernel_rfl
theorem size22 (w : World) : (sizeOf (Tryd.prog.elem 48)).run Tryd.prog w = .ok 1 w := by kernel_rfl
theorem slice_h (a : Option Addr) (len cap h : Nat) (hh : h ≤ cap) (w : World) :
    (Instr.slice 48 (.slice a len cap) none (some (.int .i64 (h : Int))) none).run Tryd.prog w = .ok (.slice a h cap) w := by
  rw [run_slice_h w 48 a len cap elem22 .i64 (h : Int) (by omega) (by omega), size22]
  have e : a.map (fun x => x.add (0 * 1)) = a := by cases a <;> rfl
  simp only [Result.andThen, sliced, Int.toNat_natCast, e, ite_self, Nat.sub_zero]
theorem slice_l (a : Option Addr) (len cap l : Nat) (hl : l ≤ len) (w : World) :
    (Instr.slice 48 (.slice a len cap) (some (.int .i64 (l : Int))) none none).run Tryd.prog w = .ok (.slice (if cap = l then a else a.map (fun x => x.add l)) (len - l) (cap - l)) w := by
  rw [run_slice_l w 48 a len cap elem22 .i64 (l : Int) (by omega) (by omega), size22]
  simp only [Result.andThen, sliced, Int.toNat_natCast, Nat.mul_one]
theorem Src.drop {w : World} {ao : Option Addr} {m c : Nat} {l : List UInt8} (h : Src w ao m c l) (k : Nat) (hk : k ≤ m) :
    Src w (if c = k then ao else ao.map (fun x => x.add k)) (m - k) (c - k) (l.drop k) := by
  have hlen : (l.drop k).length = m - k := by rw [List.length_drop, h.len]
  rcases Nat.eq_zero_or_pos (m - k) with h0 | h0
  · rw [h0]
    have hl : l.drop k = [] := List.length_eq_zero_iff.1 (by omega)
    rw [hl]
    refine Src.empty (fun e => ?_)
    by_cases hc : c = k
    · omega
    · rw [if_neg hc] at e
      cases ao with
      | none => have := (h.nil rfl).2; omega
      | some a => cases e
  · obtain ⟨b, off, rfl, _, hby⟩ := h.form (by omega)
    have hc := h.cap
    rw [if_neg (by omega)]
    have e : (some (⟨b, off, none⟩ : Addr)).map (fun x => x.add k) = some ⟨b, off + k, none⟩ := by
      simp only [Option.map_some, Addr.add_mid]
    rw [e]
    refine Src.mk_bytes hlen (by omega) (fun i hi => ?_)
    rw [Nat.add_assoc, hby (k + i) (by omega)]
    unfold fn
    rw [List.getD_eq_getElem?_getD, List.getD_eq_getElem?_getD, List.getElem?_drop]
theorem Tab.below {w w' : World} (h : Tab w) (hb : Below w.heap.size w w') : Tab w' := fun i hi => by
  rw [hb.cell (World.block_lt_of_cell? w _ (h i hi))]; exact h i hi
theorem Fst.below {w w' : World} (h : Fst w) (hb : Below w.heap.size w w') : Fst w' := fun i hi => by
  rw [hb.cell (World.block_lt_of_cell? w _ (h i hi))]; exact h i hi

/-- THE CONTRACT OF sha.Sum. -/
theorem sum_any (ao : Option Addr) (m c : Nat) (l : List UInt8) (w : World) (hm : m ≤ 140737488355328) (hc : c ≤ maxLen) (hT : Tab w) (hF : Fst w) (hs : Src w ao m c l) :
    Calls Tryd.prog 33 #[.slice ao m c] w fun e w' => e = .returned (.string ⟨(sum l).toArray⟩) ∧ Below w.heap.size w w' := by
  have hcap := hs.cap
  have hr : m - (m - m % 64) = m % 64 := by omega
  have hsrc := hs.drop (m - m % 64) (by omega)
  have hs2 := slice_l ao m c (m - m % 64) (by omega)
  rw [hr] at hsrc hs2
  have := sum_core ao _ m c (m % 64) (m - m % 64) (c - (m - m % 64)) (l.drop (m - m % 64)) (blk (fn l) ((m - m % 64) / 64) st0) w hm rfl rfl hT hF (slice_h ao m c (m - m % 64) (by omega)) hs2 ?_ hsrc
  · rw [sum_parts l m (m % 64) (m - m % 64) hs.len rfl rfl] at this
    exact this
  · intro w' hb'
    rcases Nat.eq_zero_or_pos (m - m % 64) with h0 | h0
    · rw [h0]
      exact takeAll_zero st0 ao c w'
    · obtain ⟨b, off, rfl, hblt, hby⟩ := hs.form (by omega)
      refine takeAll_any st0 b off (m - m % 64) c (fn l) w' (by omega) (by omega) hc ?_ (hT.below hb') (by have := hb'.size; omega)
      intro i hi
      rw [hb'.cell (p := ⟨b, off + i, none⟩) hblt]
      exact hby i (by omega)
end Go.Proofs.YtdgfbbaddoghaaaDoor.Sha
