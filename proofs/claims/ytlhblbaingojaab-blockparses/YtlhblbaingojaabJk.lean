/- Where the document's Parse stops early the bytes are no block, over plain lists; no walk. -/
import Derived.Test.YtlhblbaingojaabJb
import Derived.Test.YtlhblbaingojaabRv
namespace Go.Proofs.Ytlhblbaingojaab.Bq
open Go.Proofs.Ytlhblbaingojaab
open Go.Proofs.Ytlhblbaingojaab.Sk (Ent)

/-- Reading k entries of a row. -/
theorem read_row : ∀ (k : Nat) (l : List Ent) (a t : List UInt8), (∀ e ∈ l, Sk.may e = true) → k ≤ l.length → ahK k a (rowB a l ++ t) = lastK a (l.take k) ∧ reK k (rowB a l ++ t) = rowB (lastK a (l.take k)) (l.drop k) ++ t
  | 0, l, a, t, _, _ => by simp [ahK, reK, lastK]
  | k + 1, [], a, t, _, h => by simp at h
  | k + 1, e :: l, a, t, hm, h => by
    have h1 := rd_ent (k := a) (t := rowB e.key l ++ t) (hm e (List.mem_cons_self ..))
    have ih := read_row k l e.key t (fun x hx => hm x (List.mem_cons_of_mem _ hx)) (by simpa using h)
    simp only [rowB, ahK, reK, List.append_assoc, List.take_succ_cons, List.drop_succ_cons, lastK]
    rw [h1.1, h1.2]
    exact ih
/-- An entry is read without a fault. -/
def fine (a r : List UInt8) : Prop := eOf r = 0 ∧ tE (rOf r) 64 = 0 ∧ eOf (tR (rOf r) 64) = 0 ∧ tE (rOf (tR (rOf r) 64)) 1024 = 0 ∧ nOf r ≤ a.length
theorem fine_ent {k : List UInt8} {e : Ent} {t : List UInt8} (h : Sk.may e = true) : fine k (entB k e ++ t) := by
  have b := may_bounds h
  have m := mark_le h
  have sl := share_left e.key k
  have sr := share_right e.key k
  have f1 := nOf_put (n := share e.key k) (r := num (e.key.drop (share e.key k)).length ++ (e.key.drop (share e.key k) ++ (num (mark e) ++ (num e.val.length ++ (e.val ++ t))))) (by omega)
  have f2 := tS_put (s := e.key.drop (share e.key k)) (r := num (mark e) ++ (num e.val.length ++ (e.val ++ t))) (most := 64) (by rw [List.length_drop]; omega) (by rw [List.length_drop]; omega)
  have t2 := txt_put8 (s := e.key.drop (share e.key k)) (r := num (mark e) ++ (num e.val.length ++ (e.val ++ t))) (most := 64) (by rw [List.length_drop]; omega) (by rw [List.length_drop]; omega)
  have f3 := nOf_put (n := mark e) (r := num e.val.length ++ (e.val ++ t)) (by omega)
  have t4 := txt_put8 (s := e.val) (r := t) (most := 1024) (by omega) (by omega)
  have e0 : entB k e ++ t = num (share e.key k) ++ (num (e.key.drop (share e.key k)).length ++ (e.key.drop (share e.key k) ++ (num (mark e) ++ (num e.val.length ++ (e.val ++ t))))) := by
    simp only [entB, List.append_assoc]
  have g1 := takeNum_put (n := share e.key k) (r := num (e.key.drop (share e.key k)).length ++ (e.key.drop (share e.key k) ++ (num (mark e) ++ (num e.val.length ++ (e.val ++ t))))) (by omega)
  have g3 := takeNum_put (n := mark e) (r := num e.val.length ++ (e.val ++ t)) (by omega)
  rw [e0]
  refine ⟨?_, ?_, ?_, ?_, ?_⟩
  · unfold eOf; rw [g1]; rfl
  · rw [f1.2]; unfold tE; rw [t2]; rfl
  · rw [f1.2, f2.2]; simp [eOf, g3]
  · rw [f1.2, f2.2, f3.2]; simp [tE, t4]
  · rw [f1.1]; exact sr
theorem parse_first {b : List UInt8} (h : eOf b ≠ 0 ∨ 8 < nOf b) : parse b = none := parse_none (fun l hl e => by
  have hn := okB_len hl
  have e0 : b = num l.length ++ (rowB [] l ++ be 4 (crc (rawB l)).toNat) := by rw [← e]; simp only [blk, rawB, List.append_assoc]
  have f1 := nOf_put (n := l.length) (r := rowB [] l ++ be 4 (crc (rawB l)).toNat) (by omega)
  have g1 := takeNum_put (n := l.length) (r := rowB [] l ++ be 4 (crc (rawB l)).toNat) (by omega)
  rcases h with h | h
  · apply h
    rw [e0]
    simp [eOf, g1]
  · rw [e0, f1.1] at h
    omega)
theorem parse_fault {b : List UInt8} {k : Nat} (hk : k < nOf b) (h : ¬ fine (ahK k [] (rOf b)) (reK k (rOf b))) : parse b = none := parse_none (fun l hl e => by
  have hn := okB_len hl
  have e0 : b = num l.length ++ (rowB [] l ++ be 4 (crc (rawB l)).toNat) := by rw [← e]; simp only [blk, rawB, List.append_assoc]
  have f1 := nOf_put (n := l.length) (r := rowB [] l ++ be 4 (crc (rawB l)).toNat) (by omega)
  have hkl : k < l.length := by rw [e0, f1.1] at hk; exact hk
  have hr := read_row k l [] (be 4 (crc (rawB l)).toNat) (okB_may hl) (by omega)
  apply h
  rw [e0, f1.2, hr.1, hr.2, List.drop_eq_getElem_cons hkl, rowB, List.append_assoc]
  exact fine_ent (okB_may hl _ (List.getElem_mem hkl)))
theorem eOf_or (b : List UInt8) : eOf b = 0 ∨ eOf b = 2 := by unfold eOf; split <;> simp
theorem tE_or (b : List UInt8) (m : Int) : tE b m = 0 ∨ tE b m = 2 := by unfold tE; split <;> simp
end Go.Proofs.Ytlhblbaingojaab.Bq
