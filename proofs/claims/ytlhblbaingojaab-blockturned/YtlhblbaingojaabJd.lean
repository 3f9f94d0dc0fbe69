/- Blocks that are cut off, go on, or are turned, over plain lists; no walk. -/
import Derived.Test.YtlhblbaingojaabJb
namespace Go.Proofs.Ytlhblbaingojaab.Bq
open Go.Proofs.Ytlhblbaingojaab
open Go.Proofs.Ytlhblbaingojaab.Sk (Ent)

/-- What stands behind a block turns nothing of what is read. -/
theorem rd_more {l : List Ent} (h : okB l = true) (t : List UInt8) : rd (blk l ++ t) = l := by
  have hl := okB_len h
  have f1 := nOf_put (n := l.length) (r := rowB [] l ++ (be 4 (crc (rawB l)).toNat ++ t)) (by omega)
  have e0 : blk l ++ t = num l.length ++ (rowB [] l ++ (be 4 (crc (rawB l)).toNat ++ t)) := by simp only [blk, rawB, List.append_assoc]
  unfold rd
  rw [e0, f1.1, f1.2, Nat.min_eq_left hl.2]
  exact rd_row l [] _ (okB_may h)
/-- No block begins with another one. -/
theorem blk_free {l l' : List Ent} (h : okB l = true) (h' : okB l' = true) {t : List UInt8} (e : blk l = blk l' ++ t) : t = [] := by
  have e1 : l = l' := by rw [← rd_blk h, e, rd_more h']
  rw [e1] at e
  have := congrArg List.length e
  rw [List.length_append] at this
  exact List.length_eq_zero_iff.1 (by omega)
theorem parse_cut {l : List Ent} (h : okB l = true) {k : Nat} (hk : k < (blk l).length) : parse ((blk l).take k) = none := parse_none (fun l' h' e => by
  have e1 : blk l = blk l' ++ (blk l).drop k := by rw [e, List.take_append_drop]
  have := congrArg List.length (blk_free h h' e1)
  rw [List.length_drop, List.length_nil] at this
  omega)
theorem parse_on {l : List Ent} (h : okB l = true) (x : UInt8) : parse (blk l ++ [x]) = none := parse_none (fun l' h' e => by
  have := blk_free h' h e
  cases this)
theorem set_split8 (t : List UInt8) (q : Nat) (y : UInt8) (hq : q < t.length) : t = t.take q ++ fn t q :: t.drop (q + 1) ∧ t.set q y = t.take q ++ y :: t.drop (q + 1) := by
  have e : fn t q = t[q] := by simp [fn, List.getD, hq]
  refine ⟨?_, ?_⟩
  · rw [e, ← List.drop_eq_getElem_cons hq, List.take_append_drop]
  · rw [List.set_eq_take_append_cons_drop, if_pos hq]
theorem set_ne8 {t : List UInt8} {q : Nat} {y : UInt8} (hq : q < t.length) (hy : y ≠ fn t q) : t.set q y ≠ t := fun h => by
  have h1 : (t.set q y)[q]? = some y := by simp [hq]
  rw [h] at h1
  apply hy
  simp [fn, List.getD, h1]
theorem parse_turned {l : List Ent} {k : Nat} (hk : k < (blk l).length) {y : UInt8} (hy : y ≠ fn (blk l) k) : parse ((blk l).set k y) = none := parse_none (fun l' h' e => by
  have hl := congrArg List.length e
  rw [List.length_set] at hl
  simp only [blk, List.length_append, be_length] at hl
  have hlen : (rawB l').length = (rawB l).length := by omega
  by_cases hkn : k < (rawB l).length
  · have hset : (blk l).set k y = (rawB l).set k y ++ be 4 (crc (rawB l)).toNat := by
      unfold blk
      rw [List.set_append_left _ _ hkn]
    rw [hset] at e
    unfold blk at e
    obtain ⟨e1, e2⟩ := List.append_inj e (by rw [List.length_set]; exact hlen)
    have hc : (crc (rawB l')).toNat = (crc (rawB l)).toNat := by
      have h1 := congrArg big e2
      rwa [big_be 4 _ (by have := (crc (rawB l')).toNat_lt; have e : (256 : Nat) ^ 4 = 4294967296 := rfl; omega), big_be 4 _ (by have := (crc (rawB l)).toNat_lt; have e : (256 : Nat) ^ 4 = 4294967296 := rfl; omega)] at h1
    have hc' : crc (rawB l') = crc (rawB l) := UInt32.toNat_inj.1 hc
    obtain ⟨s1, s2⟩ := set_split8 (rawB l) k y hkn
    rw [e1, s2] at hc'
    have hc2 : crc ((rawB l).take k ++ y :: (rawB l).drop (k + 1)) = crc ((rawB l).take k ++ fn (rawB l) k :: (rawB l).drop (k + 1)) := by rw [hc', ← s1]
    have := crc_turned hc2
    apply hy
    rw [this]
    unfold blk
    exact (fn_left _ _ _ hkn).symm
  · have hset : (blk l).set k y = rawB l ++ (be 4 (crc (rawB l)).toNat).set (k - (rawB l).length) y := by
      unfold blk
      rw [List.set_append_right _ _ (by omega)]
    rw [hset] at e
    unfold blk at e
    obtain ⟨e1, e2⟩ := List.append_inj e hlen
    rw [e1] at e2
    have hk2 : k - (rawB l).length < (be 4 (crc (rawB l)).toNat).length := by
      simp only [blk, List.length_append] at hk
      omega
    refine set_ne8 hk2 (fun hyy => hy ?_) e2.symm
    rw [hyy]
    unfold blk fn
    simp only [List.getD, List.getElem?_append_right (show (rawB l).length ≤ k by omega)])
end Go.Proofs.Ytlhblbaingojaab.Bq
