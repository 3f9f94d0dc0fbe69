/- What the program's checks come to is what the document's do; no walk. -/
import Derived.Test.YtelebhcaljepaabDoorKq
import Derived.Test.YtelebhcaljepaabDoorMw
namespace Go.Proofs.YtelebhcaljepaabDoor
open Go.RowKit

/-- What is summed on the way up, the lowest first. -/
def prs (x : List UInt8) : List Bool → List (List UInt8) → List (List UInt8 × List UInt8)
  | b :: s, p :: ps => (if b then (x, p) else (p, x)) :: prs (Mt.up nodeL x b p) s ps
  | _, _ => []
theorem prs_snoc : ∀ (s : List Bool) (ps : List (List UInt8)) (x : List UInt8) (b : Bool) (p : List UInt8), s.length = ps.length → prs x (s ++ [b]) (ps ++ [p]) = prs x s ps ++ [if b then (Mt.top nodeL x s ps, p) else (p, Mt.top nodeL x s ps)]
  | [], [], x, b, p, _ => rfl
  | c :: s, q :: ps, x, b, p, h => by
    have := prs_snoc s ps (Mt.up nodeL x c q) b p (by simpa using h)
    simp only [List.cons_append, prs, this]
    rfl
  | [], _ :: _, _, _, _, h => by simp at h
  | _ :: _, [], _, _, _, h => by simp at h
theorem prs_len : ∀ (s : List Bool) (ps : List (List UInt8)) (x : List UInt8), s.length = ps.length → (prs x s ps).length = s.length
  | [], [], x, _ => rfl
  | c :: s, q :: ps, x, h => by
    have := prs_len s ps (Mt.up nodeL x c q) (by simpa using h)
    simp only [prs, List.length_cons, this]
  | [], _ :: _, _, h => by simp at h
  | _ :: _, [], _, h => by simp at h
theorem prs_take : ∀ (s : List Bool) (ps : List (List UInt8)) (x : List UInt8) (j : Nat), (prs x s ps).take j = prs x (s.take j) (ps.take j)
  | [], _, x, j => by simp [prs]
  | c :: s, [], x, j => by simp [prs]
  | c :: s, q :: ps, x, 0 => by simp [prs]
  | c :: s, q :: ps, x, j + 1 => by
    have := prs_take s ps (Mt.up nodeL x c q) j
    simp [prs, this]
theorem prs_at {x : List UInt8} {s : List Bool} {ps : List (List UInt8)} {j : Nat} {b : Bool} {p : List UInt8} (hs : s[j]? = some b) (hp : ps[j]? = some p) : (prs x s ps)[j]? = some (if b then (Xs x s ps j, p) else (p, Xs x s ps j)) := by
  have h1 := (List.getElem?_eq_some_iff.1 hs).1
  have h2 := (List.getElem?_eq_some_iff.1 hp).1
  have h3 := prs_take s ps x (j + 1)
  rw [take_snoc hs, take_snoc hp, prs_snoc _ _ _ _ _ (by rw [List.length_take, List.length_take]; omega)] at h3
  have h4 : (prs x (s.take j) (ps.take j)).length = j := by rw [prs_len _ _ _ (by rw [List.length_take, List.length_take]; omega), List.length_take]; omega
  have h5 : ((prs x s ps).take (j + 1))[j]? = (prs x s ps)[j]? := by rw [List.getElem?_take_of_lt (by omega)]
  rw [← h5, h3, List.getElem?_append_right (by omega), h4, Nat.sub_self]
  rfl
/-- The first two, from the root on, that are not the same. -/
def collP (P Q : List (List UInt8 × List UInt8)) : Nat → Option (List UInt8 × List UInt8)
  | 0 => none
  | i + 1 => if P.getD i ([], []) = Q.getD i ([], []) then collP P Q i else some ((P.getD i ([], [])).1 ++ (P.getD i ([], [])).2, (Q.getD i ([], [])).1 ++ (Q.getD i ([], [])).2)
theorem collP_is {S : List Bool} {a b : List UInt8} {pa pb : List (List UInt8)} (la : pa.length = S.length) (lb : pb.length = S.length) (wa : wholeL pa = true) (wb : wholeL pb = true) (a32 : a.length = 32) (b32 : b.length = 32) :
    ∀ n, n ≤ S.length → Xs a S pa n = Xs b S pb n → collP (prs a S pa) (prs b S pb) n = collS S a pa b pb n
  | 0, _, _ => rfl
  | n + 1, hn, hX => by
    have ih := collP_is la lb wa wb a32 b32 n (by omega)
    obtain ⟨sb, x, q, y, r, g1, g2, g3, rfl, rfl, e1, e2⟩ := rcollide_loop a b S.length S pa pb rfl la lb n hn
    have hx := xs_32 a32 S pa n
    have hy := xs_32 b32 S pb n
    have hq := wholeL_mem wa q (List.mem_of_getElem? g2)
    have hr' := wholeL_mem wb r (List.mem_of_getElem? g3)
    have p1 : (prs a S pa).getD n ([], []) = if sb then (Xs a S pa n, q) else (q, Xs a S pa n) := by rw [List.getD_eq_getElem?_getD, prs_at g1 g2]; rfl
    have p2 : (prs b S pb).getD n ([], []) = if sb then (Xs b S pb n, r) else (r, Xs b S pb n) := by rw [List.getD_eq_getElem?_getD, prs_at g1 g3]; rfl
    show collP (prs a S pa) (prs b S pb) (n + 1) = Mt.coll (Xs a S pa) (Xs b S pb) (Is a S pa) (Is b S pb) (n + 1)
    unfold collP Mt.coll
    rw [if_pos hX, p1, p2, e1, e2]
    unfold inp
    unfold collS at ih
    cases sb with
    | true =>
      simp only [if_true, Prod.mk.injEq]
      by_cases h : Xs a S pa n = Xs b S pb n ∧ q = r
      · rw [if_pos h, if_pos (by rw [h.1, h.2]), ih h.1]
      · rw [if_neg h, if_neg (fun e => h (List.append_inj e (by rw [hx, hy])))]
    | false =>
      simp only [Bool.false_eq_true, if_false, Prod.mk.injEq]
      by_cases h : q = r ∧ Xs a S pa n = Xs b S pb n
      · rw [if_pos h, if_pos (by rw [h.1, h.2]), ih h.2]
      · rw [if_neg h, if_neg (fun e => h (List.append_inj e (by rw [hq, hr'])))]
/-- May a path be climbed? -/
def climbOk (leaf : List UInt8) (i n : Nat) (ps : List (List UInt8)) : Bool := decide (ps.length = (Mt.sides i n).length) && (wholeL ps && decide (leaf.length = 32))
theorem wholeL_two (a b : List UInt8) : wholeL [a, b] = (decide (a.length = 32) && decide (b.length = 32)) := by
  unfold wholeL
  simp
theorem pathOk_climb (leaf : List UInt8) (i n : Nat) (ps : List (List UInt8)) (rt : List UInt8) : pathOk leaf i n ps rt = (climbOk leaf i n ps && decide (Mt.top nodeL leaf (Mt.sides i n) ps = rt)) := by
  unfold pathOk climbOk
  rw [wholeL_two]
  by_cases h1 : leaf.length = 32
  · by_cases h2 : Mt.top nodeL leaf (Mt.sides i n) ps = rt
    · have h3 := xs_32 h1 (Mt.sides i n) ps ((Mt.sides i n).length + ps.length)
      unfold Xs at h3
      rw [List.take_of_length_le (by omega), List.take_of_length_le (by omega), h2] at h3
      simp [h1, h2, h3]
    · simp [h2]
  · simp [h1]
/-- What Collide answers, by what is summed. -/
theorem collL_climb (i n : Int) (a : List UInt8) (pa : List (List UInt8)) (b : List UInt8) (pb : List (List UInt8)) (hr : inRange i n = true) (ha : climbOk a i.toNat n.toNat pa = true) (hb : climbOk b i.toNat n.toNat pb = true) :
    collL i n a pa b pb = if ¬ Mt.top nodeL a (Mt.sides i.toNat n.toNat) pa = Mt.top nodeL b (Mt.sides i.toNat n.toNat) pb ∨ a = b then none else collP (prs a (Mt.sides i.toNat n.toNat) pa) (prs b (Mt.sides i.toNat n.toNat) pb) (Mt.sides i.toNat n.toNat).length := by
  unfold climbOk at ha hb
  simp only [Bool.and_eq_true, decide_eq_true_eq] at ha hb
  obtain ⟨la, wa, a32⟩ := ha
  obtain ⟨lb, wb, b32⟩ := hb
  have wc : wholeL [a, b] = true := by rw [wholeL_two]; simp [a32, b32]
  by_cases hab : a = b
  · rw [if_pos (.inr hab)]
    exact collOk_parts (by unfold collOk; rw [decide_eq_true hab]; simp)
  · have hok : collOk i n a pa b pb = true := by
      unfold collOk
      rw [hr, decide_eq_false hab, decide_eq_true la, decide_eq_true lb, wa, wb, wc]
      rfl
    unfold collL
    rw [hok, if_pos rfl]
    obtain ⟨S, hS⟩ : ∃ S, Mt.sides i.toNat n.toNat = S := ⟨_, rfl⟩
    rw [hS] at la lb ⊢
    have t1 : Mt.top nodeL a S pa = Xs a S pa S.length := by unfold Xs; rw [List.take_of_length_le (Nat.le_refl _), List.take_of_length_le (by omega)]
    have t2 : Mt.top nodeL b S pb = Xs b S pb S.length := by unfold Xs; rw [List.take_of_length_le (Nat.le_refl _), List.take_of_length_le (by omega)]
    rw [t1, t2]
    by_cases ht : Xs a S pa S.length = Xs b S pb S.length
    · rw [if_neg (by simp [ht, hab]), collP_is la lb wa wb a32 b32 _ (Nat.le_refl _) ht]
    · rw [if_pos (.inl ht)]
      unfold collS
      cases hl : S.length with
      | zero => rfl
      | succ k =>
        rw [hl] at ht
        unfold Mt.coll
        rw [if_neg ht]
theorem collL_no {i n : Int} {a b : List UInt8} {pa pb : List (List UInt8)} (h : inRange i n = false ∨ climbOk a i.toNat n.toNat pa = false ∨ climbOk b i.toNat n.toNat pb = false) : collL i n a pa b pb = none := by
  refine collOk_parts ?_
  unfold collOk
  rw [wholeL_two]
  unfold climbOk at h
  rcases h with h | h | h
  · rw [h]; rfl
  · simp only [Bool.and_eq_false_iff, decide_eq_false_iff_not] at h ⊢
    rcases h with h | h | h
    · exact .inr (.inr (.inl h))
    · exact .inr (.inr (.inr (.inr (.inl h))))
    · exact .inr (.inr (.inr (.inr (.inr (.inr (.inl h))))))
  · simp only [Bool.and_eq_false_iff, decide_eq_false_iff_not] at h ⊢
    rcases h with h | h | h
    · exact .inr (.inr (.inr (.inl h)))
    · exact .inr (.inr (.inr (.inr (.inr (.inl h)))))
    · exact .inr (.inr (.inr (.inr (.inr (.inr (.inr h))))))
/-- What a proof's check comes to, as the program goes it. -/
def fullP (m n : Nat) (ps : List (List UInt8)) (old : List UInt8) : List (List UInt8) := if (Mt.way (Mt.endE m) (m - 1) 0 n).2 = 0 then old :: ps else ps
def bothOk (m n : Nat) (ps : List (List UInt8)) (old rt : List UInt8) : Bool :=
  decide ((fullP m n ps old).length = 1 + (Mt.way (Mt.endE m) (m - 1) 0 n).1.length) && (wholeL (fullP m n ps old) && (decide ((Mt.both nodeL ((fullP m n ps old).headD [], (fullP m n ps old).headD []) (Mt.way (Mt.endE m) (m - 1) 0 n).1 (fullP m n ps old).tail).1 = old) && decide ((Mt.both nodeL ((fullP m n ps old).headD [], (fullP m n ps old).headD []) (Mt.way (Mt.endE m) (m - 1) 0 n).1 (fullP m n ps old).tail).2 = rt)))
theorem both_32 : ∀ (ss : List Mt.Sd) (ps : List (List UInt8)) (x : List UInt8 × List UInt8), x.1.length = 32 → x.2.length = 32 → (Mt.both nodeL x ss ps).1.length = 32 ∧ (Mt.both nodeL x ss ps).2.length = 32
  | [], _, x, h1, h2 => by unfold Mt.both; exact ⟨h1, h2⟩
  | s :: ss, [], x, h1, h2 => by unfold Mt.both; exact ⟨h1, h2⟩
  | s :: ss, p :: ps, x, h1, h2 => by
    unfold Mt.both
    refine both_32 ss ps _ ?_ ?_
    · simp only; split
      · exact nodeL_len _ _
      · exact h1
    · simp only; split <;> exact nodeL_len _ _
theorem proofOk_both {m n : Nat} (h1 : 1 ≤ m) (hm : m ≤ n) (ps : List (List UInt8)) (old rt : List UInt8) : proofOk m n ps old rt = bothOk m n ps old rt := by
  have hR := fun t => Mt.way_left_rest nodeL [] old m h1 n 0 n rfl h1 hm true t false
  have hB := fun x p => Mt.way_both nodeL [] old m h1 n 0 n rfl h1 hm true x p [] false
  unfold Mt.need at hR
  simp only [Nat.sub_zero, Bool.true_and] at hR hB
  unfold proofOk bothOk fullP
  obtain ⟨W, hW⟩ : ∃ W, Mt.way (Mt.endE m) (m - 1) 0 n = W := ⟨_, rfl⟩
  rw [hW] at hR hB ⊢
  obtain ⟨row, nd⟩ := W
  simp only at hR hB ⊢
  by_cases h0 : nd = 0
  · subst h0
    rw [decide_eq_true rfl] at hR hB
    simp only [if_pos] at hR hB ⊢
    rw [hR ps]
    by_cases hl : ps.length = row.length
    · have hb := hB [] ps hl
      rw [List.append_nil] at hb
      rw [hb]
      have hw : wholeL (old :: ps) = (decide (old.length = 32) && wholeL ps) := by unfold wholeL; simp
      show (!_ && (decide _ && (wholeL ps && (wholeL [old, rt] && (decide ((Mt.both nodeL (old, old) row ps).1 = old) && decide ((Mt.both nodeL (old, old) row ps).2 = rt)))))) = (decide (ps.length + 1 = 1 + row.length) && (wholeL (old :: ps) && (decide ((Mt.both nodeL (old, old) row ps).1 = old) && decide ((Mt.both nodeL (old, old) row ps).2 = rt))))
      rw [if_pos (by omega), hw, wholeL_two, decide_eq_true (by omega : ps.length + 1 = 1 + row.length), List.length_drop, decide_eq_true (by omega : ps.length - (0 + row.length) = 0)]
      by_cases ho : old.length = 32
      · have h3 := both_32 row ps (old, old) ho ho
        obtain ⟨X, hX⟩ : ∃ X, Mt.both nodeL (old, old) row ps = X := ⟨_, rfl⟩
        rw [hX] at h3 ⊢
        by_cases e2 : X.2 = rt
        · rw [e2] at h3
          simp [e2, ho, h3.2]
        · simp [e2]
      · simp [ho]
    · rw [List.length_cons, decide_eq_false (by omega : ¬ ps.length + 1 = 1 + row.length)]
      by_cases hg : 0 + row.length ≤ ps.length
      · rw [if_pos hg]
        simp only [List.length_drop]
        rw [decide_eq_false (by omega : ¬ ps.length - (0 + row.length) = 0)]
        simp
      · rw [if_neg hg]
        simp
  · rw [decide_eq_false h0] at hR hB
    simp only [if_neg h0, Bool.false_eq_true, if_false] at hR hB ⊢
    rw [hR ps]
    by_cases hl : ps.length = 1 + row.length
    · match ps, hl with
      | [], hl => simp at hl; omega
      | x :: p, hl =>
        simp only [List.length_cons] at hl
        have hb := hB x p (by omega)
        rw [List.append_nil] at hb
        rw [hb]
        show (!_ && (decide _ && (wholeL (x :: p) && (wholeL [old, rt] && (decide ((Mt.both nodeL (x, x) row p).1 = old) && decide ((Mt.both nodeL (x, x) row p).2 = rt)))))) = (decide (p.length + 1 = 1 + row.length) && (wholeL (x :: p) && (decide ((Mt.both nodeL (x, x) row p).1 = old) && decide ((Mt.both nodeL (x, x) row p).2 = rt))))
        rw [if_pos (by simp only [List.length_cons]; omega), wholeL_two, decide_eq_true (by omega : p.length + 1 = 1 + row.length), List.length_drop, List.length_cons, decide_eq_true (by omega : p.length + 1 - (1 + row.length) = 0)]
        by_cases hw : wholeL (x :: p) = true
        · have hx := wholeL_mem hw x (by simp)
          rw [hw]
          have h3 := both_32 row p (x, x) hx hx
          obtain ⟨X, hX⟩ : ∃ X, Mt.both nodeL (x, x) row p = X := ⟨_, rfl⟩
          rw [hX] at h3 ⊢
          by_cases e1 : X.1 = old
          · by_cases e2 : X.2 = rt
            · rw [e1, e2] at h3
              simp [e1, e2, h3.1, h3.2]
            · simp [e2]
          · simp [e1]
        · simp [hw]
    · rw [decide_eq_false hl]
      by_cases hg : 1 + row.length ≤ ps.length
      · rw [if_pos hg]
        simp only [List.length_drop]
        rw [decide_eq_false (by omega : ¬ ps.length - (1 + row.length) = 0)]
        simp
      · rw [if_neg hg]
        simp
end Go.Proofs.YtelebhcaljepaabDoor
