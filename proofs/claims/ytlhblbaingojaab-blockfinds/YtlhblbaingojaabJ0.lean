/- Blocks over plain lists; no walk. -/
import Derived.Test.YtlhblbaingojaabSa
import Derived.Test.YtlhblbaingojaabTt
import Derived.Test.YtlhblbaingojaabUn
namespace Go.Proofs.Ytlhblbaingojaab.Bq
open Go.Proofs.Ytlhblbaingojaab
open Go.Proofs.Ytlhblbaingojaab.Sk (Ent)

/-- How many bytes two keys begin with alike. -/
def share : List UInt8 → List UInt8 → Nat
  | a :: x, b :: y => if a = b then share x y + 1 else 0
  | [], _ => 0
  | _, [] => 0
theorem share_left : ∀ x y : List UInt8, share x y ≤ x.length
  | [], y => by cases y <;> simp [share]
  | a :: x, [] => by simp [share]
  | a :: x, b :: y => by
    have := share_left x y
    simp only [share, List.length_cons]
    split <;> omega
theorem share_comm : ∀ x y : List UInt8, share x y = share y x
  | [], [] => rfl
  | [], b :: y => by simp [share]
  | a :: x, [] => by simp [share]
  | a :: x, b :: y => by
    simp only [share]
    rw [share_comm x y]
    by_cases h : a = b
    · rw [if_pos h, if_pos h.symm]
    · rw [if_neg h, if_neg (fun e => h e.symm)]
theorem share_right (x y : List UInt8) : share x y ≤ y.length := by rw [share_comm]; exact share_left y x
theorem share_nil (x : List UInt8) : share x [] = 0 := by cases x <;> rfl
theorem share_take : ∀ x y : List UInt8, x.take (share x y) = y.take (share x y)
  | [], y => by cases y <;> simp [share]
  | a :: x, [] => by simp [share]
  | a :: x, b :: y => by
    have ih := share_take x y
    simp only [share]
    split
    · rename_i h
      subst h
      simp [ih]
    · rfl
theorem share_iff : ∀ (x y : List UInt8) (n : Nat), n ≤ share x y → (n < share x y ↔ n < x.length ∧ n < y.length ∧ fn x n = fn y n)
  | [], y, n, h => by cases y <;> simp [share]
  | a :: x, [], n, h => by simp [share]
  | a :: x, b :: y, n, h => by
    simp only [share] at h ⊢
    by_cases hab : a = b
    · rw [if_pos hab] at h ⊢
      cases n with
      | zero => simp [fn, hab]
      | succ n =>
        have ih := share_iff x y n (by omega)
        simp only [List.length_cons, Nat.add_lt_add_iff_right]
        rw [ih]
        simp [fn]
    · rw [if_neg hab] at h ⊢
      obtain rfl : n = 0 := by omega
      simp [fn, hab]
/-- The number that tells Seq and Gone. -/
def mark (e : Ent) : Nat := 2 * e.seq.toNat + (if e.gone then 1 else 0)
/-- An entry's bytes, behind one of that key. -/
def entB (ahead : List UInt8) (e : Ent) : List UInt8 :=
  num (share e.key ahead) ++ (num (e.key.drop (share e.key ahead)).length ++ (e.key.drop (share e.key ahead) ++ (num (mark e) ++ (num e.val.length ++ e.val))))
def rowB : List UInt8 → List Ent → List UInt8
  | _, [] => []
  | k, e :: l => entB k e ++ rowB e.key l
def lastK : List UInt8 → List Ent → List UInt8
  | k, [] => k
  | _, e :: l => lastK e.key l
theorem rowB_snoc : ∀ (l : List Ent) (k : List UInt8) (e : Ent), rowB k (l ++ [e]) = rowB k l ++ entB (lastK k l) e
  | [], k, e => by simp [rowB, lastK]
  | a :: l, k, e => by simp only [List.cons_append, rowB, lastK, rowB_snoc l, List.append_assoc]
theorem lastK_snoc : ∀ (l : List Ent) (k : List UInt8) (e : Ent), lastK k (l ++ [e]) = e.key
  | [], k, e => rfl
  | a :: l, k, e => by simp only [List.cons_append, lastK, lastK_snoc l]
def rawB (l : List Ent) : List UInt8 := num l.length ++ rowB [] l
def blk (l : List Ent) : List UInt8 := rawB l ++ be 4 (crc (rawB l)).toNat
/-- May the i-th entry be, and does the one ahead of it go ahead of it? -/
def okAt (l : List Ent) (i : Nat) : Bool :=
  match l[i]? with
  | none => true
  | some e => Sk.may e && (match i with
    | 0 => true
    | j + 1 => match l[j]? with
      | none => true
      | some a => Sk.aheadOf e.key e.seq a)
def ordB (l : List Ent) (k : Nat) : Bool := (List.range k).all (okAt l)
theorem ordB_zero (l : List Ent) : ordB l 0 = true := rfl
theorem ordB_succ (l : List Ent) (k : Nat) : ordB l (k + 1) = (ordB l k && okAt l k) := by simp [ordB, List.range_succ]
theorem ordB_no {l : List Ent} {k n : Nat} (h : okAt l k = false) (hk : k < n) : ordB l n = false := by
  cases hb : ordB l n with
  | false => rfl
  | true =>
    have := List.all_eq_true.1 hb k (List.mem_range.2 hk)
    rw [h] at this
    cases this
def okB (l : List Ent) : Bool := decide (1 ≤ l.length) && decide (l.length ≤ 8) && ordB l l.length
theorem okB_len {l : List Ent} (h : okB l = true) : 1 ≤ l.length ∧ l.length ≤ 8 := by
  simp only [okB, Bool.and_eq_true, decide_eq_true_eq] at h
  exact h.1
theorem okB_may {l : List Ent} (h : okB l = true) : ∀ e ∈ l, Sk.may e = true := fun e he => by
  simp only [okB, Bool.and_eq_true] at h
  obtain ⟨i, hi⟩ := List.getElem?_of_mem he
  have := List.all_eq_true.1 h.2 i (List.mem_range.2 (List.getElem?_eq_some_iff.1 hi).1)
  simp only [okAt, hi, Bool.and_eq_true] at this
  exact this.1
/-- What an entry that may be has for bounds. -/
theorem may_bounds {e : Ent} (h : Sk.may e = true) : 1 ≤ e.key.length ∧ e.key.length ≤ 64 ∧ 0 ≤ e.seq ∧ e.seq ≤ 1099511627776 ∧ e.val.length ≤ 1024 := by
  simp only [Sk.may, Bool.and_eq_true, decide_eq_true_eq] at h
  omega
theorem mark_le {e : Ent} (h : Sk.may e = true) : mark e ≤ 2199023255553 := by
  have := may_bounds h
  unfold mark
  split <;> omega
theorem num_len {n : Nat} (h : n ≤ 4611686018427387903) : (num n).length ≤ 9 := len_le 8 _ (by have e : (128 : Nat) ^ (8 + 1) = 9223372036854775808 := rfl; omega)
theorem entB_len {k : List UInt8} {e : Ent} (h : Sk.may e = true) : (entB k e).length ≤ 1124 := by
  have b := may_bounds h
  have m := mark_le h
  have s := share_left e.key k
  have n1 := num_len (n := share e.key k) (by omega)
  have n2 := num_len (n := (e.key.drop (share e.key k)).length) (by rw [List.length_drop]; omega)
  have n3 := num_len (n := mark e) (by omega)
  have n4 := num_len (n := e.val.length) (by omega)
  simp only [entB, List.length_append, List.length_drop] at n2 ⊢
  omega
theorem rowB_len : ∀ (l : List Ent) (k : List UInt8), (∀ e ∈ l, Sk.may e = true) → (rowB k l).length ≤ 1124 * l.length
  | [], k, _ => by simp [rowB]
  | e :: l, k, h => by
    have h1 := entB_len (k := k) (h e (List.mem_cons_self ..))
    have h2 := rowB_len l e.key (fun x hx => h x (List.mem_cons_of_mem _ hx))
    simp only [rowB, List.length_append, List.length_cons]
    omega
theorem rawB_len {l : List Ent} (h : okB l = true) : (rawB l).length ≤ 9001 := by
  have h1 := okB_len h
  have h2 := rowB_len l [] (okB_may h)
  have h3 := num_len (n := l.length) (by omega)
  simp only [rawB, List.length_append]
  omega

/-- What the reader takes: a text, and what is behind it; nothing where there is none. -/
def tS (b : List UInt8) (most : Int) : List UInt8 := ((txt b most).map (·.1)).getD []
def tR (b : List UInt8) (most : Int) : List UInt8 := ((txt b most).map (·.2)).getD []
theorem nOf_put {n : Nat} {r : List UInt8} (h : n < 4611686018427387904) : nOf (num n ++ r) = n ∧ rOf (num n ++ r) = r := by
  simp [nOf, rOf, takeNum_put h]
theorem txt_put8 {s r : List UInt8} {most : Int} (h : s.length < 4611686018427387904) (h2 : (s.length : Int) ≤ most) : txt (num s.length ++ (s ++ r)) most = some (s, r) := by
  rw [txt_yes (takeNum_put h) ⟨h2, by simp⟩]
  simp
theorem tS_put {s r : List UInt8} {most : Int} (h : s.length < 4611686018427387904) (h2 : (s.length : Int) ≤ most) : tS (num s.length ++ (s ++ r)) most = s ∧ tR (num s.length ++ (s ++ r)) most = r := by
  simp [tS, tR, txt_put8 h h2]
theorem tS_len (b : List UInt8) (most : Nat) : (tS b most).length ≤ most := by
  unfold tS
  cases h : txt b most with
  | none => simp
  | some x =>
    obtain ⟨s, r⟩ := x
    unfold txt at h
    split at h
    · cases h
    · split at h
      · rename_i n r' _ hc
        cases h
        simp only [Option.map_some, Option.getD_some, List.length_take]
        omega
      · cases h
theorem rOf_len (b : List UInt8) : (rOf b).length ≤ b.length := by
  unfold rOf
  cases h : takeNum b with
  | none => simp
  | some x =>
    obtain ⟨n, r⟩ := x
    have := congrArg List.length (takeNum_some h).2
    rw [List.length_append] at this
    simp only [Option.map_some, Option.getD_some]
    omega
theorem tR_len (b : List UInt8) (most : Int) : (tR b most).length ≤ b.length := by
  unfold tR
  cases h : txt b most with
  | none => simp
  | some x =>
    obtain ⟨s, r⟩ := x
    unfold txt at h
    split at h
    · cases h
    · rename_i n r' hn
      split at h
      · cases h
        have := congrArg List.length (takeNum_some hn).2
        rw [List.length_append] at this
        simp only [Option.map_some, Option.getD_some, List.length_drop]
        omega
      · cases h
theorem nOf_le (b : List UInt8) : nOf b < 4611686018427387904 := by
  unfold nOf
  cases h : takeNum b with
  | none => simp
  | some x => exact (takeNum_some (n := x.1) (r := x.2) (by rw [h])).1
/-- The entry that bytes tell behind one of that key, and what stands behind it. -/
def rdE (ahead rest : List UInt8) : Ent :=
  ⟨ahead.take (nOf rest) ++ tS (rOf rest) 64, ((nOf (tR (rOf rest) 64) / 2 : Nat) : Int), decide (nOf (tR (rOf rest) 64) % 2 = 1), tS (rOf (tR (rOf rest) 64)) 1024⟩
def rdR (rest : List UInt8) : List UInt8 := tR (rOf (tR (rOf rest) 64)) 1024
def rdL : Nat → List UInt8 → List UInt8 → List Ent
  | 0, _, _ => []
  | n + 1, ahead, rest => rdE ahead rest :: rdL n (rdE ahead rest).key (rdR rest)
/-- What the reader makes of bytes. -/
def rd (b : List UInt8) : List Ent := rdL (min (nOf b) 8) [] (rOf b)
theorem rd_ent {k : List UInt8} {e : Ent} {t : List UInt8} (h : Sk.may e = true) : rdE k (entB k e ++ t) = e ∧ rdR (entB k e ++ t) = t := by
  have b := may_bounds h
  have m := mark_le h
  have sl := share_left e.key k
  have f1 := nOf_put (n := share e.key k) (r := num (e.key.drop (share e.key k)).length ++ (e.key.drop (share e.key k) ++ (num (mark e) ++ (num e.val.length ++ (e.val ++ t))))) (by omega)
  have f2 := tS_put (s := e.key.drop (share e.key k)) (r := num (mark e) ++ (num e.val.length ++ (e.val ++ t))) (most := 64) (by rw [List.length_drop]; omega) (by rw [List.length_drop]; omega)
  have f3 := nOf_put (n := mark e) (r := num e.val.length ++ (e.val ++ t)) (by omega)
  have f4 := tS_put (s := e.val) (r := t) (most := 1024) (by omega) (by omega)
  have e0 : entB k e ++ t = num (share e.key k) ++ (num (e.key.drop (share e.key k)).length ++ (e.key.drop (share e.key k) ++ (num (mark e) ++ (num e.val.length ++ (e.val ++ t))))) := by
    simp only [entB, List.append_assoc]
  refine ⟨?_, ?_⟩
  · unfold rdE
    rw [e0, f1.1, f1.2, f2.1, f2.2, f3.1, f3.2, f4.1]
    obtain ⟨key, seq, gone, val⟩ := e
    simp only at *
    have h1 : k.take (share key k) ++ key.drop (share key k) = key := by rw [← share_take, List.take_append_drop]
    rw [h1]
    unfold mark
    simp only
    cases gone
    · have h2 : ((2 * seq.toNat + 0) / 2 : Nat) = seq.toNat := by omega
      have h3 : ((2 * seq.toNat + 0) % 2 : Nat) = 0 := by omega
      simp only [Bool.false_eq_true, if_false, h2, h3]
      congr 1
      omega
    · have h2 : ((2 * seq.toNat + 1) / 2 : Nat) = seq.toNat := by omega
      have h3 : ((2 * seq.toNat + 1) % 2 : Nat) = 1 := by omega
      simp only [if_true, h2, h3]
      congr 1
      omega
  · unfold rdR
    rw [e0, f1.2, f2.2, f3.2, f4.2]
theorem rd_row : ∀ (l : List Ent) (k t : List UInt8), (∀ e ∈ l, Sk.may e = true) → rdL l.length k (rowB k l ++ t) = l
  | [], k, t, _ => rfl
  | e :: l, k, t, h => by
    have h1 := rd_ent (k := k) (t := rowB e.key l ++ t) (h e (List.mem_cons_self ..))
    have h2 := rd_row l e.key t (fun x hx => h x (List.mem_cons_of_mem _ hx))
    simp only [rowB, List.length_cons, rdL, List.append_assoc]
    rw [h1.1, h1.2, h2]
theorem rd_blk {l : List Ent} (h : okB l = true) : rd (blk l) = l := by
  have hl := okB_len h
  have f1 := nOf_put (n := l.length) (r := rowB [] l ++ be 4 (crc (rawB l)).toNat) (by omega)
  have e0 : blk l = num l.length ++ (rowB [] l ++ be 4 (crc (rawB l)).toNat) := by simp only [blk, rawB, List.append_assoc]
  unfold rd
  rw [e0, f1.1, f1.2, Nat.min_eq_left hl.2]
  exact rd_row l [] _ (okB_may h)
/-- What entries bytes are; none, if they are no block. -/
def parse (b : List UInt8) : Option (List Ent) := if okB (rd b) = true ∧ blk (rd b) = b then some (rd b) else none
theorem parse_blk {l : List Ent} (h : okB l = true) : parse (blk l) = some l := by
  unfold parse
  rw [rd_blk h, if_pos ⟨h, rfl⟩]
theorem parse_some {b : List UInt8} {l : List Ent} (h : parse b = some l) : okB l = true ∧ blk l = b := by
  unfold parse at h
  split at h
  · rename_i hc
    cases h
    exact hc
  · cases h
theorem parse_none {b : List UInt8} (h : ∀ l, okB l = true → blk l ≠ b) : parse b = none := by
  cases hp : parse b with
  | none => rfl
  | some l => exact absurd (parse_some hp).2 (h l (parse_some hp).1)
end Go.Proofs.Ytlhblbaingojaab.Bq
