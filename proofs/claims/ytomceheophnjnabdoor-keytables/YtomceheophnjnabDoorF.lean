/- Fixed numbers over plain lists of bytes; no walk. -/
import Derived.Test.YtomceheophnjnabDoorK
namespace Go.Proofs.YtomceheophnjnabDoor

/-- k bytes of a number, the highest first. -/
def be (k n : Nat) : List UInt8 := (List.range k).map fun j => UInt8.ofNat (n / 256 ^ (k - 1 - j))
/-- What bytes say, the highest first. -/
def big (l : List UInt8) : Nat := l.foldl (fun a b => a * 256 + b.toNat) 0

theorem be_length (k n : Nat) : (be k n).length = k := by simp [be]
theorem be_succ (k n : Nat) : be (k + 1) n = be k (n / 256) ++ [UInt8.ofNat n] := by
  unfold be
  rw [List.range_succ, List.map_append]
  congr 1
  · apply List.map_congr_left
    intro j hj
    have hj' : j < k := List.mem_range.1 hj
    have e : k + 1 - 1 - j = (k - 1 - j) + 1 := by omega
    rw [e, Nat.pow_succ, Nat.mul_comm, Nat.div_div_eq_div_mul]
  · simp
theorem big_nil : big [] = 0 := rfl
theorem big_snoc (l : List UInt8) (b : UInt8) : big (l ++ [b]) = big l * 256 + b.toNat := by simp [big]
theorem foldl_big (l : List UInt8) (a : Nat) : l.foldl (fun a b => a * 256 + b.toNat) a = a * 256 ^ l.length + big l := by
  induction l generalizing a with
  | nil => simp [big]
  | cons c l ih =>
    have h2 : big (c :: l) = (0 * 256 + c.toNat) * 256 ^ l.length + big l := by rw [← ih]; rfl
    rw [h2, List.foldl_cons, ih, List.length_cons, Nat.pow_succ, Nat.add_mul, Nat.zero_mul, Nat.zero_add, Nat.mul_assoc, Nat.mul_comm 256]
    omega
theorem big_cons (c : UInt8) (l : List UInt8) : big (c :: l) = c.toNat * 256 ^ l.length + big l := by
  have := foldl_big l c.toNat
  have e : big (c :: l) = l.foldl (fun a b => a * 256 + b.toNat) c.toNat := by simp [big]
  rw [e, this]
theorem big_lt (l : List UInt8) : big l < 256 ^ l.length := by
  induction l with
  | nil => simp [big]
  | cons c l ih =>
    rw [big_cons, List.length_cons, Nat.pow_succ]
    have := c.toNat_lt
    have h1 : c.toNat * 256 ^ l.length ≤ 255 * 256 ^ l.length := Nat.mul_le_mul_right _ (by omega)
    omega
theorem big_be (k : Nat) : ∀ n, n < 256 ^ k → big (be k n) = n := by
  induction k with
  | zero => intro n h; simp at h; subst h; rfl
  | succ k ih =>
    intro n h
    rw [be_succ, big_snoc, ih (n / 256) (by rw [Nat.pow_succ] at h; omega), UInt8.toNat_ofNat']
    omega
theorem big_inj : ∀ {a b : List UInt8}, a.length = b.length → big a = big b → a = b := by
  intro a
  induction a with
  | nil => intro b h _; cases b with | nil => rfl | cons _ _ => simp at h
  | cons c a ih =>
    intro b h he
    cases b with
    | nil => simp at h
    | cons d b =>
      have hl : a.length = b.length := by simpa using h
      rw [big_cons, big_cons, hl] at he
      have h1 := big_lt a
      have h2 := big_lt b
      rw [hl] at h1
      have hc : c.toNat = d.toNat := by
        have e1 : (c.toNat * 256 ^ b.length + big a) / 256 ^ b.length = c.toNat := by
          rw [Nat.add_comm, Nat.add_mul_div_right _ _ (Nat.pow_pos (by decide)), Nat.div_eq_of_lt h1, Nat.zero_add]
        have e2 : (d.toNat * 256 ^ b.length + big b) / 256 ^ b.length = d.toNat := by
          rw [Nat.add_comm, Nat.add_mul_div_right _ _ (Nat.pow_pos (by decide)), Nat.div_eq_of_lt h2, Nat.zero_add]
        rw [← e1, he, e2]
      have hcd : c = d := UInt8.toNat_inj.1 hc
      subst hcd
      rw [ih hl (by omega)]
theorem be_big (l : List UInt8) : be l.length (big l) = l := by
  apply big_inj (be_length _ _)
  exact big_be _ _ (big_lt l)
/-- Bytes of one length go as what they say. -/
theorem big_order : ∀ {a b : List UInt8}, a.length = b.length → (a < b ↔ big a < big b) := by
  intro a
  induction a with
  | nil => intro b h; cases b with | nil => simp | cons _ _ => simp at h
  | cons c a ih =>
    intro b h
    cases b with
    | nil => simp at h
    | cons d b =>
      have hl : a.length = b.length := by simpa using h
      rw [List.cons_lt_cons_iff, big_cons, big_cons, hl, ih hl, UInt8.lt_iff_toNat_lt]
      have h1 := big_lt a
      have h2 := big_lt b
      rw [hl] at h1
      generalize 256 ^ b.length = M at *
      constructor
      · rintro (h | ⟨rfl, h⟩)
        · have : (c.toNat + 1) * M ≤ d.toNat * M := Nat.mul_le_mul_right _ h
          rw [Nat.add_mul] at this
          omega
        · omega
      · intro h
        rcases Nat.lt_trichotomy c.toNat d.toNat with hc | hc | hc
        · exact .inl hc
        · right
          refine ⟨UInt8.toNat_inj.1 hc, ?_⟩
          rw [hc] at h; omega
        · exfalso
          have : (d.toNat + 1) * M ≤ c.toNat * M := Nat.mul_le_mul_right _ hc
          rw [Nat.add_mul] at this
          omega
theorem be_order (k : Nat) {x y : Nat} (hx : x < 256 ^ k) (hy : y < 256 ^ k) : be k x < be k y ↔ x < y := by
  rw [big_order (by rw [be_length, be_length]), big_be k x hx, big_be k y hy]
/-- Eight bytes are a number below 2^63 where the first of them is below 128. -/
theorem big_top (b : UInt8) (l : List UInt8) (h : l.length = 7) : big (b :: l) < 9223372036854775808 ↔ b.toNat < 128 := by
  rw [big_cons, h]
  have := big_lt l
  rw [h] at this
  have e : (256 : Nat) ^ 7 = 72057594037927936 := rfl
  rw [e] at this ⊢
  have := b.toNat_lt
  omega
end Go.Proofs.YtomceheophnjnabDoor
