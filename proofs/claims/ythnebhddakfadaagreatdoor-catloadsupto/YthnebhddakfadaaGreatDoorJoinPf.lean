/- Stage 2 of the document over plain lists of bytes: numbers in groups of 7 bits, the sum, fixed numbers; no walk. -/
/- The walk of code.lay over bytes. -/
/- The walk of code.groups. -/
/- The walks of code.highFirst, code.PutFix, code.PutNum. -/
/- Words of 32 bits as the walk spells them; no walk. -/
/- The walks of code.crcGoOn, code.crcOf, code.Crc. -/
/- The walks of code.crcOf, code.Crc. -/
/- The walk of code.PutFrame. -/
import Derived.Test.YthnebhddakfadaaGreatDoorJoinMe
import Derived.Deep.OwnRows
namespace Go.Proofs.YthnebhddakfadaaGreatDoor

/-- The bytes of a number, at most k + 1 of them. -/
def numF : Nat → Nat → List UInt8
  | 0, n => [UInt8.ofNat n]
  | k + 1, n => if n < 128 then [UInt8.ofNat n] else UInt8.ofNat (128 + n % 128) :: numF k (n / 128)
/-- The bytes of a number: groups of 7 bits, the lowest first. -/
def num (n : Nat) : List UInt8 := numF n n
theorem numF_same (k : Nat) : ∀ (j n : Nat), n ≤ k → n ≤ j → numF k n = numF j n := by
  induction k with
  | zero =>
    intro j n h _
    obtain rfl : n = 0 := by omega
    cases j with
    | zero => rfl
    | succ j => simp [numF]
  | succ k ih =>
    intro j n h1 h2
    cases j with
    | zero =>
      obtain rfl : n = 0 := by omega
      simp [numF]
    | succ j =>
      simp only [numF]
      by_cases h : n < 128
      · rw [if_pos h, if_pos h]
      · rw [if_neg h, if_neg h, ih j (n / 128) (by omega) (by omega)]
theorem num_eq (n : Nat) : num n = if n < 128 then [UInt8.ofNat n] else UInt8.ofNat (128 + n % 128) :: num (n / 128) := by
  unfold num
  cases n with
  | zero => simp [numF]
  | succ n =>
    rw [numF]
    by_cases h : n + 1 < 128
    · rw [if_pos h, if_pos h]
    · rw [if_neg h, if_neg h, numF_same n ((n + 1) / 128) ((n + 1) / 128) (by omega) (Nat.le_refl _)]
theorem num_rec {motive : Nat → Prop} (small : ∀ n, n < 128 → motive n) (great : ∀ n, ¬ n < 128 → motive (n / 128) → motive n) (n : Nat) : motive n := by
  have h : ∀ k n, n ≤ k → motive n := by
    intro k
    induction k with
    | zero => intro n hn; exact small n (by omega)
    | succ k ih =>
      intro n hn
      by_cases h : n < 128
      · exact small n h
      · exact great n h (ih (n / 128) (by omega))
  exact h n n (Nat.le_refl _)

/-- What groups say. -/
def val : List UInt8 → Nat
  | [] => 0
  | b :: t => b.toNat % 128 + 128 * val t

theorem num_small {n : Nat} (h : n < 128) : num n = [UInt8.ofNat n] := by rw [num_eq, if_pos h]
theorem num_great {n : Nat} (h : 128 ≤ n) : num n = UInt8.ofNat (128 + n % 128) :: num (n / 128) := by rw [num_eq, if_neg (by omega)]
theorem num_pos (n : Nat) : 0 < (num n).length := by
  rw [num_eq]; split <;> simp
theorem len_small {n : Nat} (h : n < 128) : (num n).length = 1 := by rw [num_small h]; rfl
theorem len_great {n : Nat} (h : 128 ≤ n) : (num n).length = (num (n / 128)).length + 1 := by rw [num_great h]; rfl

theorem ofNat_group (n : Nat) : (UInt8.ofNat (128 + n % 128)).toNat = 128 + n % 128 := by rw [UInt8.toNat_ofNat']; omega
theorem ofNat_last {n : Nat} (h : n < 128) : (UInt8.ofNat n).toNat = n := by rw [UInt8.toNat_ofNat']; omega

theorem val_num (n : Nat) : val (num n) = n := by
  induction n using num_rec with
  | small n h => rw [num_small h]; simp only [val]; rw [ofNat_last h]; omega
  | great n h ih => rw [num_great (by omega)]; simp only [val]; rw [ih, ofNat_group]; omega

/-- Groups that go on, and one that doesn't: the shape of a number's bytes. -/
theorem num_shape (n : Nat) : ∃ p b, num n = p ++ [b] ∧ (∀ c ∈ p, 128 ≤ c.toNat) ∧ b.toNat < 128 ∧ (p = [] ∨ b.toNat ≠ 0) := by
  induction n using num_rec with
  | small n h => exact ⟨[], _, num_small h, by simp, by rw [ofNat_last h]; exact h, Or.inl rfl⟩
  | great n h ih =>
    obtain ⟨p, b, e, hp, hb, hz⟩ := ih
    refine ⟨UInt8.ofNat (128 + n % 128) :: p, b, by rw [num_great (by omega), e]; rfl, ?_, hb, Or.inr ?_⟩
    · intro c hc
      rcases List.mem_cons.1 hc with rfl | hc
      · rw [ofNat_group]; omega
      · exact hp c hc
    · rcases hz with rfl | hz
      · have hv := val_num (n / 128)
        rw [e] at hv
        simp [val] at hv
        omega
      · exact hz

theorem val_append (p q : List UInt8) : val (p ++ q) = val p + 128 ^ p.length * val q := by
  induction p with
  | nil => simp [val]
  | cons c p ih =>
    simp only [List.cons_append, val, ih, List.length_cons, Nat.pow_succ]
    rw [Nat.mul_add, Nat.add_assoc, Nat.mul_comm (128 ^ p.length) 128, Nat.mul_assoc]
theorem val_lt (p : List UInt8) : val p < 128 ^ p.length := by
  induction p with
  | nil => simp [val]
  | cons c p ih =>
    simp only [val, List.length_cons, Nat.pow_succ]
    omega

/-- Whatever has the shape is the bytes of what it says. -/
theorem num_of_shape : ∀ (p : List UInt8) (b : UInt8), (∀ c ∈ p, 128 ≤ c.toNat) → b.toNat < 128 → (p = [] ∨ b.toNat ≠ 0) → num (val (p ++ [b])) = p ++ [b]
  | [], b, _, hb, _ => by
    have e : val ([] ++ [b]) = b.toNat := by simp [val]; omega
    rw [e, num_small hb]; simp
  | c :: p, b, hp, hb, hz => by
    have hb0 : b.toNat ≠ 0 := by rcases hz with h | h; cases h; exact h
    have ih := num_of_shape p b (fun x hx => hp x (List.mem_cons_of_mem _ hx)) hb (Or.inr hb0)
    have hpos : 0 < val (p ++ [b]) := by
      rw [val_append]
      have h1 : 0 < 128 ^ p.length := Nat.pow_pos (by decide)
      have h2 : 0 < val [b] := by simp [val]; omega
      have := Nat.mul_pos h1 h2
      omega
    have hc := hp c List.mem_cons_self
    have e : val ((c :: p) ++ [b]) = c.toNat % 128 + 128 * val (p ++ [b]) := rfl
    rw [e, num_great (by omega)]
    have e1 : (c.toNat % 128 + 128 * val (p ++ [b])) / 128 = val (p ++ [b]) := by omega
    have e2 : 128 + (c.toNat % 128 + 128 * val (p ++ [b])) % 128 = c.toNat := by have := c.toNat_lt; omega
    rw [e1, e2, ih]
    simp

/-- Two rows of going-on groups, each with its last: the same beginning. -/
theorem shape_inj : ∀ {p q : List UInt8} {b c : UInt8} {r s : List UInt8}, (∀ x ∈ p, 128 ≤ x.toNat) → (∀ x ∈ q, 128 ≤ x.toNat) → b.toNat < 128 → c.toNat < 128 → p ++ b :: r = q ++ c :: s → p = q ∧ b = c ∧ r = s
  | [], [], b, c, r, s, _, _, _, _, h => by simp at h; exact ⟨rfl, h.1, h.2⟩
  | [], y :: q, b, c, r, s, _, hq, hb, _, h => by
    simp at h
    have := hq y List.mem_cons_self
    rw [h.1] at hb; omega
  | x :: p, [], b, c, r, s, hp, _, _, hc, h => by
    simp at h
    have := hp x List.mem_cons_self
    rw [← h.1] at hc; omega
  | x :: p, y :: q, b, c, r, s, hp, hq, hb, hc, h => by
    simp at h
    obtain ⟨rfl, h⟩ := h
    obtain ⟨rfl, rfl, rfl⟩ := shape_inj (fun z hz => hp z (List.mem_cons_of_mem _ hz)) (fun z hz => hq z (List.mem_cons_of_mem _ hz)) hb hc h
    exact ⟨rfl, rfl, rfl⟩
theorem len_le (k : Nat) : ∀ n, n < 128 ^ (k + 1) → (num n).length ≤ k + 1 := by
  induction k with
  | zero => intro n h; rw [len_small (by simpa using h)]; exact Nat.le_refl _
  | succ k ih =>
    intro n h
    rcases Nat.lt_or_ge n 128 with h1 | h1
    · rw [len_small h1]; omega
    · rw [len_great h1]
      have := ih (n / 128) (by rw [Nat.pow_succ] at h; omega)
      omega
theorem le_len (k : Nat) : ∀ n, k + 1 < (num n).length → 128 ^ (k + 1) ≤ n := fun n h => by
  rcases Nat.lt_or_ge n (128 ^ (k + 1)) with h1 | h1
  · have := len_le k n h1; omega
  · exact h1

/-- Groups up to the first that ends, and what stands behind it. -/
def groupsOf : List UInt8 → Option (List UInt8 × List UInt8)
  | [] => none
  | b :: t => if b.toNat < 128 then some ([b], t) else (groupsOf t).map fun x => (b :: x.1, x.2)
theorem groupsOf_some : ∀ {l p r : List UInt8}, groupsOf l = some (p, r) → l = p ++ r
  | [], _, _, h => by simp [groupsOf] at h
  | b :: t, p, r, h => by
    simp only [groupsOf] at h
    split at h
    · rw [Option.some.injEq, Prod.mk.injEq] at h
      obtain ⟨rfl, rfl⟩ := h
      rfl
    · cases hg : groupsOf t with
      | none => rw [hg] at h; cases h
      | some x =>
        rw [hg] at h
        simp only [Option.map_some, Option.some.injEq, Prod.mk.injEq] at h
        obtain ⟨rfl, rfl⟩ := h
        rw [groupsOf_some (p := x.1) (r := x.2) hg]
        rfl
theorem groupsOf_put : ∀ (p : List UInt8) (b : UInt8) (r : List UInt8), (∀ c ∈ p, 128 ≤ c.toNat) → b.toNat < 128 → groupsOf (p ++ b :: r) = some (p ++ [b], r)
  | [], b, r, _, hb => by simp [groupsOf, hb]
  | c :: p, b, r, hp, hb => by
    have hc := hp c (by simp)
    have ih := groupsOf_put p b r (fun x hx => hp x (by simp [hx])) hb
    simp only [List.cons_append, groupsOf]
    rw [if_neg (by omega), ih]
    rfl
/-- What number bytes begin with: none, or it and what stands behind it. -/
def takeNum (l : List UInt8) : Option (Nat × List UInt8) :=
  match groupsOf l with
  | none => none
  | some (p, r) => if val p < 4611686018427387904 ∧ num (val p) = p then some (val p, r) else none
theorem takeNum_put {n : Nat} {r : List UInt8} (h : n < 4611686018427387904) : takeNum (num n ++ r) = some (n, r) := by
  obtain ⟨p, b, e, hp, hb, _⟩ := num_shape n
  have hv := val_num n
  unfold takeNum
  rw [e, List.append_assoc, List.singleton_append, groupsOf_put p b r hp hb]
  rw [e] at hv
  simp only [hv]
  rw [if_pos ⟨h, e⟩]
theorem takeNum_some {l : List UInt8} {n : Nat} {r : List UInt8} (h : takeNum l = some (n, r)) : n < 4611686018427387904 ∧ l = num n ++ r := by
  unfold takeNum at h
  cases hg : groupsOf l with
  | none => rw [hg] at h; cases h
  | some x =>
    obtain ⟨p, s⟩ := x
    rw [hg] at h
    simp only [] at h
    split at h
    · rename_i hx
      rw [Option.some.injEq, Prod.mk.injEq] at h
      obtain ⟨rfl, rfl⟩ := h
      exact ⟨hx.1, by rw [hx.2]; exact groupsOf_some hg⟩
    · cases h
theorem takeNum_none {l : List UInt8} (h : ∀ n r, n < 4611686018427387904 → l ≠ num n ++ r) : takeNum l = none := by
  cases hx : takeNum l with
  | none => rfl
  | some x =>
    obtain ⟨n, r⟩ := x
    obtain ⟨h1, h2⟩ := takeNum_some hx
    exact absurd h2 (h n r h1)

/-- A group that goes on stands ahead of every end: bytes that all go on are no number. -/
theorem long_of_prefix {p t : List UInt8} {n : Nat} {r : List UInt8} (hp : ∀ x ∈ p, 128 ≤ x.toNat) (h : p ++ t = num n ++ r) : p.length < (num n).length := by
  obtain ⟨q, b, e, hq, hb, _⟩ := num_shape n
  rw [e] at h ⊢
  rcases Nat.lt_or_ge q.length p.length with h1 | h1
  · exfalso
    have hg : (p ++ t)[q.length]? = some b := by rw [h]; simp
    rw [List.getElem?_append_left h1] at hg
    have := hp b (List.mem_of_getElem? hg)
    omega
  · simp; omega
theorem take_short {p : List UInt8} (hp : ∀ x ∈ p, 128 ≤ x.toNat) : takeNum p = none := by
  refine takeNum_none fun n r _ h => ?_
  have h1 := long_of_prefix (t := []) hp (by simpa using h)
  have : p.length = (num n).length + r.length := by rw [h]; simp
  omega
theorem take_long {p t : List UInt8} (hp : ∀ x ∈ p, 128 ≤ x.toNat) (h9 : 9 ≤ p.length) : takeNum (p ++ t) = none := by
  refine takeNum_none fun n r hn h => ?_
  have h1 := long_of_prefix hp h
  have := le_len 8 n (by omega)
  have e : 128 ^ (8 + 1) = 9223372036854775808 := rfl
  omega
theorem take_zero {p t : List UInt8} {b : UInt8} (hp : ∀ x ∈ p, 128 ≤ x.toNat) (h0 : 0 < p.length) (hb : b.toNat = 0) : takeNum (p ++ b :: t) = none := by
  refine takeNum_none fun n r _ h => ?_
  obtain ⟨q, c, e, hq, hc, hz⟩ := num_shape n
  rw [e] at h
  have hb' : b.toNat < 128 := by omega
  have h' : p ++ b :: t = q ++ c :: r := by simpa using h
  obtain ⟨e1, e2, _⟩ := shape_inj hp hq hb' hc h'
  rcases hz with hz | hz
  · rw [e1, hz] at h0; exact absurd h0 (by simp)
  · rw [← e2] at hz; exact hz hb
theorem take_great {p t : List UInt8} {b : UInt8} (hp : ∀ x ∈ p, 128 ≤ x.toNat) (h8 : p.length = 8) (hb : 63 < b.toNat % 128) : takeNum (p ++ b :: t) = none := by
  rcases Nat.lt_or_ge b.toNat 128 with h | h
  · refine takeNum_none fun n r hn hl => ?_
    obtain ⟨q, c, e, hq, hc, hz⟩ := num_shape n
    have hv := val_num n
    rw [e] at hl hv
    obtain ⟨rfl, rfl, _⟩ := shape_inj hp hq h hc (by simpa using hl)
    rw [val_append, h8] at hv
    have e2 : (128 : Nat) ^ 8 = 72057594037927936 := rfl
    simp only [val, e2] at hv
    omega
  · have e : p ++ b :: t = (p ++ [b]) ++ t := by simp
    rw [e]
    refine take_long (fun x hx => ?_) (by simp; omega)
    rcases List.mem_append.1 hx with hx | hx
    · exact hp x hx
    · have : x = b := by simpa using hx
      rw [this]; exact h
theorem take_done {p t : List UInt8} {b : UInt8} (hp : ∀ x ∈ p, 128 ≤ x.toNat) (hb : b.toNat < 128) (hz : p = [] ∨ b.toNat ≠ 0) (h8 : p.length ≤ 8) (hg : p.length = 8 → b.toNat ≤ 63) :
    takeNum (p ++ b :: t) = some (val p + 128 ^ p.length * b.toNat, t) := by
  have e := num_of_shape p b hp hb hz
  have ev : val (p ++ [b]) = val p + 128 ^ p.length * b.toNat := by rw [val_append]; simp [val]; rw [Nat.mod_eq_of_lt hb]
  rw [ev] at e
  have e2 : p ++ b :: t = num (val p + 128 ^ p.length * b.toNat) ++ t := by rw [e]; simp
  rw [e2]
  apply takeNum_put
  have hlt := val_lt p
  have hb1 : b.toNat ≤ 127 := by omega
  rcases Nat.lt_or_ge p.length 8 with h | h
  · have hpow : 128 ^ p.length ≤ 128 ^ 7 := Nat.pow_le_pow_right (by decide) (by omega)
    have : 128 ^ p.length * b.toNat ≤ 128 ^ 7 * 127 := Nat.mul_le_mul hpow hb1
    have e3 : (128 : Nat) ^ 7 = 562949953421312 := rfl
    omega
  · have h8' : p.length = 8 := by omega
    have := hg h8'
    rw [h8'] at hlt ⊢
    have e3 : (128 : Nat) ^ 8 = 72057594037927936 := rfl
    omega
/-- One place down. -/
def step (w : UInt32) : UInt32 := (w >>> 1) ^^^ (if w % 2 = 1 then 0xEDB88320 else 0)
def step8 (w : UInt32) : UInt32 := step (step (step (step (step (step (step (step w)))))))
def byteStep (w : UInt32) (b : UInt8) : UInt32 := step8 (w ^^^ b.toUInt32)
def crcW (w : UInt32) (l : List UInt8) : UInt32 := l.foldl byteStep w
def crc (l : List UInt8) : UInt32 := ~~~ crcW 0xFFFFFFFF l

theorem crcW_append (w : UInt32) (a b : List UInt8) : crcW w (a ++ b) = crcW (crcW w a) b := by simp [crcW]
theorem shr1_toNat (w : UInt32) : (w >>> 1).toNat = w.toNat / 2 := by
  rw [UInt32.toNat_shiftRight]
  have e : (1 : UInt32).toNat % 32 = 1 := rfl
  rw [e, Nat.shiftRight_eq_div_pow]
/-- k bytes of a number, the highest first. -/
def be (k n : Nat) : List UInt8 := (List.range k).map fun j => UInt8.ofNat (n / 256 ^ (k - 1 - j))
/-- What bytes say, the highest first. -/
def big (l : List UInt8) : Nat := l.foldl (fun a b => a * 256 + b.toNat) 0

theorem be_length (k n : Nat) : (be k n).length = k := by simp [be]
theorem be_succ (k n : Nat) : be (k + 1) n = be k (n / 256) ++ [UInt8.ofNat n] := by
  unfold be
  rw [List.range_succ, List.map_append]
  congr 1
  · apply List.map_congr_left
    intro j hj
    have hj' : j < k := List.mem_range.1 hj
    have e : k + 1 - 1 - j = (k - 1 - j) + 1 := by omega
    rw [e, Nat.pow_succ, Nat.mul_comm, Nat.div_div_eq_div_mul]
  · simp
theorem big_snoc (l : List UInt8) (b : UInt8) : big (l ++ [b]) = big l * 256 + b.toNat := by simp [big]
theorem foldl_big (l : List UInt8) (a : Nat) : l.foldl (fun a b => a * 256 + b.toNat) a = a * 256 ^ l.length + big l := by
  induction l generalizing a with
  | nil => simp [big]
  | cons c l ih =>
    have h2 : big (c :: l) = (0 * 256 + c.toNat) * 256 ^ l.length + big l := by rw [← ih]; rfl
    rw [h2, List.foldl_cons, ih, List.length_cons, Nat.pow_succ, Nat.add_mul, Nat.zero_mul, Nat.zero_add, Nat.mul_assoc, Nat.mul_comm 256]
    omega
theorem big_cons (c : UInt8) (l : List UInt8) : big (c :: l) = c.toNat * 256 ^ l.length + big l := by
  have := foldl_big l c.toNat
  have e : big (c :: l) = l.foldl (fun a b => a * 256 + b.toNat) c.toNat := by simp [big]
  rw [e, this]
theorem big_lt (l : List UInt8) : big l < 256 ^ l.length := by
  induction l with
  | nil => simp [big]
  | cons c l ih =>
    rw [big_cons, List.length_cons, Nat.pow_succ]
    have := c.toNat_lt
    have h1 : c.toNat * 256 ^ l.length ≤ 255 * 256 ^ l.length := Nat.mul_le_mul_right _ (by omega)
    omega
theorem big_be (k : Nat) : ∀ n, n < 256 ^ k → big (be k n) = n := by
  induction k with
  | zero => intro n h; simp at h; subst h; rfl
  | succ k ih =>
    intro n h
    rw [be_succ, big_snoc, ih (n / 256) (by rw [Nat.pow_succ] at h; omega), UInt8.toNat_ofNat']
    omega
theorem big_inj : ∀ {a b : List UInt8}, a.length = b.length → big a = big b → a = b := by
  intro a
  induction a with
  | nil => intro b h _; cases b with | nil => rfl | cons _ _ => simp at h
  | cons c a ih =>
    intro b h he
    cases b with
    | nil => simp at h
    | cons d b =>
      have hl : a.length = b.length := by simpa using h
      rw [big_cons, big_cons, hl] at he
      have h1 := big_lt a
      have h2 := big_lt b
      rw [hl] at h1
      have hc : c.toNat = d.toNat := by
        have e1 : (c.toNat * 256 ^ b.length + big a) / 256 ^ b.length = c.toNat := by
          rw [Nat.add_comm, Nat.add_mul_div_right _ _ (Nat.pow_pos (by decide)), Nat.div_eq_of_lt h1, Nat.zero_add]
        have e2 : (d.toNat * 256 ^ b.length + big b) / 256 ^ b.length = d.toNat := by
          rw [Nat.add_comm, Nat.add_mul_div_right _ _ (Nat.pow_pos (by decide)), Nat.div_eq_of_lt h2, Nat.zero_add]
        rw [← e1, he, e2]
      have hcd : c = d := UInt8.toNat_inj.1 hc
      subst hcd
      rw [ih hl (by omega)]
theorem be_big (l : List UInt8) : be l.length (big l) = l := by
  apply big_inj (be_length _ _)
  exact big_be _ _ (big_lt l)
end Go.Proofs.YthnebhddakfadaaGreatDoor
namespace Go.Proofs.YthnebhddakfadaaGreatDoor
open Go.RowKit

set_option maxHeartbeats 1000000 in
set_option maxRecDepth 100000 in
theorem layB_any (ao : Option Addr) (m c : Nat) (l : List UInt8) (ao2 : Option Addr) (m2 c2 : Nat) (l2 : List UInt8) (w : World) (hm : m + m2 ≤ 140737488355328) (hs : Src w ao m c l) (hs2 : Src w ao2 m2 c2 l2) :
    Calls Tryz.prog 148 #[.slice ao m c, .slice ao2 m2 c2] w fun e w' => ∃ v, e = .returned v ∧ New w w' v (m + m2) (l ++ l2) := by
  obtain ⟨i0, hi, hz0, hz1, hz2⟩ := info_parts info5
  have HS := keep hs
  have HS2 := keep hs2
  clear hs hs2
  go_enter Tryz.func148, Tryz.ntmps148
  go_wp2_with (first
    | (at_make; go_loud (refine wpList_make_own _ rfl _ _ 25 rfl w.heap.size 5 i0 (.int .u8 0) 1 Tryz.underlying25 hi hz0 hz1 .i64 .i64 _ (m + m2) rfl rfl (by omega) (by rw [hz2]; omega) (by unfold maxLen; omega) (Nat.le_refl _) ?_); intro w1 hown hgrow; have hb1 := keep ((Below.refl w.heap.size w).grown hgrow (Nat.le_refl _) (fun k h => by cases h)); have ho1 := keep hown; clear hown hgrow)
    | (at_builtin; (refine wpList_append_src rfl _ _ 25 rfl w.heap.size i0 _ Tryz.underlying25 hi hz0 hz1 hz2 rfl _ m l rfl ho2.out _ m2 c2 l2 rfl (HS2.out.below hb2.out) (by omega) hb2.out.size ?_); intro v3 w3 ho3 hg3; have hb3 := keep (hb2.out.grown hg3 hb2.out.size (fun j hj => (ho2.out.lt j hj).1)); have ho3' := keep ho3; clear ho3 hg3 ho2)
    | (at_builtin; (refine wpList_append_src rfl _ _ 25 rfl w.heap.size i0 _ Tryz.underlying25 hi hz0 hz1 hz2 rfl _ 0 [] rfl ho1.out _ m c l rfl (HS.out.below hb1.out) (by omega) hb1.out.size ?_); intro v2 w2 ho2' hg2; have hb2 := keep (hb1.out.grown hg2 hb1.out.size (fun j hj => (ho1.out.lt j hj).1)); have ho2 := keep ho2'; simp only [Nat.zero_add, List.nil_append] at ho2; clear ho2' hg2 ho1 hb1))
  go_ret
  exact ⟨_, rfl, ho3'.out, hb3.out⟩
end Go.Proofs.YthnebhddakfadaaGreatDoor
namespace Go.Proofs.YthnebhddakfadaaGreatDoor
open Go.RowKit

/-- What a number counts as: from 0 to 2^62 - 1. -/
def cl (n : Int) : Nat := (min (max n 0) 4611686018427387903).toNat
theorem cl_le (n : Int) : cl n ≤ 4611686018427387903 := by unfold cl; omega
theorem num_cons {n : Nat} (h : 128 ≤ n) (p : List UInt8) : p ++ num n = (p ++ [UInt8.ofNat (128 + n % 128)]) ++ num (n / 128) := by rw [num_great h]; simp
theorem or128b : ∀ k : Nat, k < 256 → (k ||| 128) = 128 + k % 128 := by decide +kernel
theorem or128 (n : Nat) : bits .or .u8 ((n : Int) % 256) 128 = ((UInt8.ofNat (128 + n % 128)).toNat : Int) := by
  rw [ofNat_group]
  have h := u8_or_nat (n % 256) 128 (by omega) (by omega)
  rw [or128b _ (by omega)] at h
  have e : ((n % 256 : Nat) : Int) = (n : Int) % 256 := by omega
  rw [e] at h
  rw [show (128 : Int) = ((128 : Nat) : Int) from rfl, h]
  omega
theorem num9 (n : Int) : (num (cl n)).length ≤ 9 := len_le 8 _ (by have := cl_le n; have e : (128 : Nat) ^ (8 + 1) = 9223372036854775808 := rfl; omega)

set_option maxHeartbeats 1000000 in
set_option maxRecDepth 100000 in
theorem groups_any (n : Int) (w : World) :
    Calls Tryz.prog 145 #[.int .i64 n] w fun e w' => ∃ v, e = .returned v ∧ New w w' v (num (cl n)).length (num (cl n)) := by
  obtain ⟨i0, hi, hz0, hz1, hz2⟩ := info_parts info5
  have h9 := num9 n
  go_enter Tryz.func145, Tryz.ntmps145
  go_wp2
  all_goals
    go_loopw [0, 3] (fun i v wr => ∃ (p : List UInt8) (k N : Nat), N ≤ 4611686018427387903 ∧ i = .int .i64 (N : Int) ∧ p.length = k ∧ Hid (num (cl n) = p ++ num N) ∧ Hid (wr.ownsRow w.heap.size 5 1 v k (bv p)) ∧ Hid (Below w.heap.size w wr)) (fun i _ _ => (intOf i).toNat)
    case atStart =>
      exact ⟨[], 0, cl n, cl_le n, by unfold cl; congr 1; omega, rfl, rfl, World.ownsRow_nil _ _ _ _, Below.refl _ _⟩
    case round =>
      obtain ⟨p, k, N, hN, rfl, hpk, hp, ho, hb⟩ := hrel
      have hk9 : k < 9 := by
        have h1 := congrArg List.length hp.out
        have h2 := num_pos N
        rw [List.length_append, hpk] at h1
        omega
      by_cases hlt : 128 ≤ N
      · have hb1 := or128 N
        have hp' : Hid (num (cl n) = (p ++ [UInt8.ofNat (128 + N % 128)]) ++ num (N / 128)) := by rw [← num_cons hlt]; exact hp.out
        obtain ⟨y, hy⟩ : ∃ y : UInt8, UInt8.ofNat (128 + N % 128) = y := ⟨_, rfl⟩
        rw [hy] at hb1 hp'
        clear hy
        go_wp2_with (at_builtin; refine wpList_append_src rfl _ _ 25 rfl w.heap.size i0 _ Tryz.underlying25 hi hz0 hz1 hz2 rfl _ k p rfl (by exact ho.out.alloc _) _ 1 1 [y] rfl (Src.built _ _) (by omega) (le_alloc hb.out.size _) ?_; intro v2 w2 ho2 hg2; have hb3 := keep ((hb.out.alloc hb.out.size _).grown hg2 (le_alloc hb.out.size _) (fun j hj => (ho.out.lt j hj).1)); have ho3 := keep ho2; clear ho2 hg2)
        go_roundw
        case rel => exact ⟨_, k + 1, N / 128, by omega, by first | rfl | (congr 1; omega), by simp [hpk], hp', ho3, hb3⟩
        case measure => simp [intOf]; omega
      · have hl : (num (cl n)).length = k + 1 := by rw [hp.out, List.length_append, hpk, len_small (by omega)]
        have hq : Hid (num (cl n) = p ++ [UInt8.ofNat N]) := hp.out.trans (by rw [num_small (by omega)])
        have hx : Hid ((N : Int) = ((UInt8.ofNat N).toNat : Int)) := by rw [ofNat_last (by omega)]; exact rfl
        obtain ⟨y, hy⟩ : ∃ y : UInt8, UInt8.ofNat N = y := ⟨_, rfl⟩
        rw [hy] at hx hq
        clear hy
        go_wp2_with (at_builtin; refine wpList_append_src rfl _ _ 25 rfl w.heap.size i0 _ Tryz.underlying25 hi hz0 hz1 hz2 rfl _ k p rfl (by exact ho.out.alloc _) _ 1 1 [y] rfl (Src.builtI _ _ _ hx.out) (by omega) (le_alloc hb.out.size _) ?_; intro v2 w2 ho2 hg2; have hb3 := keep ((hb.out.alloc hb.out.size _).grown hg2 (le_alloc hb.out.size _) (fun j hj => (ho.out.lt j hj).1)); have ho3 := keep ho2; clear ho2 hg2)
        go_ret
        rw [hl, hq.out]
        exact ⟨_, rfl, ho3.out, hb3.out⟩
end Go.Proofs.YthnebhddakfadaaGreatDoor
namespace Go.Proofs.YthnebhddakfadaaGreatDoor
open Go.RowKit

/-- Of k bytes of N those from i on. -/
def beRow (k N i : Nat) (x : Nat) : Value := .int .u8 (if i ≤ x then ((UInt8.ofNat (N / 256 ^ (k - 1 - x))).toNat : Int) else 0)
theorem row_of_own {w : World} {base g n : Nat} {xs : List Value} (h : w.ownsRow base 5 1 (.slice (some ⟨g, 0, none⟩) n n) n xs) (f : Nat → Value) (hf : ∀ i, i < n → xs[i]? = some (f i)) : w.rowIs g 5 n f := by
  rcases h.2 with ⟨h0, _⟩ | ⟨g', cap, cur, e, _, hg, hc, _, hs, ht⟩
  · cases h0
  · cases e
    refine ⟨cur, hg, by omega, fun i hi => ?_⟩
    have := hf i hi
    rw [← ht, List.getElem?_take, if_pos (by omega), Array.getElem?_toList] at this
    exact this
theorem own_of_row {w : World} {base g n : Nat} {f : Nat → Value} {xs : List Value} (h : w.rowIs g 5 n f) (hb : base ≤ g) (hn : n ≤ maxLen) (hl : xs.length = n) (hf : ∀ i, i < n → xs[i]? = some (f i)) : w.ownsRow base 5 1 (.slice (some ⟨g, 0, none⟩) n n) n xs := by
  obtain ⟨cur, hg, hs, hc⟩ := h
  refine ⟨by omega, .inr ⟨g, n, cur, rfl, hb, hg, Nat.le_refl _, hn, by omega, ?_⟩⟩
  apply List.ext_getElem?
  intro i
  rcases Nat.lt_or_ge i n with hi | hi
  · rw [List.getElem?_take, if_pos (by omega), Array.getElem?_toList, hc i hi, hf i hi]
  · rw [List.getElem?_eq_none (by simp; omega), List.getElem?_eq_none (by omega)]

set_option maxHeartbeats 1000000 in
set_option maxRecDepth 100000 in
theorem highFirst_any (N k : Nat) (w : World) (hk : k ≤ 8) (hN : N < 18446744073709551616) :
    Calls Tryz.prog 146 #[.int .u64 (N : Int), .int .i64 (k : Int)] w fun e w' => ∃ v, e = .returned v ∧ New w w' v k (be k N) := by
  obtain ⟨i0, hi, hz0, hz1, hz2⟩ := info_parts info5
  go_enter Tryz.func146, Tryz.ntmps146
  go_wp2_with (at_make; go_loud (refine wpList_make_full _ rfl _ _ 25 rfl w.heap.size 5 i0 (.int .u8 0) 1 Tryz.underlying25 hi hz0 hz1 .i64 .i64 _ _ k rfl rfl rfl rfl (by rw [hz2]; omega) (by unfold maxLen; omega) (Nat.le_refl _) ?_); intro w1 hown hgrow; have hb1 := keep ((Below.refl w.heap.size w).grown hgrow (Nat.le_refl _) (fun k h => by cases h)); have ho1 := keep hown; clear hown hgrow)
  have hr1 : Hid (w1.rowIs w.heap.size 5 k (beRow k N k)) := row_of_own ho1.out _ (fun i hi => by
    rw [show (Value.int .u8 0).cells = #[.int .u8 0] from rfl, toList_madeCells_one, List.getElem?_replicate, if_pos (by omega)]
    unfold beRow
    rw [if_neg (by omega)])
  clear ho1
  go_loopw [0, 6] (fun n i wr => ∃ t : Nat, t ≤ k ∧ i = .int .i64 ((t : Int) - 1) ∧ n = .int .u64 ((N / 256 ^ (k - t) : Nat) : Int) ∧ Hid (wr.rowIs w.heap.size 5 k (beRow k N t)) ∧ Hid (Below w.heap.size w wr)) (fun _ i _ => (intOf i + 1).toNat)
  case atStart => exact ⟨k, Nat.le_refl _, rfl, by rw [Nat.sub_self, Nat.pow_zero, Nat.div_one], hr1, hb1⟩
  case round =>
    clear hr1 hb1
    obtain ⟨t, ht, rfl, rfl, hr, hb⟩ := hrel
    rcases Nat.eq_zero_or_pos t with h0 | h0
    · subst h0
      go_wp2
      go_ret
      refine ⟨_, rfl, own_of_row hr.out (Nat.le_refl _) (by unfold maxLen; omega) (by rw [bv_length, be_length]) (fun i hi => ?_), hb.out⟩
      rw [bv_at _ i (by rw [be_length]; exact hi)]
      unfold beRow fn be
      rw [if_pos (Nat.zero_le _), List.getD_eq_getElem?_getD, List.getElem?_map, List.getElem?_range hi]
      rfl
    · obtain ⟨s, rfl⟩ : ∃ s, t = s + 1 := ⟨t - 1, by omega⟩
      have e0 : ((s + 1 : Nat) : Int) - 1 = (s : Int) := by omega
      rw [e0]
      obtain ⟨q, hq⟩ : ∃ q, N / 256 ^ (k - (s + 1)) = q := ⟨_, rfl⟩
      have hq' : Hid (N / 256 ^ (k - s) = q / 256) := by
        rw [← hq, Nat.div_div_eq_div_mul, ← Nat.pow_succ]
        congr 2
        omega
      have hqN : q < 18446744073709551616 := by rw [← hq]; exact Nat.lt_of_le_of_lt (Nat.div_le_self _ _) hN
      obtain ⟨y, hy⟩ : ∃ y : UInt8, UInt8.ofNat q = y := ⟨_, rfl⟩
      have hx : (q : Int) % 256 = (y.toNat : Int) := by rw [← hy, UInt8.toNat_ofNat']; omega
      rw [hq]
      have hc : wr.cell? ⟨w.heap.size, s, none⟩ = some (.int .u8 0) := by rw [hr.out.cell (by omega)]; unfold beRow; rw [if_neg (by omega)]
      have hf := hr.out.frozen s
      have hr' : Hid ((wr.setCell ⟨w.heap.size, s, none⟩ (.int .u8 (y.toNat : Int))).rowIs w.heap.size 5 k (beRow k N s)) := (hr.out.set s _).congr (fun j hj => by
        unfold beRow
        by_cases e : j = s
        · subst e; rw [if_pos rfl, if_pos (Nat.le_refl _)]
          have e1 : k - 1 - j = k - (j + 1) := by omega
          rw [e1, hq, hy]
        · rw [if_neg e]
          by_cases e2 : s ≤ j
          · rw [if_pos e2, if_pos (by omega)]
          · rw [if_neg e2, if_neg (by omega)])
      have hb' : Hid (Below w.heap.size w (wr.setCell ⟨w.heap.size, s, none⟩ (.int .u8 (y.toNat : Int)))) := hb.out.setCell (Nat.le_refl _) _
      clear hq hy
      go_wp2
      go_roundw
      case rel => exact ⟨s, by omega, by first | rfl | go_num, by rw [hq'.out]; first | rfl | (congr 1; omega), hr', hb'⟩
      case measure => simp [intOf]
end Go.Proofs.YthnebhddakfadaaGreatDoor
namespace Go.Proofs.YthnebhddakfadaaGreatDoor
open Go.RowKit

def U (x : UInt32) : Int := (x.toNat : Int)
theorem U_lo (x : UInt32) : 0 ≤ U x := Int.natCast_nonneg _
theorem U_hi (x : UInt32) : U x < 4294967296 := by have := x.toNat_lt; unfold U; omega
theorem U_xor (x y : UInt32) : bits .xor .u32 (U x) (U y) = U (x ^^^ y) := by
  unfold U
  rw [u32_xor_nat _ _ x.toNat_lt y.toNat_lt, UInt32.toNat_xor]
theorem U_xorb (x : UInt32) (b : UInt8) : bits .xor .u32 (U x) (b.toNat : Int) = U (x ^^^ b.toUInt32) := by
  rw [← U_xor]
  unfold U
  simp
theorem U_xorc (x : UInt32) (b : UInt8) : bits .xor .u32 (U x) ((b.toNat : Int) % 4294967296) = U (x ^^^ b.toUInt32) := by
  rw [← U_xorb]
  congr 1
  have := b.toNat_lt
  omega
theorem low_bit (x : UInt32) : bits .and .u32 (U x) 1 = U (x % 2) := by
  have h := u32_and_nat x.toNat 1 x.toNat_lt (by omega)
  rw [nat_mask1] at h
  unfold U
  refine Eq.trans h ?_
  rw [UInt32.toNat_mod]
  rfl
theorem half (x : UInt32) : U x / (2 : Int) = U (x >>> 1) := by
  unfold U
  rw [shr1_toNat]
  omega
theorem low_poly (x : UInt32) : IntKind.u32.wrap (3988292384 * U (x % 2)) = U (if x % 2 = 1 then 0xEDB88320 else 0) := by
  have h2 : (x % 2).toNat = x.toNat % 2 := by rw [UInt32.toNat_mod]; rfl
  rw [IntKind.wrap_u32']
  unfold U
  by_cases h : x % 2 = 1
  · rw [if_pos h, h]; rfl
  · rw [if_neg h]
    have : (x % 2).toNat = 0 := by
      rcases Nat.mod_two_eq_zero_or_one x.toNat with h0 | h0
      · omega
      · exact absurd (UInt32.toNat_inj.1 (by rw [h2, h0]; rfl)) h
    rw [this]; rfl
theorem U_not (x : UInt32) : bits .xor .u32 (if IntKind.u32.signed = true then -1 else IntKind.u32.max) (U x) = U (~~~x) := by
  have e : (if IntKind.u32.signed = true then -1 else IntKind.u32.max) = U 4294967295 := rfl
  rw [e, U_xor]
  have h : (4294967295 : UInt32) ^^^ x = ~~~x := by
    apply UInt32.toBitVec_inj.1
    simp
    exact BitVec.allOnes_xor
  rw [h]
def steps : Nat → UInt32 → UInt32
  | 0, x => x
  | n + 1, x => step (steps n x)
theorem crcW_snoc (W : UInt32) (l : List UInt8) (k : Nat) (h : k < l.length) : crcW W (l.take (k + 1)) = byteStep (crcW W (l.take k)) (fn l k) := by
  rw [List.take_succ_eq_append_getElem h, crcW_append]
  have e : fn l k = l[k] := by simp [fn, List.getD, h]
  rw [e]; rfl
end Go.Proofs.YthnebhddakfadaaGreatDoor
namespace Go.Proofs.YthnebhddakfadaaGreatDoor
open Go.RowKit
attribute [local go_sem] U_xor U_xorb low_bit half low_poly U_not

set_option maxHeartbeats 1000000 in
set_option maxRecDepth 100000 in
theorem crcGoOn_any (W : UInt32) (ao : Option Addr) (m c : Nat) (l : List UInt8) (w : World) (hm : m ≤ 140737488355328) (hs : Src w ao m c l) :
    Calls Tryz.prog 179 #[.int .u32 (U W), .slice ao m c] w fun e w' => e = .returned (.int .u32 (U (crcW W l))) ∧ Below w.heap.size w w' := by
  have hll := hs.len
  have HS := keep hs
  clear hs
  go_enter Tryz.func179, Tryz.ntmps179
  go_wp2
  go_loopw [0, 10] (fun x i wr => ∃ k : Nat, k ≤ m ∧ i = .int .i64 (k : Int) ∧ x = .int .u32 (U (crcW W (l.take k))) ∧ Hid (Below w.heap.size w wr)) (fun _ i _ => m - (intOf i).toNat)
  case atStart => exact ⟨0, Nat.zero_le _, rfl, rfl, Below.refl _ _⟩
  case round =>
    obtain ⟨k, hk, rfl, rfl, hb⟩ := hrel
    by_cases hlt : k < m
    · obtain ⟨b, off, rfl, hbw, hby⟩ := HS.out.form (by omega)
      have hcell : wr.cell? ⟨b, off + k, none⟩ = some (.int .u8 ((fn l k).toNat : Int)) := by
        rw [hb.out.cell (p := ⟨b, off + k, none⟩) hbw]; exact hby k hlt
      have h0 : (0 : Int) ≤ (k : Int) := by omega
      have h1 : (k : Int) < (m : Int) := by omega
      have hnext : Hid (crcW W (l.take (k + 1)) = byteStep (crcW W (l.take k)) (fn l k)) := crcW_snoc W l k (by omega)
      clear hby
      obtain ⟨x, hx⟩ : ∃ x, crcW W (l.take k) = x := ⟨_, rfl⟩
      obtain ⟨y, hy⟩ : ∃ y, fn l k = y := ⟨_, rfl⟩
      rw [hx] at hnext ⊢
      rw [hy] at hnext hcell
      clear hx hy
      go_wp2
      go_loopw [0, 18] (fun z i wq => ∃ j : Nat, j ≤ 8 ∧ i = .int .i64 (j : Int) ∧ z = .int .u32 (U (steps j (x ^^^ y.toUInt32))) ∧ Hid (Below w.heap.size w wq)) (fun _ i _ => 8 - (intOf i).toNat)
      case atStart => exact ⟨0, by omega, rfl, by rw [U_xorc]; rfl, hb⟩
      case round =>
        clear hb hcell
        obtain ⟨j, hj, rfl, rfl, hb⟩ := hrel
        by_cases hj8 : j < 8
        · have hst : Hid (steps (j + 1) (x ^^^ y.toUInt32) = step (steps j (x ^^^ y.toUInt32))) := rfl
          obtain ⟨z, hz⟩ : ∃ z, steps j (x ^^^ y.toUInt32) = z := ⟨_, rfl⟩
          rw [hz] at hst ⊢
          clear hz
          go_wp2
          go_roundw
          case rel => exact ⟨j + 1, by omega, by go_num, by rw [hst.out]; rfl, hb⟩
          case measure => simp [intOf]; omega
        · obtain rfl : j = 8 := by omega
          go_wp2
          go_roundw
          case rel => exact ⟨k + 1, by omega, by go_num, by rw [hnext.out]; rfl, hb⟩
          case measure => simp [intOf]; omega
    · obtain rfl : k = m := by omega
      rw [List.take_of_length_le (by omega)]
      go_wp2
      go_ret
      exact ⟨rfl, hb.out⟩
end Go.Proofs.YthnebhddakfadaaGreatDoor
namespace Go.Proofs.YthnebhddakfadaaGreatDoor
open Go.RowKit
attribute [local go_sem] U_xor U_xorb low_bit half low_poly U_not

set_option maxHeartbeats 1000000 in
set_option maxRecDepth 100000 in
theorem crcOf_any (ao : Option Addr) (m c : Nat) (l : List UInt8) (ao2 : Option Addr) (m2 c2 : Nat) (l2 : List UInt8) (w : World) (hm : m ≤ 140737488355328) (hm2 : m2 ≤ 140737488355328) (hs : Src w ao m c l) (hs2 : Src w ao2 m2 c2 l2) :
    Calls Tryz.prog 147 #[.slice ao m c, .slice ao2 m2 c2] w fun e w' => e = .returned (.int .u32 (U (crc (l ++ l2)))) ∧ Below w.heap.size w w' := by
  have HS := keep hs
  have HS2 := keep hs2
  clear hs hs2
  have hcr : Hid (crc (l ++ l2) = ~~~ crcW (crcW 0xFFFFFFFF l) l2) := by show _ = _; unfold crc; rw [crcW_append]
  go_enter Tryz.func147, Tryz.ntmps147
  go_wp2_with fail
  refine (crcGoOn_any 0xFFFFFFFF ao m c l _ hm HS.out).mono ?_
  rintro e w1 ⟨rfl, hb1⟩
  have HB := keep hb1
  clear hb1
  go_wp2_with fail
  refine (crcGoOn_any _ ao2 m2 c2 l2 _ hm2 (HS2.out.below HB.out)).mono ?_
  rintro e w2 ⟨rfl, hb2⟩
  have HB2 := keep (HB.out.trans (hb2.mono HB.out.size))
  clear hb2
  go_wp2
  go_ret
  refine ⟨?_, HB2.out⟩
  rw [hcr.out]
  rfl

end Go.Proofs.YthnebhddakfadaaGreatDoor
namespace Go.Proofs.YthnebhddakfadaaGreatDoor
open Go.RowKit

/-- The bytes of a frame. -/
def frame (body : List UInt8) : List UInt8 := num body.length ++ (be 4 (crc (num body.length ++ body)).toNat ++ body)
theorem num_le (n : Nat) (h : n ≤ 4611686018427387903) : (num n).length ≤ 9 := len_le 8 _ (by have e : (128 : Nat) ^ (8 + 1) = 9223372036854775808 := rfl; omega)
theorem frame_length (body : List UInt8) : (frame body).length = (num body.length).length + 4 + body.length := by
  unfold frame
  rw [List.length_append, List.length_append, be_length]
  omega
theorem cl_of (m : Nat) (h : m ≤ 140737488355328) : cl (m : Int) = m := by unfold cl; omega
theorem u64_U (x : UInt32) : IntKind.u64.wrap (U x) = U x := by
  have h1 := U_lo x
  have h2 := U_hi x
  rw [IntKind.wrap_u64]
  omega

set_option maxHeartbeats 1000000 in
set_option maxRecDepth 100000 in
theorem putFrame_any (ao : Option Addr) (m c : Nat) (l : List UInt8) (ao2 : Option Addr) (m2 c2 : Nat) (body : List UInt8) (w : World) (hm : m + m2 + 13 ≤ 140737488355328) (hs : Src w ao m c l) (hs2 : Src w ao2 m2 c2 body) :
    Calls Tryz.prog 99 #[.slice ao m c, .slice ao2 m2 c2] w fun e w' => ∃ v, e = .returned v ∧ New w w' v (m + (frame body).length) (l ++ frame body) := by
  have HS := keep hs
  have HS2 := keep hs2
  have hll := hs2.len
  clear hs hs2
  have hcl := cl_of m2 (by omega)
  have h9 := num_le m2 (by omega)
  obtain ⟨H, hH⟩ : ∃ H, num m2 = H := ⟨_, rfl⟩
  have HF : Hid (frame body = H ++ (be 4 (crc (H ++ body)).toNat ++ body)) := by rw [← hH, ← hll]; exact rfl
  have KG := keep (groups_any (m2 : Int) w)
  rw [hcl, hH] at KG
  rw [hH] at h9
  obtain ⟨X, hX⟩ : ∃ X, crc (H ++ body) = X := ⟨_, rfl⟩
  have HX := keep hX
  rw [hX] at HF
  have hu := u64_U X
  clear hH hX
  go_enter Tryz.func99, Tryz.ntmps99
  go_wp2_with fail
  refine KG.out.mono ?_
  rintro e w1 ⟨v1, rfl, hn1⟩
  obtain ⟨a1, c1, rfl, hs1, _⟩ := hn1.src
  have b1 := keep hn1.2
  have S1 := keep hs1
  clear hn1 hs1 KG
  go_wp2_with fail
  refine (crcOf_any a1 _ c1 H ao2 m2 c2 body w1 (by omega) (by omega) S1.out (HS2.out.below b1.out)).mono ?_
  rintro e w2 ⟨rfl, hb2⟩
  rw [HX.out]
  have b2 := keep (b1.out.trans (hb2.mono b1.out.size))
  have S2 := keep (S1.out.below hb2)
  clear hb2 b1 S1
  go_wp2_with fail
  refine (highFirst_any X.toNat 4 w2 (by omega) (by have := X.toNat_lt; omega)).mono ?_
  rintro e w3 ⟨v3, rfl, hn3⟩
  obtain ⟨a3, c3, rfl, hs3, _⟩ := hn3.src
  have b3 := keep (b2.out.trans (hn3.2.mono b2.out.size))
  have S3 := keep (S2.out.below hn3.2)
  have T3 := keep hs3
  clear hn3 hs3 b2 S2
  go_wp2_with fail
  refine (layB_any ao m c l a1 _ c1 H w3 (by omega) (HS.out.below b3.out) S3.out).mono ?_
  rintro e w4 ⟨v4, rfl, hn4⟩
  obtain ⟨a4, c4, rfl, hs4, _⟩ := hn4.src
  have b4 := keep (b3.out.trans (hn4.2.mono b3.out.size))
  have T4 := keep (T3.out.below hn4.2)
  have V4 := keep hs4
  clear hn4 hs4 b3 S3 T3
  go_wp2_with fail
  refine (layB_any a4 _ c4 (l ++ H) a3 4 c3 _ w4 (by omega) V4.out T4.out).mono ?_
  rintro e w5 ⟨v5, rfl, hn5⟩
  obtain ⟨a5, c5, rfl, hs5, _⟩ := hn5.src
  have b5 := keep (b4.out.trans (hn5.2.mono b4.out.size))
  have V5 := keep hs5
  clear hn5 hs5 b4 T4 V4
  go_wp2_with fail
  refine (layB_any a5 _ c5 (l ++ H ++ be 4 X.toNat) ao2 m2 c2 body w5 (by omega) V5.out (HS2.out.below b5.out)).mono ?_
  rintro e w6 ⟨v6, rfl, hn6⟩
  have N6 := keep (hn6.after b5.out)
  clear hn6 b5 V5
  go_wp2
  go_ret
  refine ⟨_, rfl, ?_⟩
  have hfl : m + (frame body).length = m + H.length + 4 + m2 := by
    rw [HF.out, List.length_append, List.length_append, be_length, hll]; omega
  rw [hfl, HF.out]
  have := N6.out
  rw [List.append_assoc, List.append_assoc] at this
  exact this
end Go.Proofs.YthnebhddakfadaaGreatDoor
