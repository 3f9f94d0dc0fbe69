/- Stage 7 of the document over plain lists of bytes: places, bits, filters; no walk. -/
import Derived.Test.YtbahldabcieiaaaF
namespace Go.Proofs.Ytbahldabcieiaaa.Bl

/-- The second sum, made odd. -/
def odd (k : List UInt8) : UInt32 := crc (k ++ [1]) ||| 1
/-- The i-th sum. -/
def sumAt (k : List UInt8) (i : Nat) : UInt32 := crc k + UInt32.ofNat i * odd k
/-- The i-th place among so many bits. -/
def place (k : List UInt8) (bits i : Nat) : Nat := (sumAt k i).toNat % bits
theorem sumAt_zero (k : List UInt8) : sumAt k 0 = crc k := by simp [sumAt]
theorem sumAt_succ (k : List UInt8) (i : Nat) : sumAt k (i + 1) = sumAt k i + odd k := by
  unfold sumAt
  rw [UInt32.ofNat_add, UInt32.add_mul, UInt32.add_assoc]
  simp
theorem place_lt (k : List UInt8) {bits : Nat} (h : 0 < bits) (i : Nat) : place k bits i < bits := Nat.mod_lt _ h

/-- A bit of a byte. -/
def bitB (b : UInt8) (j : Nat) : Bool := b.toNat.testBit j
def setB (b : UInt8) (j : Nat) : UInt8 := UInt8.ofNat (b.toNat ||| 2 ^ j)
theorem setB_toNat (b : UInt8) {j : Nat} (h : j < 8) : (setB b j).toNat = b.toNat ||| 2 ^ j := by
  unfold setB
  rw [UInt8.toNat_ofNat']
  apply Nat.mod_eq_of_lt
  exact Nat.or_lt_two_pow (n := 8) b.toNat_lt (Nat.pow_lt_pow_right (by decide) h)
theorem bitB_setB (b : UInt8) {i j : Nat} (h : j < 8) : bitB (setB b j) i = (bitB b i || decide (j = i)) := by
  unfold bitB
  rw [setB_toNat b h, Nat.testBit_or, Nat.testBit_two_pow]
theorem byte_ext {a b : UInt8} (h : ∀ i, i < 8 → bitB a i = bitB b i) : a = b := by
  apply UInt8.toNat_inj.1
  apply Nat.eq_of_testBit_eq
  intro i
  rcases Nat.lt_or_ge i 8 with hi | hi
  · exact h i hi
  · have e : (2 : Nat) ^ 8 ≤ 2 ^ i := Nat.pow_le_pow_right (by decide) hi
    rw [Nat.testBit_lt_two_pow (Nat.lt_of_lt_of_le a.toNat_lt e), Nat.testBit_lt_two_pow (Nat.lt_of_lt_of_le b.toNat_lt e)]
theorem bitB_or (a b : UInt8) (i : Nat) : bitB (a ||| b) i = (bitB a i || bitB b i) := by
  unfold bitB
  rw [UInt8.toNat_or, Nat.testBit_or]

/-- The bit of a place. -/
def bitAt (f : List UInt8) (p : Nat) : Bool := bitB (fn f (p / 8)) (p % 8)
def mark (f : List UInt8) (p : Nat) : List UInt8 := f.set (p / 8) (setB (fn f (p / 8)) (p % 8))
theorem mark_length (f : List UInt8) (p : Nat) : (mark f p).length = f.length := by simp [mark]
theorem fn_set (f : List UInt8) (q : Nat) (x : UInt8) (r : Nat) (h : q < f.length) : fn (f.set q x) r = if q = r then x else fn f r := by
  unfold fn
  rw [List.getD_eq_getElem?_getD, List.getD_eq_getElem?_getD, List.getElem?_set]
  by_cases e : q = r
  · subst e; simp [h]
  · simp [e]
theorem bitAt_mark (f : List UInt8) (p q : Nat) (h : p < 8 * f.length) : bitAt (mark f p) q = (bitAt f q || decide (p = q)) := by
  unfold bitAt mark
  rw [fn_set _ _ _ _ (by omega)]
  by_cases e : p / 8 = q / 8
  · rw [if_pos e, bitB_setB _ (by omega), e]
    congr 1
    rw [decide_eq_decide]
    omega
  · rw [if_neg e]
    have : ¬ p = q := fun h => e (by rw [h])
    simp [this]
theorem filter_ext {f g : List UInt8} (hl : f.length = g.length) (h : ∀ p, p < 8 * f.length → bitAt f p = bitAt g p) : f = g := by
  apply List.ext_getElem hl
  intro i h1 h2
  apply byte_ext
  intro j hj
  have := h (8 * i + j) (by omega)
  unfold bitAt at this
  rw [show (8 * i + j) / 8 = i by omega, show (8 * i + j) % 8 = j by omega] at this
  have e1 : fn f i = f[i] := by simp [fn, List.getD, h1]
  have e2 : fn g i = g[i] := by simp [fn, List.getD, h2]
  rwa [e1, e2] at this

/-- The first n places of a key are marked. -/
def marks (k : List UInt8) (bits : Nat) (f : List UInt8) : Nat → List UInt8
  | 0 => f
  | n + 1 => mark (marks k bits f n) (place k bits n)
theorem marks_length (k : List UInt8) (bits : Nat) (f : List UInt8) (n : Nat) : (marks k bits f n).length = f.length := by
  induction n with
  | zero => rfl
  | succ n ih => simp only [marks]; rw [mark_length, ih]
theorem bitAt_marks (k : List UInt8) (f : List UInt8) (n q : Nat) (h : 0 < f.length) : bitAt (marks k (8 * f.length) f n) q = true ↔ bitAt f q = true ∨ ∃ i, i < n ∧ place k (8 * f.length) i = q := by
  induction n with
  | zero => simp [marks]
  | succ n ih =>
    simp only [marks]
    rw [bitAt_mark _ _ _ (by rw [marks_length]; exact place_lt k (by omega) n), Bool.or_eq_true, ih, decide_eq_true_iff]
    constructor
    · rintro ((h1 | ⟨i, h1, h2⟩) | h1)
      · exact .inl h1
      · exact .inr ⟨i, by omega, h2⟩
      · exact .inr ⟨n, by omega, h1⟩
    · rintro (h1 | ⟨i, h1, h2⟩)
      · exact .inl (.inl h1)
      · rcases Nat.lt_or_ge i n with h3 | h3
        · exact .inl (.inr ⟨i, h3, h2⟩)
        · obtain rfl : i = n := by omega
          exact .inr h2
/-- How many bytes a filter of so many keys has. -/
def sizeOf (n : Nat) : Nat := max 8 ((10 * n + 7) / 8)
theorem sizeOf_pos (n : Nat) : 8 ≤ sizeOf n := Nat.le_max_left _ _
/-- The keys' places are marked. -/
def fill (f : List UInt8) : List (List UInt8) → List UInt8
  | [] => f
  | k :: ks => fill (marks k (8 * f.length) f 6) ks
theorem fill_length : ∀ (ks : List (List UInt8)) (f : List UInt8), (fill f ks).length = f.length
  | [], _ => rfl
  | k :: ks, f => by simp only [fill]; rw [fill_length ks, marks_length]
theorem fill_snoc : ∀ (ks : List (List UInt8)) (f : List UInt8) (k : List UInt8), fill f (ks ++ [k]) = marks k (8 * f.length) (fill f ks) 6
  | [], _, _ => rfl
  | x :: ks, f, k => by
    simp only [List.cons_append, fill]
    rw [fill_snoc ks, marks_length]
theorem bitAt_fill : ∀ (ks : List (List UInt8)) (f : List UInt8) (q : Nat), 0 < f.length → (bitAt (fill f ks) q = true ↔ bitAt f q = true ∨ ∃ k ∈ ks, ∃ i, i < 6 ∧ place k (8 * f.length) i = q)
  | [], f, q, _ => by simp [fill]
  | k :: ks, f, q, h => by
    simp only [fill]
    rw [bitAt_fill ks _ q (by rw [marks_length]; exact h), marks_length, bitAt_marks k f 6 q h]
    constructor
    · rintro ((h1 | h1) | ⟨x, h1, h2⟩)
      · exact .inl h1
      · exact .inr ⟨k, List.mem_cons_self, h1⟩
      · exact .inr ⟨x, List.mem_cons_of_mem _ h1, h2⟩
    · rintro (h1 | ⟨x, h1, h2⟩)
      · exact .inl (.inl h1)
      · rcases List.mem_cons.1 h1 with rfl | h1
        · exact .inl (.inr h2)
        · exact .inr ⟨x, h1, h2⟩
def zeros (n : Nat) : List UInt8 := List.replicate n 0
/-- The filter of keys. -/
def build (ks : List (List UInt8)) : List UInt8 := fill (zeros (sizeOf ks.length)) ks
theorem zeros_length (n : Nat) : (zeros n).length = n := by simp [zeros]
theorem build_length (ks : List (List UInt8)) : (build ks).length = sizeOf ks.length := by unfold build; rw [fill_length, zeros_length]
theorem fn_zeros (n i : Nat) : fn (zeros n) i = 0 := by
  unfold fn zeros
  rw [List.getD_eq_getElem?_getD, List.getElem?_replicate]
  split <;> rfl
theorem bitAt_zeros (n q : Nat) : bitAt (zeros n) q = false := by
  unfold bitAt
  rw [fn_zeros]
  unfold bitB
  exact Nat.zero_testBit _
theorem bitAt_build (ks : List (List UInt8)) (q : Nat) : bitAt (build ks) q = true ↔ ∃ k ∈ ks, ∃ i, i < 6 ∧ place k (8 * sizeOf ks.length) i = q := by
  unfold build
  rw [bitAt_fill _ _ _ (by rw [zeros_length]; have := sizeOf_pos ks.length; omega), bitAt_zeros, zeros_length]
  simp
/-- What is in both lists makes one filter. -/
theorem build_same {ks js : List (List UInt8)} (hl : ks.length = js.length) (h : ∀ k, k ∈ ks ↔ k ∈ js) : build ks = build js := by
  refine filter_ext (by rw [build_length, build_length, hl]) (fun p _ => ?_)
  rw [Bool.eq_iff_iff, bitAt_build, bitAt_build, hl]
  constructor
  · rintro ⟨k, h1, h2⟩; exact ⟨k, (h k).1 h1, h2⟩
  · rintro ⟨k, h1, h2⟩; exact ⟨k, (h k).2 h1, h2⟩

/-- May the key be there? -/
def hasN (f k : List UInt8) (n : Nat) : Bool := (List.range n).all fun i => bitAt f (place k (8 * f.length) i)
def has (f k : List UInt8) : Bool := decide (f.length = 0) || hasN f k 6
theorem hasN_iff (f k : List UInt8) (n : Nat) : hasN f k n = true ↔ ∀ i, i < n → bitAt f (place k (8 * f.length) i) = true := by
  unfold hasN
  rw [List.all_eq_true]
  constructor
  · intro h i hi; exact h i (List.mem_range.2 hi)
  · intro h i hi; exact h i (List.mem_range.1 hi)
theorem hasN_succ (f k : List UInt8) (n : Nat) : hasN f k (n + 1) = (hasN f k n && bitAt f (place k (8 * f.length) n)) := by
  unfold hasN
  rw [List.range_succ, List.all_append]
  simp
theorem hasN_le {f k : List UInt8} {n m : Nat} (h : n ≤ m) (hm : hasN f k m = true) : hasN f k n = true := by
  rw [hasN_iff] at hm ⊢
  exact fun i hi => hm i (by omega)
theorem has_build {ks : List (List UInt8)} {k : List UInt8} (h : k ∈ ks) : has (build ks) k = true := by
  unfold has
  rw [Bool.or_eq_true]
  right
  rw [hasN_iff]
  intro i hi
  rw [build_length, bitAt_build]
  exact ⟨k, h, i, hi, rfl⟩
/-- More bits. -/
def more : List UInt8 → List UInt8 → List UInt8
  | a :: s, b :: t => (a ||| b) :: more s t
  | s, _ => s
theorem more_nil (s : List UInt8) : more s [] = s := by cases s <;> rfl
theorem more_length : ∀ (s t : List UInt8), (more s t).length = s.length
  | [], _ => by simp [more]
  | _ :: _, [] => rfl
  | _ :: s, _ :: t => by simp [more, more_length s t]
theorem fn_more : ∀ (s t : List UInt8) (i : Nat), i < s.length → fn (more s t) i = fn s i ||| fn t i
  | [], _, i, h => by simp at h
  | a :: s, [], i, h => by
    simp only [more]
    have : fn ([] : List UInt8) i = 0 := by simp [fn, List.getD]
    rw [this]; simp
  | a :: s, b :: t, 0, h => by simp [more, fn, List.getD]
  | a :: s, b :: t, i + 1, h => by
    have := fn_more s t i (by simpa using h)
    simpa [more, fn, List.getD] using this
theorem bitAt_more (s t : List UInt8) (q : Nat) (h : bitAt s q = true) : bitAt (more s t) q = true := by
  have hq : q / 8 < s.length := by
    rcases Nat.lt_or_ge (q / 8) s.length with h1 | h1
    · exact h1
    · have e : fn s (q / 8) = 0 := by
        unfold fn
        rw [List.getD_eq_getElem?_getD, List.getElem?_eq_none h1]; rfl
      unfold bitAt at h
      rw [e] at h
      unfold bitB at h
      rw [show (0 : UInt8).toNat = 0 from rfl, Nat.zero_testBit] at h
      cases h
  unfold bitAt at h ⊢
  rw [fn_more _ _ _ hq, bitB_or, h]
  rfl
theorem has_more {f k : List UInt8} (t : List UInt8) (h : has f k = true) : has (more f t) k = true := by
  unfold has at h ⊢
  rw [more_length]
  rw [Bool.or_eq_true] at h ⊢
  rcases h with h | h
  · exact .inl h
  · right
    rw [hasN_iff] at h ⊢
    intro i hi
    rw [more_length]
    exact bitAt_more _ _ _ (h i hi)

/-- How many bits are set among the first n. -/
def countB (b : UInt8) : Nat → Nat
  | 0 => 0
  | n + 1 => countB b n + if bitB b n then 1 else 0
def count : List UInt8 → Nat
  | [] => 0
  | b :: f => countB b 8 + count f
theorem countB_le (b : UInt8) (n : Nat) : countB b n ≤ n := by
  induction n with
  | zero => exact Nat.le_refl _
  | succ n ih => simp only [countB]; split <;> omega
theorem countB_setB (b : UInt8) {j : Nat} (hj : j < 8) : ∀ n, countB (setB b j) n ≤ countB b n + (if j < n then 1 else 0) ∧ countB b n ≤ countB (setB b j) n
  | 0 => by simp [countB]
  | n + 1 => by
    obtain ⟨h1, h2⟩ := countB_setB b hj n
    simp only [countB]
    rw [bitB_setB b hj]
    by_cases e : j = n
    · subst e
      rw [if_neg (Nat.lt_irrefl _)] at h1
      rw [if_pos (Nat.lt_succ_self _)]
      cases bitB b j <;> simp <;> omega
    · have e2 : decide (j = n) = false := decide_eq_false e
      rw [e2, Bool.or_false]
      by_cases h3 : j < n
      · rw [if_pos h3] at h1
        rw [if_pos (show j < n + 1 by omega)]
        exact ⟨by omega, by omega⟩
      · rw [if_neg h3] at h1
        rw [if_neg (show ¬ j < n + 1 by omega)]
        exact ⟨by omega, by omega⟩
theorem count_set : ∀ (f : List UInt8) (q : Nat) (x : UInt8), q < f.length → count (f.set q x) + countB (fn f q) 8 = count f + countB x 8
  | [], q, x, h => by simp at h
  | b :: f, 0, x, h => by simp [count, fn, List.getD]; omega
  | b :: f, q + 1, x, h => by
    have := count_set f q x (by simpa using h)
    have e : fn (b :: f) (q + 1) = fn f q := by simp [fn, List.getD]
    rw [e]
    simp only [List.set_cons_succ, count]
    omega
theorem count_mark (f : List UInt8) (p : Nat) (h : p < 8 * f.length) : count (mark f p) ≤ count f + 1 := by
  have h1 := count_set f (p / 8) (setB (fn f (p / 8)) (p % 8)) (by omega)
  have h2 := (countB_setB (fn f (p / 8)) (j := p % 8) (by omega) 8).1
  rw [if_pos (by omega)] at h2
  unfold mark
  omega
theorem count_marks (k : List UInt8) (f : List UInt8) (h : 0 < f.length) (n : Nat) : count (marks k (8 * f.length) f n) ≤ count f + n := by
  induction n with
  | zero => exact Nat.le_refl _
  | succ n ih =>
    simp only [marks]
    have := count_mark (marks k (8 * f.length) f n) (place k (8 * f.length) n) (by rw [marks_length]; exact place_lt k (by omega) n)
    omega
theorem count_fill : ∀ (ks : List (List UInt8)) (f : List UInt8), 0 < f.length → count (fill f ks) ≤ count f + 6 * ks.length
  | [], f, _ => by simp [fill]
  | k :: ks, f, h => by
    simp only [fill]
    have h1 := count_fill ks (marks k (8 * f.length) f 6) (by rw [marks_length]; exact h)
    have h2 := count_marks k f h 6
    simp only [List.length_cons]
    omega
theorem countB_zero : ∀ n, countB 0 n = 0
  | 0 => rfl
  | n + 1 => by
    simp only [countB]
    rw [countB_zero n]
    unfold bitB
    rw [show (0 : UInt8).toNat = 0 from rfl, Nat.zero_testBit]
    rfl
theorem count_zeros : ∀ n, count (zeros n) = 0
  | 0 => rfl
  | n + 1 => by
    show countB 0 8 + count (zeros n) = 0
    rw [countB_zero, count_zeros n]
theorem countB_pos {b : UInt8} {j : Nat} (h : bitB b j = true) : ∀ n, j < n → 0 < countB b n
  | 0, hn => by omega
  | n + 1, hn => by
    simp only [countB]
    by_cases e : j = n
    · subst e; rw [h]; simp
    · have := countB_pos h n (by omega); omega
theorem count_pos : ∀ {f : List UInt8} {q : Nat}, bitB (fn f q) 0 = bitB (fn f q) 0 → ∀ {j}, j < 8 → bitB (fn f q) j = true → 0 < count f
  | [], q, _, j, _, h => by
    have e : fn ([] : List UInt8) q = 0 := by simp [fn, List.getD]
    rw [e] at h
    unfold bitB at h
    rw [show (0 : UInt8).toNat = 0 from rfl, Nat.zero_testBit] at h
    cases h
  | b :: f, 0, _, j, hj, h => by
    have e : fn (b :: f) 0 = b := by simp [fn, List.getD]
    rw [e] at h
    have := countB_pos h 8 hj
    simp only [count]
    omega
  | b :: f, q + 1, _, j, hj, h => by
    have e : fn (b :: f) (q + 1) = fn f q := by simp [fn, List.getD]
    rw [e] at h
    have := count_pos (f := f) (q := q) rfl hj h
    simp only [count]
    omega
theorem count_build_le (ks : List (List UInt8)) : count (build ks) ≤ 6 * ks.length := by
  have := count_fill ks (zeros (sizeOf ks.length)) (by rw [zeros_length]; have := sizeOf_pos ks.length; omega)
  rw [count_zeros] at this
  unfold build
  omega
theorem count_build_pos {ks : List (List UInt8)} (h : ks ≠ []) : 0 < count (build ks) := by
  cases ks with
  | nil => exact absurd rfl h
  | cons k ks =>
    have h1 := (bitAt_build (k :: ks) (place k (8 * sizeOf (k :: ks).length) 0)).2 ⟨k, List.mem_cons_self, 0, by decide, rfl⟩
    unfold bitAt at h1
    exact count_pos rfl (Nat.mod_lt _ (by decide)) h1
theorem count_snoc (f : List UInt8) (k : Nat) (h : k < f.length) : count (f.take (k + 1)) = count (f.take k) + countB (fn f k) 8 := by
  have app : ∀ a b : List UInt8, count (a ++ b) = count a + count b := fun a b => by
    induction a with
    | nil => simp [count]
    | cons x a ih => simp only [List.cons_append, count, ih]; omega
  rw [List.take_succ_eq_append_getElem h, app]
  have e : fn f k = f[k] := by simp [fn, List.getD, h]
  rw [e]
  simp [count]
theorem count_le (f : List UInt8) : count f ≤ 8 * f.length := by
  induction f with
  | nil => exact Nat.le_refl _
  | cons b f ih => have := countB_le b 8; simp only [count, List.length_cons]; omega
end Go.Proofs.Ytbahldabcieiaaa.Bl
