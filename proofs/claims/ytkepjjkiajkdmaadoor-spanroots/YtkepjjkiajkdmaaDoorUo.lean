/- How many ones a number has, as bits.OnesCount64 reckons it; no walk. -/
import Derived.Test.YtkepjjkiajkdmaaDoorMs
namespace Go.Proofs.YtkepjjkiajkdmaaDoor.Mt

theorem ones_app : ∀ (k y z : Nat), y < 2 ^ k → ones (y + 2 ^ k * z) = ones y + ones z
  | 0, y, z, h => by
    have : y = 0 := by simpa using h
    subst this
    simp [ones_zero]
  | k + 1, y, z, h => by
    rw [Nat.pow_succ] at h
    have e1 : y + 2 ^ (k + 1) * z = 2 * (y / 2 + 2 ^ k * z) + y % 2 := by
      rw [Nat.pow_succ, show 2 ^ k * 2 * z = 2 * (2 ^ k * z) by rw [Nat.mul_comm (2 ^ k) 2, Nat.mul_assoc]]
      omega
    have e2 : ones y = y % 2 + ones (y / 2) := by
      rw [← ones_two _ _ (Nat.mod_lt _ (by decide))]
      congr 1
      omega
    rw [e1, ones_two _ _ (by omega), ones_app k (y / 2) z (by omega), e2]
    omega
theorem and_comp (y z c d : Nat) (hy : y < 256) (hc : c < 256) : (y + 256 * z) &&& (c + 256 * d) = (y &&& c) + 256 * (z &&& d) := by
  have hyc : y &&& c < 256 := Nat.lt_of_le_of_lt Nat.and_le_left hy
  apply Nat.eq_of_testBit_eq
  intro i
  rw [Nat.testBit_and, Nat.add_comm y, Nat.add_comm c, Nat.add_comm (y &&& c)]
  rw [show (256 : Nat) = 2 ^ 8 from rfl] at *
  rw [Nat.testBit_two_pow_mul_add z hy, Nat.testBit_two_pow_mul_add d hc, Nat.testBit_two_pow_mul_add (z &&& d) hyc]
  split
  · rw [Nat.testBit_and]
  · rw [Nat.testBit_and]
/-- Eight bytes as one number. -/
def by8 (a b c d e f g h : Nat) : Nat := a + 256 * (b + 256 * (c + 256 * (d + 256 * (e + 256 * (f + 256 * (g + 256 * h))))))
theorem by8_of (x : Nat) (h : x < 2 ^ 64) : ∃ a b c d e f g h, x = by8 a b c d e f g h ∧ a < 256 ∧ b < 256 ∧ c < 256 ∧ d < 256 ∧ e < 256 ∧ f < 256 ∧ g < 256 ∧ h < 256 := by
  refine ⟨x % 256, x / 256 % 256, x / 65536 % 256, x / 16777216 % 256, x / 4294967296 % 256, x / 1099511627776 % 256, x / 281474976710656 % 256, x / 72057594037927936, ?_, ?_⟩
  · unfold by8
    omega
  · omega
theorem ones_by8 {a b c d e f g h : Nat} (ha : a < 256) (hb : b < 256) (hc : c < 256) (hd : d < 256) (he : e < 256) (hf : f < 256) (hg : g < 256) : ones (by8 a b c d e f g h) = ones a + (ones b + (ones c + (ones d + (ones e + (ones f + (ones g + ones h)))))) := by
  unfold by8
  have := ones_app 8
  rw [show (2 : Nat) ^ 8 = 256 from rfl] at this
  rw [this a _ ha, this b _ hb, this c _ hc, this d _ hd, this e _ he, this f _ hf, this g _ hg]
def s1 (y : Nat) : Nat := (y / 2 &&& 85) + (y &&& 85)
def s2 (y : Nat) : Nat := (y / 4 &&& 51) + (y &&& 51)
def s3 (y : Nat) : Nat := (y / 16 + y) &&& 15
theorem k1 : ∀ (y : Fin 256) (z : Fin 2), (y.val / 2 + 128 * z.val) &&& 85 = y.val / 2 &&& 85 := by decide +kernel
theorem k2 : ∀ (y : Fin 256) (z : Fin 4), (y.val / 4 + 64 * z.val) &&& 51 = y.val / 4 &&& 51 := by decide +kernel
theorem k3 : ∀ (y : Fin 256) (z : Fin 16), (y.val / 16 + 16 * z.val + y.val) &&& 15 = s3 y.val := by decide +kernel
theorem r1 : ∀ (y : Fin 256), s1 y.val < 256 := by decide +kernel
theorem r2 : ∀ (y : Fin 256), s2 (s1 y.val) % 16 ≤ 4 ∧ s2 (s1 y.val) / 16 ≤ 4 := by decide +kernel
theorem r3 : ∀ (y : Fin 256), s3 (s2 (s1 y.val)) = ones y.val ∧ ones y.val ≤ 8 := by decide +kernel
theorem t1 (y z M : Nat) (hy : y < 256) : ((y + 256 * z) / 2 &&& (85 + 256 * M)) + ((y + 256 * z) &&& (85 + 256 * M)) = s1 y + 256 * ((z / 2 &&& M) + (z &&& M)) := by
  have e : (y + 256 * z) / 2 = (y / 2 + 128 * (z % 2)) + 256 * (z / 2) := by omega
  rw [e, and_comp _ _ _ _ (by omega) (by decide), and_comp _ _ _ _ hy (by decide), k1 ⟨y, hy⟩ ⟨z % 2, by omega⟩]
  unfold s1
  simp only
  omega
theorem t2 (y z M : Nat) (hy : y < 256) : ((y + 256 * z) / 4 &&& (51 + 256 * M)) + ((y + 256 * z) &&& (51 + 256 * M)) = s2 y + 256 * ((z / 4 &&& M) + (z &&& M)) := by
  have e : (y + 256 * z) / 4 = (y / 4 + 64 * (z % 4)) + 256 * (z / 4) := by omega
  rw [e, and_comp _ _ _ _ (by omega) (by decide), and_comp _ _ _ _ hy (by decide), k2 ⟨y, hy⟩ ⟨z % 4, by omega⟩]
  unfold s2
  simp only
  omega
theorem t3 (y z M : Nat) (hy : y % 16 ≤ 4 ∧ y / 16 ≤ 4) (hz : z % 16 ≤ 4) : ((y + 256 * z) / 16 + (y + 256 * z)) &&& (15 + 256 * M) = s3 y + 256 * ((z / 16 + z) &&& M) := by
  have e : (y + 256 * z) / 16 + (y + 256 * z) = (y / 16 + 16 * (z % 16) + y) + 256 * (z / 16 + z) := by omega
  rw [e, and_comp _ _ _ _ (by omega) (by decide), k3 ⟨y, by omega⟩ ⟨z % 16, by omega⟩]
theorem w1 {a b c d e f g h : Nat} (ha : a < 256) (hb : b < 256) (hc : c < 256) (hd : d < 256) (he : e < 256) (hf : f < 256) (hg : g < 256) (_ : h < 256) : (by8 a b c d e f g h / 2 &&& 6148914691236517205) + (by8 a b c d e f g h &&& 6148914691236517205) = by8 (s1 a) (s1 b) (s1 c) (s1 d) (s1 e) (s1 f) (s1 g) (s1 h) := by
  rw [show 6148914691236517205 = by8 85 85 85 85 85 85 85 85 from rfl]
  unfold by8
  rw [t1 _ _ _ ha, t1 _ _ _ hb, t1 _ _ _ hc, t1 _ _ _ hd, t1 _ _ _ he, t1 _ _ _ hf, t1 _ _ _ hg]
  rfl
theorem w2 {a b c d e f g h : Nat} (ha : a < 256) (hb : b < 256) (hc : c < 256) (hd : d < 256) (he : e < 256) (hf : f < 256) (hg : g < 256) (_ : h < 256) : (by8 a b c d e f g h / 4 &&& 3689348814741910323) + (by8 a b c d e f g h &&& 3689348814741910323) = by8 (s2 a) (s2 b) (s2 c) (s2 d) (s2 e) (s2 f) (s2 g) (s2 h) := by
  rw [show 3689348814741910323 = by8 51 51 51 51 51 51 51 51 from rfl]
  unfold by8
  rw [t2 _ _ _ ha, t2 _ _ _ hb, t2 _ _ _ hc, t2 _ _ _ hd, t2 _ _ _ he, t2 _ _ _ hf, t2 _ _ _ hg]
  rfl
def low4 (y : Nat) : Prop := y % 16 ≤ 4 ∧ y / 16 ≤ 4
theorem w3 {a b c d e f g h : Nat} (ha : low4 a) (hb : low4 b) (hc : low4 c) (hd : low4 d) (he : low4 e) (hf : low4 f) (hg : low4 g) (hh : low4 h) : (by8 a b c d e f g h / 16 + by8 a b c d e f g h) &&& 1085102592571150095 = by8 (s3 a) (s3 b) (s3 c) (s3 d) (s3 e) (s3 f) (s3 g) (s3 h) := by
  rw [show 1085102592571150095 = by8 15 15 15 15 15 15 15 15 from rfl]
  unfold low4 at *
  unfold by8
  rw [t3 _ _ _ ha (by omega), t3 _ _ _ hb (by omega), t3 _ _ _ hc (by omega), t3 _ _ _ hd (by omega), t3 _ _ _ he (by omega), t3 _ _ _ hf (by omega), t3 _ _ _ hg (by omega)]
  rfl
theorem div_of {s k : Nat} (h : s < k) (t : Nat) : (s + k * t) / k = t := by
  rw [Nat.add_mul_div_left _ _ (by omega), Nat.div_eq_of_lt h, Nat.zero_add]
theorem w4 {a b c d e f g h : Nat} (ha : a ≤ 8) (hb : b ≤ 8) (hc : c ≤ 8) (hd : d ≤ 8) (he : e ≤ 8) (hf : f ≤ 8) (hg : g ≤ 8) (hh : h ≤ 8) (x4 x5 x6 : Nat) (h4 : x4 = by8 a b c d e f g h + by8 a b c d e f g h / 256) (h5 : x5 = x4 + x4 / 65536) (h6 : x6 = x5 + x5 / 4294967296) :
    x4 < 2 ^ 63 ∧ x5 < 2 ^ 63 ∧ x6 < 2 ^ 63 ∧ x6 % 128 = a + (b + (c + (d + (e + (f + (g + h)))))) := by
  unfold by8 at h4
  rw [div_of (show a < 256 by omega)] at h4
  have e4 : x4 = ((a + b) + 256 * (b + c)) + 65536 * ((c + d) + 256 * (d + e) + 65536 * ((e + f) + 256 * (f + g) + 65536 * ((g + h) + 256 * h))) := by rw [h4]; omega
  clear h4
  rw [e4, div_of (show (a + b) + 256 * (b + c) < 65536 by omega)] at h5
  have l4 : x4 < 2 ^ 63 := by rw [e4]; omega
  clear e4
  have e5 : x5 = ((a + b + c + d) + 256 * (b + c + d + e) + 65536 * ((c + d + e + f) + 256 * (d + e + f + g))) + 4294967296 * ((e + f + g + h) + 256 * (f + g + h) + 65536 * ((g + h) + 256 * h)) := by rw [h5]; omega
  clear h5
  rw [e5, div_of (show (a + b + c + d) + 256 * (b + c + d + e) + 65536 * ((c + d + e + f) + 256 * (d + e + f + g)) < 4294967296 by omega)] at h6
  have l5 : x5 < 2 ^ 63 := by rw [e5]; omega
  clear e5
  have l6 : x6 < 2 ^ 63 := by rw [h6]; omega
  have e6 : x6 = (a + (b + (c + (d + (e + (f + (g + h))))))) + 128 * (2 * ((b + c + d + e + f + g + h) + 256 * (c + d + e + f + g + h) + 65536 * (d + e + f + g + h) + 16777216 * ((e + f + g + h) + 256 * (f + g + h) + 65536 * ((g + h) + 256 * h)))) := by rw [h6]; omega
  clear h6
  refine ⟨l4, l5, l6, ?_⟩
  rw [e6, Nat.add_mul_mod_self_left, Nat.mod_eq_of_lt (by omega)]
theorem by8_lt (k : Nat) {a b c d e f g h : Nat} (hk : k < 256) (ha : a ≤ k) (hb : b ≤ k) (hc : c ≤ k) (hd : d ≤ k) (he : e ≤ k) (hf : f ≤ k) (hg : g ≤ k) (hh : h ≤ k) : by8 a b c d e f g h < (k + 1) * 2 ^ 56 := by
  unfold by8
  omega
theorem low4_le {y : Nat} (h : low4 y) : y ≤ 100 := by
  unfold low4 at h
  omega
/-- The ones of a word, as bits.OnesCount64 reckons them. -/
theorem swar (x x1 x2 x3 x4 x5 x6 : Nat) (h : x < 2 ^ 64) (h1 : x1 = (x / 2 &&& 6148914691236517205) + (x &&& 6148914691236517205)) (h2 : x2 = (x1 / 4 &&& 3689348814741910323) + (x1 &&& 3689348814741910323)) (h3 : x3 = (x2 / 16 + x2) &&& 1085102592571150095) (h4 : x4 = x3 + x3 / 256) (h5 : x5 = x4 + x4 / 65536) (h6 : x6 = x5 + x5 / 4294967296) :
    x1 < 2 ^ 64 ∧ x2 < 2 ^ 63 ∧ x3 < 2 ^ 63 ∧ x4 < 2 ^ 63 ∧ x5 < 2 ^ 63 ∧ x6 < 2 ^ 63 ∧ x6 % 128 = ones x := by
  obtain ⟨a, b, c, d, e, f, g, i, rfl, ha, hb, hc, hd, he, hf, hg, hi⟩ := by8_of x h
  have R1 : ∀ y, y < 256 → s1 y < 256 := fun y hy => r1 ⟨y, hy⟩
  have R2 : ∀ y, y < 256 → low4 (s2 (s1 y)) := fun y hy => r2 ⟨y, hy⟩
  have R3 : ∀ y, y < 256 → s3 (s2 (s1 y)) = ones y := fun y hy => (r3 ⟨y, hy⟩).1
  have R4 : ∀ y, y < 256 → ones y ≤ 8 := fun y hy => (r3 ⟨y, hy⟩).2
  rw [w1 ha hb hc hd he hf hg hi] at h1
  have q1 : x1 < 2 ^ 64 := by
    rw [h1]
    exact by8_lt 255 (by decide) (Nat.le_of_lt_succ (R1 a ha)) (Nat.le_of_lt_succ (R1 b hb)) (Nat.le_of_lt_succ (R1 c hc)) (Nat.le_of_lt_succ (R1 d hd)) (Nat.le_of_lt_succ (R1 e he)) (Nat.le_of_lt_succ (R1 f hf)) (Nat.le_of_lt_succ (R1 g hg)) (Nat.le_of_lt_succ (R1 i hi))
  rw [h1, w2 (R1 a ha) (R1 b hb) (R1 c hc) (R1 d hd) (R1 e he) (R1 f hf) (R1 g hg) (R1 i hi)] at h2
  have q2 : x2 < 2 ^ 63 := by
    rw [h2]
    exact Nat.lt_trans (by8_lt 100 (by decide) (low4_le (R2 a ha)) (low4_le (R2 b hb)) (low4_le (R2 c hc)) (low4_le (R2 d hd)) (low4_le (R2 e he)) (low4_le (R2 f hf)) (low4_le (R2 g hg)) (low4_le (R2 i hi))) (by decide)
  rw [h2, w3 (R2 a ha) (R2 b hb) (R2 c hc) (R2 d hd) (R2 e he) (R2 f hf) (R2 g hg) (R2 i hi)] at h3
  rw [R3 a ha, R3 b hb, R3 c hc, R3 d hd, R3 e he, R3 f hf, R3 g hg, R3 i hi] at h3
  have z1 := R4 a ha; have z2 := R4 b hb; have z3 := R4 c hc; have z4 := R4 d hd; have z5 := R4 e he; have z6 := R4 f hf; have z7 := R4 g hg; have z8 := R4 i hi
  have q3 : x3 < 2 ^ 63 := by
    rw [h3]
    exact Nat.lt_trans (by8_lt 8 (by decide) z1 z2 z3 z4 z5 z6 z7 z8) (by decide)
  rw [h3] at h4
  obtain ⟨q4, q5, q6, q7⟩ := w4 z1 z2 z3 z4 z5 z6 z7 z8 x4 x5 x6 h4 h5 h6
  exact ⟨q1, q2, q3, q4, q5, q6, by rw [q7, ones_by8 ha hb hc hd he hf hg]⟩
end Go.Proofs.YtkepjjkiajkdmaaDoor.Mt
