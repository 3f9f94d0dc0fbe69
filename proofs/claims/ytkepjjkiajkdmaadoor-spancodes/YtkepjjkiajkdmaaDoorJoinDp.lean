/- Numbers as bytes over plain lists; the walks of code.lay, groups, readGroups, PutNum, TakeNum, and of bytes.Clone. -/
/- The walks of the document's Same over bytes, PutNum, TakeNum. -/
/- The bytes of a span, over plain lists; what Encode answers; no walk. -/
/- The walk of the program's Encode. -/
/- The walks of slices.Chunk over bytes and of its iterator. -/
/- Which span bytes are, over plain lists; no walk. -/
/- The walk of the program's Decode. -/
/- Spans encoded and decoded, over plain lists; no walk. -/
import Derived.Test.YtkepjjkiajkdmaaDoorK
import Derived.Test.YtkepjjkiajkdmaaDoorPa
import Derived.Deep.OwnRows
import Derived.Lib.LazyBuf
import Derived.Test.YtkepjjkiajkdmaaDoorUx
import Derived.Test.YtkepjjkiajkdmaaDoorVb
import Derived.Test.YtkepjjkiajkdmaaDoorVz
import Derived.Test.YtkepjjkiajkdmaaDoorKt
import Derived.Test.YtkepjjkiajkdmaaDoorVc
namespace Go.Proofs.YtkepjjkiajkdmaaDoor
open Go.RowKit

/-- The bytes of a number, at most k + 1 of them. -/
def numF : Nat → Nat → List UInt8
  | 0, n => [UInt8.ofNat n]
  | k + 1, n => if n < 128 then [UInt8.ofNat n] else UInt8.ofNat (128 + n % 128) :: numF k (n / 128)
/-- The bytes of a number: groups of 7 bits, the lowest first. -/
def num (n : Nat) : List UInt8 := numF n n
theorem numF_same (k : Nat) : ∀ (j n : Nat), n ≤ k → n ≤ j → numF k n = numF j n := by
  induction k with
  | zero =>
    intro j n h _
    obtain rfl : n = 0 := by omega
    cases j with
    | zero => rfl
    | succ j => simp [numF]
  | succ k ih =>
    intro j n h1 h2
    cases j with
    | zero =>
      obtain rfl : n = 0 := by omega
      simp [numF]
    | succ j =>
      simp only [numF]
      by_cases h : n < 128
      · rw [if_pos h, if_pos h]
      · rw [if_neg h, if_neg h, ih j (n / 128) (by omega) (by omega)]
theorem num_eq (n : Nat) : num n = if n < 128 then [UInt8.ofNat n] else UInt8.ofNat (128 + n % 128) :: num (n / 128) := by
  unfold num
  cases n with
  | zero => simp [numF]
  | succ n =>
    rw [numF]
    by_cases h : n + 1 < 128
    · rw [if_pos h, if_pos h]
    · rw [if_neg h, if_neg h, numF_same n ((n + 1) / 128) ((n + 1) / 128) (by omega) (Nat.le_refl _)]
theorem num_rec {motive : Nat → Prop} (small : ∀ n, n < 128 → motive n) (great : ∀ n, ¬ n < 128 → motive (n / 128) → motive n) (n : Nat) : motive n := by
  have h : ∀ k n, n ≤ k → motive n := by
    intro k
    induction k with
    | zero => intro n hn; exact small n (by omega)
    | succ k ih =>
      intro n hn
      by_cases h : n < 128
      · exact small n h
      · exact great n h (ih (n / 128) (by omega))
  exact h n n (Nat.le_refl _)

/-- What groups say. -/
def val : List UInt8 → Nat
  | [] => 0
  | b :: t => b.toNat % 128 + 128 * val t

theorem num_small {n : Nat} (h : n < 128) : num n = [UInt8.ofNat n] := by rw [num_eq, if_pos h]
theorem num_great {n : Nat} (h : 128 ≤ n) : num n = UInt8.ofNat (128 + n % 128) :: num (n / 128) := by rw [num_eq, if_neg (by omega)]
theorem num_pos (n : Nat) : 0 < (num n).length := by
  rw [num_eq]; split <;> simp
theorem num_ne (n : Nat) : num n ≠ [] := fun h => by have := num_pos n; rw [h] at this; exact absurd this (by decide)
theorem len_small {n : Nat} (h : n < 128) : (num n).length = 1 := by rw [num_small h]; rfl
theorem len_great {n : Nat} (h : 128 ≤ n) : (num n).length = (num (n / 128)).length + 1 := by rw [num_great h]; rfl

theorem ofNat_group (n : Nat) : (UInt8.ofNat (128 + n % 128)).toNat = 128 + n % 128 := by rw [UInt8.toNat_ofNat']; omega
theorem ofNat_last {n : Nat} (h : n < 128) : (UInt8.ofNat n).toNat = n := by rw [UInt8.toNat_ofNat']; omega

theorem val_num (n : Nat) : val (num n) = n := by
  induction n using num_rec with
  | small n h => rw [num_small h]; simp only [val]; rw [ofNat_last h]; omega
  | great n h ih => rw [num_great (by omega)]; simp only [val]; rw [ih, ofNat_group]; omega

/-- Groups that go on, and one that doesn't: the shape of a number's bytes. -/
theorem num_shape (n : Nat) : ∃ p b, num n = p ++ [b] ∧ (∀ c ∈ p, 128 ≤ c.toNat) ∧ b.toNat < 128 ∧ (p = [] ∨ b.toNat ≠ 0) := by
  induction n using num_rec with
  | small n h => exact ⟨[], _, num_small h, by simp, by rw [ofNat_last h]; exact h, Or.inl rfl⟩
  | great n h ih =>
    obtain ⟨p, b, e, hp, hb, hz⟩ := ih
    refine ⟨UInt8.ofNat (128 + n % 128) :: p, b, by rw [num_great (by omega), e]; rfl, ?_, hb, Or.inr ?_⟩
    · intro c hc
      rcases List.mem_cons.1 hc with rfl | hc
      · rw [ofNat_group]; omega
      · exact hp c hc
    · rcases hz with rfl | hz
      · have hv := val_num (n / 128)
        rw [e] at hv
        simp [val] at hv
        omega
      · exact hz

theorem val_append (p q : List UInt8) : val (p ++ q) = val p + 128 ^ p.length * val q := by
  induction p with
  | nil => simp [val]
  | cons c p ih =>
    simp only [List.cons_append, val, ih, List.length_cons, Nat.pow_succ]
    rw [Nat.mul_add, Nat.add_assoc, Nat.mul_comm (128 ^ p.length) 128, Nat.mul_assoc]
theorem val_lt (p : List UInt8) : val p < 128 ^ p.length := by
  induction p with
  | nil => simp [val]
  | cons c p ih =>
    simp only [val, List.length_cons, Nat.pow_succ]
    omega

/-- Whatever has the shape is the bytes of what it says. -/
theorem num_of_shape : ∀ (p : List UInt8) (b : UInt8), (∀ c ∈ p, 128 ≤ c.toNat) → b.toNat < 128 → (p = [] ∨ b.toNat ≠ 0) → num (val (p ++ [b])) = p ++ [b]
  | [], b, _, hb, _ => by
    have e : val ([] ++ [b]) = b.toNat := by simp [val]; omega
    rw [e, num_small hb]; simp
  | c :: p, b, hp, hb, hz => by
    have hb0 : b.toNat ≠ 0 := by rcases hz with h | h; cases h; exact h
    have ih := num_of_shape p b (fun x hx => hp x (List.mem_cons_of_mem _ hx)) hb (Or.inr hb0)
    have hpos : 0 < val (p ++ [b]) := by
      rw [val_append]
      have h1 : 0 < 128 ^ p.length := Nat.pow_pos (by decide)
      have h2 : 0 < val [b] := by simp [val]; omega
      have := Nat.mul_pos h1 h2
      omega
    have hc := hp c List.mem_cons_self
    have e : val ((c :: p) ++ [b]) = c.toNat % 128 + 128 * val (p ++ [b]) := rfl
    rw [e, num_great (by omega)]
    have e1 : (c.toNat % 128 + 128 * val (p ++ [b])) / 128 = val (p ++ [b]) := by omega
    have e2 : 128 + (c.toNat % 128 + 128 * val (p ++ [b])) % 128 = c.toNat := by have := c.toNat_lt; omega
    rw [e1, e2, ih]
    simp

/-- Two rows of going-on groups, each with its last: the same beginning. -/
theorem shape_inj : ∀ {p q : List UInt8} {b c : UInt8} {r s : List UInt8}, (∀ x ∈ p, 128 ≤ x.toNat) → (∀ x ∈ q, 128 ≤ x.toNat) → b.toNat < 128 → c.toNat < 128 → p ++ b :: r = q ++ c :: s → p = q ∧ b = c ∧ r = s
  | [], [], b, c, r, s, _, _, _, _, h => by simp at h; exact ⟨rfl, h.1, h.2⟩
  | [], y :: q, b, c, r, s, _, hq, hb, _, h => by
    simp at h
    have := hq y List.mem_cons_self
    rw [h.1] at hb; omega
  | x :: p, [], b, c, r, s, hp, _, _, hc, h => by
    simp at h
    have := hp x List.mem_cons_self
    rw [← h.1] at hc; omega
  | x :: p, y :: q, b, c, r, s, hp, hq, hb, hc, h => by
    simp at h
    obtain ⟨rfl, h⟩ := h
    obtain ⟨rfl, rfl, rfl⟩ := shape_inj (fun z hz => hp z (List.mem_cons_of_mem _ hz)) (fun z hz => hq z (List.mem_cons_of_mem _ hz)) hb hc h
    exact ⟨rfl, rfl, rfl⟩
theorem num_inj {n m : Nat} {r s : List UInt8} (h : num n ++ r = num m ++ s) : n = m ∧ r = s := by
  obtain ⟨p, b, e, hp, hb, _⟩ := num_shape n
  obtain ⟨q, c, f, hq, hc, _⟩ := num_shape m
  have h' : p ++ b :: r = q ++ c :: s := by
    have := h; rw [e, f] at this; simpa using this
  obtain ⟨rfl, rfl, rfl⟩ := shape_inj hp hq hb hc h'
  refine ⟨?_, rfl⟩
  rw [← val_num n, ← val_num m, e, f]

theorem len_le (k : Nat) : ∀ n, n < 128 ^ (k + 1) → (num n).length ≤ k + 1 := by
  induction k with
  | zero => intro n h; rw [len_small (by simpa using h)]; exact Nat.le_refl _
  | succ k ih =>
    intro n h
    rcases Nat.lt_or_ge n 128 with h1 | h1
    · rw [len_small h1]; omega
    · rw [len_great h1]
      have := ih (n / 128) (by rw [Nat.pow_succ] at h; omega)
      omega
theorem le_len (k : Nat) : ∀ n, k + 1 < (num n).length → 128 ^ (k + 1) ≤ n := fun n h => by
  rcases Nat.lt_or_ge n (128 ^ (k + 1)) with h1 | h1
  · have := len_le k n h1; omega
  · exact h1

/-- Groups up to the first that ends, and what stands behind it. -/
def groupsOf : List UInt8 → Option (List UInt8 × List UInt8)
  | [] => none
  | b :: t => if b.toNat < 128 then some ([b], t) else (groupsOf t).map fun x => (b :: x.1, x.2)
theorem groupsOf_some : ∀ {l p r : List UInt8}, groupsOf l = some (p, r) → l = p ++ r
  | [], _, _, h => by simp [groupsOf] at h
  | b :: t, p, r, h => by
    simp only [groupsOf] at h
    split at h
    · rw [Option.some.injEq, Prod.mk.injEq] at h
      obtain ⟨rfl, rfl⟩ := h
      rfl
    · cases hg : groupsOf t with
      | none => rw [hg] at h; cases h
      | some x =>
        rw [hg] at h
        simp only [Option.map_some, Option.some.injEq, Prod.mk.injEq] at h
        obtain ⟨rfl, rfl⟩ := h
        rw [groupsOf_some (p := x.1) (r := x.2) hg]
        rfl
theorem groupsOf_put : ∀ (p : List UInt8) (b : UInt8) (r : List UInt8), (∀ c ∈ p, 128 ≤ c.toNat) → b.toNat < 128 → groupsOf (p ++ b :: r) = some (p ++ [b], r)
  | [], b, r, _, hb => by simp [groupsOf, hb]
  | c :: p, b, r, hp, hb => by
    have hc := hp c (by simp)
    have ih := groupsOf_put p b r (fun x hx => hp x (by simp [hx])) hb
    simp only [List.cons_append, groupsOf]
    rw [if_neg (by omega), ih]
    rfl
/-- What number bytes begin with: none, or it and what stands behind it. -/
def takeNum (l : List UInt8) : Option (Nat × List UInt8) :=
  match groupsOf l with
  | none => none
  | some (p, r) => if val p < 4611686018427387904 ∧ num (val p) = p then some (val p, r) else none
theorem takeNum_put {n : Nat} {r : List UInt8} (h : n < 4611686018427387904) : takeNum (num n ++ r) = some (n, r) := by
  obtain ⟨p, b, e, hp, hb, _⟩ := num_shape n
  have hv := val_num n
  unfold takeNum
  rw [e, List.append_assoc, List.singleton_append, groupsOf_put p b r hp hb]
  rw [e] at hv
  simp only [hv]
  rw [if_pos ⟨h, e⟩]
theorem takeNum_some {l : List UInt8} {n : Nat} {r : List UInt8} (h : takeNum l = some (n, r)) : n < 4611686018427387904 ∧ l = num n ++ r := by
  unfold takeNum at h
  cases hg : groupsOf l with
  | none => rw [hg] at h; cases h
  | some x =>
    obtain ⟨p, s⟩ := x
    rw [hg] at h
    simp only [] at h
    split at h
    · rename_i hx
      rw [Option.some.injEq, Prod.mk.injEq] at h
      obtain ⟨rfl, rfl⟩ := h
      exact ⟨hx.1, by rw [hx.2]; exact groupsOf_some hg⟩
    · cases h
theorem takeNum_none {l : List UInt8} (h : ∀ n r, n < 4611686018427387904 → l ≠ num n ++ r) : takeNum l = none := by
  cases hx : takeNum l with
  | none => rfl
  | some x =>
    obtain ⟨n, r⟩ := x
    obtain ⟨h1, h2⟩ := takeNum_some hx
    exact absurd h2 (h n r h1)

/-- A group that goes on stands ahead of every end: bytes that all go on are no number. -/
theorem long_of_prefix {p t : List UInt8} {n : Nat} {r : List UInt8} (hp : ∀ x ∈ p, 128 ≤ x.toNat) (h : p ++ t = num n ++ r) : p.length < (num n).length := by
  obtain ⟨q, b, e, hq, hb, _⟩ := num_shape n
  rw [e] at h ⊢
  rcases Nat.lt_or_ge q.length p.length with h1 | h1
  · exfalso
    have hg : (p ++ t)[q.length]? = some b := by rw [h]; simp
    rw [List.getElem?_append_left h1] at hg
    have := hp b (List.mem_of_getElem? hg)
    omega
  · simp; omega
theorem take_short {p : List UInt8} (hp : ∀ x ∈ p, 128 ≤ x.toNat) : takeNum p = none := by
  refine takeNum_none fun n r _ h => ?_
  have h1 := long_of_prefix (t := []) hp (by simpa using h)
  have : p.length = (num n).length + r.length := by rw [h]; simp
  omega
theorem take_long {p t : List UInt8} (hp : ∀ x ∈ p, 128 ≤ x.toNat) (h9 : 9 ≤ p.length) : takeNum (p ++ t) = none := by
  refine takeNum_none fun n r hn h => ?_
  have h1 := long_of_prefix hp h
  have := le_len 8 n (by omega)
  have e : 128 ^ (8 + 1) = 9223372036854775808 := rfl
  omega
theorem take_zero {p t : List UInt8} {b : UInt8} (hp : ∀ x ∈ p, 128 ≤ x.toNat) (h0 : 0 < p.length) (hb : b.toNat = 0) : takeNum (p ++ b :: t) = none := by
  refine takeNum_none fun n r _ h => ?_
  obtain ⟨q, c, e, hq, hc, hz⟩ := num_shape n
  rw [e] at h
  have hb' : b.toNat < 128 := by omega
  have h' : p ++ b :: t = q ++ c :: r := by simpa using h
  obtain ⟨e1, e2, _⟩ := shape_inj hp hq hb' hc h'
  rcases hz with hz | hz
  · rw [e1, hz] at h0; exact absurd h0 (by simp)
  · rw [← e2] at hz; exact hz hb
theorem take_great {p t : List UInt8} {b : UInt8} (hp : ∀ x ∈ p, 128 ≤ x.toNat) (h8 : p.length = 8) (hb : 63 < b.toNat % 128) : takeNum (p ++ b :: t) = none := by
  rcases Nat.lt_or_ge b.toNat 128 with h | h
  · refine takeNum_none fun n r hn hl => ?_
    obtain ⟨q, c, e, hq, hc, hz⟩ := num_shape n
    have hv := val_num n
    rw [e] at hl hv
    obtain ⟨rfl, rfl, _⟩ := shape_inj hp hq h hc (by simpa using hl)
    rw [val_append, h8] at hv
    have e2 : (128 : Nat) ^ 8 = 72057594037927936 := rfl
    simp only [val, e2] at hv
    omega
  · have e : p ++ b :: t = (p ++ [b]) ++ t := by simp
    rw [e]
    refine take_long (fun x hx => ?_) (by simp; omega)
    rcases List.mem_append.1 hx with hx | hx
    · exact hp x hx
    · have : x = b := by simpa using hx
      rw [this]; exact h
theorem take_done {p t : List UInt8} {b : UInt8} (hp : ∀ x ∈ p, 128 ≤ x.toNat) (hb : b.toNat < 128) (hz : p = [] ∨ b.toNat ≠ 0) (h8 : p.length ≤ 8) (hg : p.length = 8 → b.toNat ≤ 63) :
    takeNum (p ++ b :: t) = some (val p + 128 ^ p.length * b.toNat, t) := by
  have e := num_of_shape p b hp hb hz
  have ev : val (p ++ [b]) = val p + 128 ^ p.length * b.toNat := by rw [val_append]; simp [val]; rw [Nat.mod_eq_of_lt hb]
  rw [ev] at e
  have e2 : p ++ b :: t = num (val p + 128 ^ p.length * b.toNat) ++ t := by rw [e]; simp
  rw [e2]
  apply takeNum_put
  have hlt := val_lt p
  have hb1 : b.toNat ≤ 127 := by omega
  rcases Nat.lt_or_ge p.length 8 with h | h
  · have hpow : 128 ^ p.length ≤ 128 ^ 7 := Nat.pow_le_pow_right (by decide) (by omega)
    have : 128 ^ p.length * b.toNat ≤ 128 ^ 7 * 127 := Nat.mul_le_mul hpow hb1
    have e3 : (128 : Nat) ^ 7 = 562949953421312 := rfl
    omega
  · have h8' : p.length = 8 := by omega
    have := hg h8'
    rw [h8'] at hlt ⊢
    have e3 : (128 : Nat) ^ 8 = 72057594037927936 := rfl
    omega
/-- As few groups as there can be: said by the length. -/
theorem len_done {p : List UInt8} {b : UInt8} (hp : ∀ x ∈ p, 128 ≤ x.toNat) (hb : b.toNat < 128) : (num (val (p ++ [b]))).length = p.length + 1 ↔ p = [] ∨ b.toNat ≠ 0 := by
  constructor
  · intro h
    rcases List.eq_nil_or_concat p with h0 | ⟨q, c, hq⟩
    · exact Or.inl h0
    · right
      intro hb0
      have e : val (p ++ [b]) = val p := by rw [val_append]; simp [val, hb0]
      rw [e] at h
      have hl : p.length = q.length + 1 := by rw [hq]; simp
      have := val_lt p
      rw [hl] at this h
      have := len_le q.length _ this
      omega
  · intro hz
    rw [num_of_shape p b hp hb hz]; simp

theorem New.len {w w' : World} {v : Value} {n : Nat} {l : List UInt8} (h : New w w' v n l) : l.length = n := by have := h.1.1; rw [bv_length] at this; omega
theorem New.after {w w1 w2 : World} {v : Value} {n : Nat} {l : List UInt8} (hb : Below w.heap.size w w1) (h : New w1 w2 v n l) : New w w2 v n l := by
  refine ⟨⟨h.1.1, ?_⟩, hb.trans (h.2.mono hb.size)⟩
  rcases h.1.2 with h0 | ⟨g, cap, cur, e, hg, r⟩
  · exact .inl h0
  · exact .inr ⟨g, cap, cur, e, Nat.le_trans hb.size hg, r⟩
theorem src_nil (w : World) : Src w none 0 0 [] := Src.empty (fun _ => rfl)
theorem Src.builtI (w : World) (x : Int) (b : UInt8) (h : x = (b.toNat : Int)) : Src (w.alloc (.cells #[.int .u8 x] 5)) (some ⟨w.heap.size, 0, none⟩) 1 1 [b] := by subst h; exact Src.built w b

theorem conv_src {w : World} {ao : Option Addr} {m c : Nat} {l : List UInt8} (h : Src w ao m c l) : (convert 41 9 (.slice ao m c)).run Tryd.prog w = .ok (.string ⟨l.toArray⟩) w := by
  rcases Nat.eq_zero_or_pos m with h0 | h0
  · subst h0
    have hl : l = [] := List.length_eq_zero_iff.1 h.len
    subst hl
    rw [run_convert_bytes_string w 41 9 5 _ 0 c Tryd.underlying41 Tryd.underlying5 Tryd.underlying9]
    cases ao <;> simp [Conv.bytesToString, loadCells]
    all_goals rfl
  · obtain ⟨b, off, e, _, hby⟩ := h.form h0
    cases e
    have hl := h.len
    have := run_convert_bytes_arg (P := Tryd.prog) w 41 5 Tryd.underlying41 Tryd.underlying5 b off m c (l.map fun b => (b.toNat : Int)) (by simpa using h.len) (fun i hi => by
      rw [hby i hi]
      have : i < l.length := by omega
      simp [fn, List.getD, this]) 9 Tryd.underlying9
    rwa [strOfNums_bytes] at this
theorem list_beq (l l2 : List UInt8) : (l == l2) = decide (l = l2) := by
  by_cases h : l = l2
  · subst h; simp
  · rw [decide_eq_false h, beq_eq_false_iff_ne]; exact h

set_option maxHeartbeats 1000000 in
set_option maxRecDepth 100000 in
theorem layB_any (ao : Option Addr) (m c : Nat) (l : List UInt8) (ao2 : Option Addr) (m2 c2 : Nat) (l2 : List UInt8) (w : World) (hm : m + m2 ≤ 140737488355328) (hs : Src w ao m c l) (hs2 : Src w ao2 m2 c2 l2) :
    Calls Tryd.prog 55 #[.slice ao m c, .slice ao2 m2 c2] w fun e w' => ∃ v, e = .returned v ∧ New w w' v (m + m2) (l ++ l2) := by
  obtain ⟨i0, hi, hz0, hz1, hz2⟩ := info_parts info5
  have HS := keep hs
  have HS2 := keep hs2
  clear hs hs2
  go_enter Tryd.func55, Tryd.ntmps55
  go_wp2_with (first
    | (at_make; go_loud (refine wpList_make_own _ rfl _ _ 41 rfl w.heap.size 5 i0 (.int .u8 0) 1 Tryd.underlying41 hi hz0 hz1 .i64 .i64 _ (m + m2) rfl rfl (by omega) (by rw [hz2]; omega) (by unfold maxLen; omega) (Nat.le_refl _) ?_); intro w1 hown hgrow; have hb1 := keep ((Below.refl w.heap.size w).grown hgrow (Nat.le_refl _) (fun k h => by cases h)); have ho1 := keep hown; clear hown hgrow)
    | (at_builtin; (refine wpList_append_src rfl _ _ 41 rfl w.heap.size i0 _ Tryd.underlying41 hi hz0 hz1 hz2 rfl _ m l rfl ho2.out _ m2 c2 l2 rfl (HS2.out.below hb2.out) (by omega) hb2.out.size ?_); intro v3 w3 ho3 hg3; have hb3 := keep (hb2.out.grown hg3 hb2.out.size (fun j hj => (ho2.out.lt j hj).1)); have ho3' := keep ho3; clear ho3 hg3 ho2)
    | (at_builtin; (refine wpList_append_src rfl _ _ 41 rfl w.heap.size i0 _ Tryd.underlying41 hi hz0 hz1 hz2 rfl _ 0 [] rfl ho1.out _ m c l rfl (HS.out.below hb1.out) (by omega) hb1.out.size ?_); intro v2 w2 ho2' hg2; have hb2 := keep (hb1.out.grown hg2 hb1.out.size (fun j hj => (ho1.out.lt j hj).1)); have ho2 := keep ho2'; simp only [Nat.zero_add, List.nil_append] at ho2; clear ho2' hg2 ho1 hb1))
  go_ret
  exact ⟨_, rfl, ho3'.out, hb3.out⟩

/-- What a number counts as: from 0 to 2^62 - 1. -/
def cl (n : Int) : Nat := (min (max n 0) 4611686018427387903).toNat
theorem cl_le (n : Int) : cl n ≤ 4611686018427387903 := by unfold cl; omega
theorem num_cons {n : Nat} (h : 128 ≤ n) (p : List UInt8) : p ++ num n = (p ++ [UInt8.ofNat (128 + n % 128)]) ++ num (n / 128) := by rw [num_great h]; simp
theorem or128b : ∀ k : Nat, k < 256 → (k ||| 128) = 128 + k % 128 := by decide +kernel
theorem or128 (n : Nat) : bits .or .u8 ((n : Int) % 256) 128 = ((UInt8.ofNat (128 + n % 128)).toNat : Int) := by
  rw [ofNat_group]
  have h := u8_or_nat (n % 256) 128 (by omega) (by omega)
  rw [or128b _ (by omega)] at h
  have e : ((n % 256 : Nat) : Int) = (n : Int) % 256 := by omega
  rw [e] at h
  rw [show (128 : Int) = ((128 : Nat) : Int) from rfl, h]
  omega
theorem num9 (n : Int) : (num (cl n)).length ≤ 9 := len_le 8 _ (by have := cl_le n; have e : (128 : Nat) ^ (8 + 1) = 9223372036854775808 := rfl; omega)

set_option maxHeartbeats 1000000 in
set_option maxRecDepth 100000 in
theorem groups_any (n : Int) (w : World) :
    Calls Tryd.prog 56 #[.int .i64 n] w fun e w' => ∃ v, e = .returned v ∧ New w w' v (num (cl n)).length (num (cl n)) := by
  obtain ⟨i0, hi, hz0, hz1, hz2⟩ := info_parts info5
  have h9 := num9 n
  go_enter Tryd.func56, Tryd.ntmps56
  go_wp2
  all_goals
    go_loopw [0, 3] (fun i v wr => ∃ (p : List UInt8) (k N : Nat), N ≤ 4611686018427387903 ∧ i = .int .i64 (N : Int) ∧ p.length = k ∧ Hid (num (cl n) = p ++ num N) ∧ Hid (wr.ownsRow w.heap.size 5 1 v k (bv p)) ∧ Hid (Below w.heap.size w wr)) (fun i _ _ => (intOf i).toNat)
    case atStart =>
      exact ⟨[], 0, cl n, cl_le n, by unfold cl; congr 1; omega, rfl, rfl, World.ownsRow_nil _ _ _ _, Below.refl _ _⟩
    case round =>
      obtain ⟨p, k, N, hN, rfl, hpk, hp, ho, hb⟩ := hrel
      have hk9 : k < 9 := by
        have h1 := congrArg List.length hp.out
        have h2 := num_pos N
        rw [List.length_append, hpk] at h1
        omega
      by_cases hlt : 128 ≤ N
      · have hb1 := or128 N
        have hp' : Hid (num (cl n) = (p ++ [UInt8.ofNat (128 + N % 128)]) ++ num (N / 128)) := by rw [← num_cons hlt]; exact hp.out
        obtain ⟨y, hy⟩ : ∃ y : UInt8, UInt8.ofNat (128 + N % 128) = y := ⟨_, rfl⟩
        rw [hy] at hb1 hp'
        clear hy
        go_wp2_with (at_builtin; refine wpList_append_src rfl _ _ 41 rfl w.heap.size i0 _ Tryd.underlying41 hi hz0 hz1 hz2 rfl _ k p rfl (by exact ho.out.alloc _) _ 1 1 [y] rfl (Src.built _ _) (by omega) (le_alloc hb.out.size _) ?_; intro v2 w2 ho2 hg2; have hb3 := keep ((hb.out.alloc hb.out.size _).grown hg2 (le_alloc hb.out.size _) (fun j hj => (ho.out.lt j hj).1)); have ho3 := keep ho2; clear ho2 hg2)
        go_roundw
        case rel => exact ⟨_, k + 1, N / 128, by omega, by first | rfl | (congr 1; omega), by simp [hpk], hp', ho3, hb3⟩
        case measure => simp [intOf]; omega
      · have hl : (num (cl n)).length = k + 1 := by rw [hp.out, List.length_append, hpk, len_small (by omega)]
        have hq : Hid (num (cl n) = p ++ [UInt8.ofNat N]) := hp.out.trans (by rw [num_small (by omega)])
        have hx : Hid ((N : Int) = ((UInt8.ofNat N).toNat : Int)) := by rw [ofNat_last (by omega)]; exact rfl
        obtain ⟨y, hy⟩ : ∃ y : UInt8, UInt8.ofNat N = y := ⟨_, rfl⟩
        rw [hy] at hx hq
        clear hy
        go_wp2_with (at_builtin; refine wpList_append_src rfl _ _ 41 rfl w.heap.size i0 _ Tryd.underlying41 hi hz0 hz1 hz2 rfl _ k p rfl (by exact ho.out.alloc _) _ 1 1 [y] rfl (Src.builtI _ _ _ hx.out) (by omega) (le_alloc hb.out.size _) ?_; intro v2 w2 ho2 hg2; have hb3 := keep ((hb.out.alloc hb.out.size _).grown hg2 (le_alloc hb.out.size _) (fun j hj => (ho.out.lt j hj).1)); have ho3 := keep ho2; clear ho2 hg2)
        go_ret
        rw [hl, hq.out]
        exact ⟨_, rfl, ho3.out, hb3.out⟩

theorem low7 (b : UInt8) : bits .andNot .u8 (b.toNat : Int) 128 = ((b.toNat % 128 : Nat) : Int) := by
  have h := u8_andNot_nat b.toNat 128 b.toNat_lt (by omega)
  rw [nat_mask7] at h
  exact h

theorem split_at (l : List UInt8) (k : Nat) (h : k < l.length) : l = l.take k ++ fn l k :: l.drop (k + 1) := by
  have e : fn l k = l[k] := by simp [fn, List.getD, h]
  rw [e, ← List.drop_eq_getElem_cons h, List.take_append_drop]
theorem rg_more {l : List UInt8} {k : Nat} (hall : ∀ x ∈ l.take k, 128 ≤ x.toNat) (h : k < l.length) (hy : 128 ≤ (fn l k).toNat) : ∀ x ∈ l.take (k + 1), 128 ≤ x.toNat := by
  intro x hx
  have e : fn l k = l[k] := by simp [fn, List.getD, h]
  rw [List.take_succ_eq_append_getElem h] at hx
  rcases List.mem_append.1 hx with hx | hx
  · exact hall x hx
  · have : x = l[k] := by simpa using hx
    rw [this, ← e]; exact hy
theorem rg_val {l : List UInt8} {k : Nat} (h : k < l.length) : val (l.take (k + 1)) = val (l.take k) + 128 ^ k * ((fn l k).toNat % 128) := by
  have e : fn l k = l[k] := by simp [fn, List.getD, h]
  rw [List.take_succ_eq_append_getElem h, val_append, List.length_take, Nat.min_eq_left (by omega), e]
  simp [val]
theorem rg_zero {l : List UInt8} {k : Nat} (hall : ∀ x ∈ l.take k, 128 ≤ x.toNat) (h : k < l.length) (h0 : 0 < k) (hy : (fn l k).toNat = 0) : takeNum l = none := by
  rw [split_at l k h]
  exact take_zero hall (by simp; omega) hy
theorem rg_great {l : List UInt8} (hall : ∀ x ∈ l.take 8, 128 ≤ x.toNat) (h : 8 < l.length) (hy : 63 < (fn l 8).toNat) : takeNum l = none := by
  rcases Nat.lt_or_ge (fn l 8).toNat 128 with h1 | h1
  · rw [split_at l 8 h]
    exact take_great hall (by simp; omega) (by omega)
  · have := take_long (t := l.drop 9) (rg_more hall h h1) (by simp; omega)
    rwa [List.take_append_drop] at this
theorem rg_done {l : List UInt8} {k : Nat} (hall : ∀ x ∈ l.take k, 128 ≤ x.toNat) (h : k < l.length) (h8 : k ≤ 8) (hy : (fn l k).toNat < 128) (hz : k = 0 ∨ (fn l k).toNat ≠ 0) (hg : k = 8 → (fn l k).toNat ≤ 63) :
    takeNum l = some (val (l.take k) + 128 ^ k * (fn l k).toNat, l.drop (k + 1)) := by
  have hl : (l.take k).length = k := by simp; omega
  have := take_done (t := l.drop (k + 1)) hall hy (by
    rcases hz with hz | hz
    · left; rw [hz]; rfl
    · exact .inr hz) (by omega) (fun e => hg (by omega))
  rw [← split_at l k h, hl] at this
  exact this
theorem or_part (V d k : Nat) (hV : V < 128 ^ k) (hd : d < 128) (hk : k ≤ 8) (hg : k = 8 → d ≤ 63) : bits .or .i64 (V : Int) (wrap64 ((d : Int) * 2 ^ (7 * k))) = ((V + 128 ^ k * d : Nat) : Int) := by
  have e128 : (128 : Nat) ^ k = 2 ^ (7 * k) := by rw [Nat.pow_mul]
  have hlt : V + 128 ^ k * d < 4611686018427387904 := by
    rcases Nat.lt_or_ge k 8 with h | h
    · have hpow : 128 ^ k ≤ 128 ^ 7 := Nat.pow_le_pow_right (by decide) (by omega)
      have : 128 ^ k * d ≤ 128 ^ 7 * 127 := Nat.mul_le_mul hpow (by omega)
      have e3 : (128 : Nat) ^ 7 = 562949953421312 := rfl
      omega
    · obtain rfl : k = 8 := by omega
      have := hg rfl
      have e3 : (128 : Nat) ^ 8 = 72057594037927936 := rfl
      omega
  have e1 : (d : Int) * 2 ^ (7 * k) = ((128 ^ k * d : Nat) : Int) := by rw [e128, Int.natCast_mul, Int.natCast_pow, Int.mul_comm]; rfl
  rw [e1]
  generalize hM : 128 ^ k * d = M at hlt
  have e2 : wrap64 (M : Int) = (M : Int) := by unfold wrap64; omega
  rw [e2]
  show IntKind.i64.wrap ((BitVec.ofInt 64 (V : Int) ||| BitVec.ofInt 64 (M : Int)).toNat : Int) = _
  rw [BitVec.toNat_or, ofInt_u64 V (by omega), ofInt_u64 M (by omega)]
  have e4 : V ||| M = V + M := by
    rw [Nat.or_comm, ← hM, e128, Nat.add_comm]
    exact (Nat.two_pow_add_eq_or_of_lt (i := 7 * k) (by omega) d).symm
  rw [e4, IntKind.wrap_i64]
  omega

theorem ret3 {a b : Int} {c d : Nat} {x : Int} (h1 : a = (c : Int)) (h2 : b = (d : Int)) : Ending.returned (.tuple #[.int .i64 a, .int .i64 b, .int .i64 x]) = .returned (.tuple #[.int .i64 (c : Int), .int .i64 (d : Int), .int .i64 x]) := by subst h1; subst h2; rfl
set_option maxHeartbeats 1000000 in
set_option maxRecDepth 100000 in
theorem readGroups_any (ao : Option Addr) (m c : Nat) (l : List UInt8) (w : World) (hm : m ≤ 140737488355328) (hs : Src w ao m c l) :
    Calls Tryd.prog 57 #[.slice ao m c] w fun e w' => (∃ n r, takeNum l = some (n, r) ∧ e = .returned (.tuple #[.int .i64 (n : Int), .int .i64 ((m - r.length : Nat) : Int), .int .i64 0]) ∧ Below w.heap.size w w') ∨ (takeNum l = none ∧ e = .returned (.tuple #[.int .i64 0, .int .i64 0, .int .i64 2]) ∧ Below w.heap.size w w') := by
  have hll := hs.len
  have HS := keep hs
  clear hs
  go_enter Tryd.func57, Tryd.ntmps57
  go_wp2
  go_step3
  go_wp2
  go_step3
  go_wp2
  go_loopw [5, 11] (fun x i wr => ∃ k : Nat, k ≤ m ∧ k ≤ 8 ∧ i = .int .i64 (k : Int) ∧ x = .int .i64 ((val (l.take k) : Nat) : Int) ∧ Hid (∀ x ∈ l.take k, 128 ≤ x.toNat) ∧ Hid (Below w.heap.size w wr)) (fun _ i _ => m - (intOf i).toNat)
  case atStart => exact ⟨0, Nat.zero_le _, by omega, rfl, rfl, by simp [Hid], Below.refl _ _⟩
  case round =>
    obtain ⟨k, hk, hk8, rfl, rfl, hall, hb⟩ := hrel
    by_cases hlt : k < m
    · obtain ⟨b, off, rfl, hbw, hby⟩ := HS.out.form (by omega)
      have hcell : wr.cell? ⟨b, off + k, none⟩ = some (.int .u8 ((fn l k).toNat : Int)) := by
        rw [hb.out.cell (p := ⟨b, off + k, none⟩) hbw]; exact hby k hlt
      have h0 : (0 : Int) ≤ (k : Int) := by omega
      have h1 : (k : Int) < (m : Int) := by omega
      clear hby
      obtain ⟨y, hy⟩ : ∃ y, fn l k = y := ⟨_, rfl⟩
      have hlow := low7 y
      have HY := keep hy
      rw [hy] at hcell
      clear hy
      have hyl := y.toNat_lt
      have hxp : (0 : Int) ≤ (y.toNat : Int) := by omega
      have hVl : val (l.take k) < 128 ^ k := by have := val_lt (l.take k); rwa [List.length_take, Nat.min_eq_left (by omega)] at this
      have hmore : Hid (val (l.take (k + 1)) = val (l.take k) + 128 ^ k * (y.toNat % 128)) := by have := rg_val (l := l) (k := k) (by omega); rwa [HY.out] at this
      by_cases ha : k = 8 ∧ 63 < y.toNat
      · obtain ⟨rfl, ha⟩ := ha
        have hnone : Hid (takeNum l = none) := rg_great hall.out (by omega) (by rw [HY.out]; exact ha)
        have ha' : (63 : Int) < (y.toNat : Int) := by omega
        go_wp2
        try rw [Exit.noGoto_ret]
        go_ret3
        exact .inr ⟨hnone.out, rfl, hb.out⟩
      · by_cases hbb : 128 ≤ y.toNat
        · have hne : ¬ ((k : Int) = 8) := by omega
          have hbb' : (128 : Int) ≤ (y.toNat : Int) := by omega
          have hall' : Hid (∀ x ∈ l.take (k + 1), 128 ≤ x.toNat) := rg_more hall.out (by omega) (by rw [HY.out]; exact hbb)
          have hor : Hid (bits .or .i64 ((val (l.take k) : Nat) : Int) (wrap64 (((y.toNat % 128 : Nat) : Int) * 2 ^ (7 * k))) = ((val (l.take (k + 1)) : Nat) : Int)) := by
            rw [hmore.out]; exact or_part _ _ k hVl (by omega) hk8 (by omega)
          obtain ⟨V, hV⟩ : ∃ V, val (l.take k) = V := ⟨_, rfl⟩
          rw [hV] at hor ⊢
          clear hV hmore hVl
          go_wp2
          go_roundw
          case rel => exact ⟨k + 1, by omega, by omega, by go_num, by rw [← hor.out]; rfl, hall', hb⟩
          case measure => simp [intOf]; omega
        · by_cases hc : y.toNat = 0 ∧ 0 < k
          · obtain ⟨hy0, hk0⟩ := hc
            have hnone : Hid (takeNum l = none) := rg_zero hall.out (by omega) hk0 (by rw [HY.out]; exact hy0)
            have hy0' : (y.toNat : Int) = 0 := by omega
            have hk0' : (0 : Int) < (k : Int) := by omega
            have hnb : ¬ ((128 : Int) ≤ (y.toNat : Int)) := by omega
            have hna : ¬ ((63 : Int) < (y.toNat : Int)) := by omega
            clear hmore hVl
            go_wp2
            all_goals
              try rw [Exit.noGoto_ret]
              go_ret3
              exact .inr ⟨hnone.out, rfl, hb.out⟩
          · have hdone : Hid (takeNum l = some (val (l.take k) + 128 ^ k * y.toNat, l.drop (k + 1))) := by
              have := rg_done hall.out (by omega) hk8 (by rw [HY.out]; omega) (by rw [HY.out]; omega) (by rw [HY.out]; omega)
              rwa [HY.out] at this
            have hor : Hid (bits .or .i64 ((val (l.take k) : Nat) : Int) (wrap64 ((y.toNat : Int) * 2 ^ (7 * k))) = ((val (l.take k) + 128 ^ k * y.toNat : Nat) : Int)) :=
              or_part _ _ k hVl (by omega) hk8 (by omega)
            have hnb : ¬ ((128 : Int) ≤ (y.toNat : Int)) := by omega
            have hcc : ¬ ((y.toNat : Int) = 0 ∧ (0 : Int) < (k : Int)) := by omega
            have haa : ¬ ((k : Int) = 8 ∧ (63 : Int) < (y.toNat : Int)) := by omega
            clear hmore
            have hor1 : Hid (bits .or .i64 ((val (l.take k) : Nat) : Int) (wrap64 ((y.toNat : Int) % 128 * 2 ^ (7 * k))) = ((val (l.take k) + 128 ^ k * y.toNat : Nat) : Int)) := by
              rw [Int.emod_eq_of_lt (by omega) (by omega)]; exact hor.out
            have hlen : Hid (m - (l.drop (k + 1)).length = k + 1) := by rw [List.length_drop]; show _ = _; omega
            go_wp2
            all_goals
              try rw [Exit.noGoto_ret]
              go_ret3
              refine .inl ⟨_, _, hdone.out, ret3 ?_ ?_, hb.out⟩
              · first | exact hor1.out | (have h := hor1.out; rw [show y.toNat = 0 by omega] at h ⊢; simpa using h)
              · rw [hlen.out]; omega
    · obtain rfl : k = m := by omega
      rw [List.take_of_length_le (by omega)] at hall
      go_wp2
      try rw [Exit.noGoto_ret]
      go_ret3
      exact .inr ⟨take_short hall.out, rfl, hb.out⟩

set_option maxHeartbeats 1000000 in
set_option maxRecDepth 100000 in
theorem clone_any (ao : Option Addr) (m c : Nat) (l : List UInt8) (w : World) (hm : m ≤ 140737488355328) (hs : Src w ao m c l) :
    Calls Tryd.prog 58 #[.slice ao m c] w fun e w' => ∃ v, e = .returned v ∧ New w w' v m l := by
  obtain ⟨i0, hi, hz0, hz1, hz2⟩ := info_parts info5
  have HS := keep hs
  clear hs
  cases ao with
  | none =>
    obtain ⟨rfl, rfl⟩ := HS.out.nil rfl
    have hl : l = [] := List.length_eq_zero_iff.1 HS.out.len
    subst hl
    have heq := fun w => Lib.run_eql_slice_nil (P := Tryd.prog) w 41 5 none 0 0 0 0 Tryd.underlying41
    go_enter Tryd.func58, Tryd.ntmps58
    go_wp2
    go_ret
    exact ⟨_, rfl, World.ownsRow_nil _ _ _ _, Below.refl _ _⟩
  | some ad =>
    have heq := fun w => Lib.run_eql_slice_nil (P := Tryd.prog) w 41 5 (some ad) m c 0 0 Tryd.underlying41
    go_enter Tryd.func58, Tryd.ntmps58
    go_wp2_with (at_builtin; refine wpList_append_src rfl _ _ 41 rfl w.heap.size i0 _ Tryd.underlying41 hi hz0 hz1 hz2 rfl _ 0 [] rfl (World.ownsRow_made w #[] 0 (Nat.le_refl _) (by unfold maxLen; omega) rfl) _ m c l rfl (HS.out.below ((Below.refl _ _).alloc (Nat.le_refl _) _)) (by omega) (by simp) ?_; intro v1 w1 ho1 hg1; simp only [Nat.zero_add, List.nil_append] at ho1; have ho2 := keep ho1; have hb1 := keep (((Below.refl w.heap.size w).alloc (Nat.le_refl _) _).grown hg1 (by simp) (fun j hj => by cases hj; exact Nat.le_refl _)); clear ho1 hg1)
    go_ret
    exact ⟨_, rfl, ho2.out, hb1.out⟩

theorem Src.none_of {w : World} {ao : Option Addr} {c : Nat} {l : List UInt8} (hl : l.length = 0) (h : ao = none → c = 0) : Src w ao 0 c l := by
  obtain rfl : l = [] := List.length_eq_zero_iff.1 hl
  exact Src.empty h
theorem Src.tail {w : World} {ao : Option Addr} {m c : Nat} {l : List UInt8} (h : Src w ao m c l) (k : Nat) (hk : k ≤ m) : Src w (Option.map (fun x => x.add k) ao) (m - k) (c - k) (l.drop k) := by
  have hl := h.len
  have hcap := h.cap
  rcases Nat.eq_zero_or_pos (m - k) with h0 | h0
  · rw [h0]
    refine Src.none_of (by rw [List.length_drop]; omega) (fun e => ?_)
    cases ao with
    | none => have := h.nil rfl; omega
    | some ad => cases e
  · obtain ⟨b, off, rfl, _, hby⟩ := h.form (by omega)
    have e : Option.map (fun x : Addr => x.add k) (some ⟨b, off, none⟩) = some ⟨b, off + k, none⟩ := by simp [Addr.add_mid]
    rw [e]
    refine Src.mk_bytes (by rw [List.length_drop]; omega) (by omega) (fun i hi => ?_)
    have e2 : off + k + i = off + (k + i) := by omega
    have e3 : fn (l.drop k) i = fn l (k + i) := by simp [fn, List.getD]
    rw [e2, e3]
    exact hby (k + i) (by omega)
theorem Src.tail0 {w : World} {ao : Option Addr} {m c : Nat} {l : List UInt8} (h : Src w ao m c l) (k : Nat) (hk : k = c) : Src w ao 0 0 (l.drop k) := by
  have hl := h.len
  have hcap := h.cap
  exact Src.none_of (by rw [List.length_drop]; omega) (fun _ => rfl)
theorem Src.tailS {w : World} {b off m c : Nat} {l : List UInt8} (h : Src w (some ⟨b, off, none⟩) m c l) (k : Nat) (hk : k ≤ m) : Src w (some ⟨b, off + k, none⟩) (m - k) (c - k) (l.drop k) := by
  have := h.tail k hk
  have e : Option.map (fun x : Addr => x.add k) (some ⟨b, off, none⟩) = some ⟨b, off + k, none⟩ := by simp [Addr.add_mid]
  rwa [e] at this
theorem Src.head {w : World} {ao : Option Addr} {m c : Nat} {l : List UInt8} (h : Src w ao m c l) (k : Nat) (hk : k ≤ m) : Src w ao k c (l.take k) := by
  have hl := h.len
  have hcap := h.cap
  refine ⟨by rw [List.length_take]; omega, by omega, fun e => ?_, fun ad had j u hu => h.cells ad had j u ?_⟩
  · have := h.nil e; omega
  · have e : bv (l.take k) = (bv l).take k := by simp [bv]
    rw [e, List.getElem?_take] at hu
    split at hu
    · exact hu
    · cases hu
set_option maxHeartbeats 1000000 in
set_option maxRecDepth 100000 in
theorem takeNum_any (ao : Option Addr) (m c : Nat) (l : List UInt8) (w : World) (hm : m ≤ 140737488355328) (hs : Src w ao m c l) :
    Calls Tryd.prog 41 #[.slice ao m c] w fun e w' => (∃ n r v, takeNum l = some (n, r) ∧ e = .returned (.tuple #[.int .i64 (n : Int), v, .int .i64 0]) ∧ New w w' v r.length r) ∨ (takeNum l = none ∧ e = .returned (.tuple #[.int .i64 0, .slice none 0 0, .int .i64 2]) ∧ Below w.heap.size w w') := by
  have HS := keep hs
  have hll := hs.len
  have hcap := hs.cap
  clear hs
  go_enter Tryd.func41, Tryd.ntmps41
  go_wp2_with fail
  refine (readGroups_any ao m c l _ hm HS.out).mono ?_
  rintro e w1 (⟨n, r, hn, rfl, hb1⟩ | ⟨hn, rfl, hb1⟩)
  · have HB := keep hb1
    have HN := keep hn
    obtain ⟨hn1, hn2⟩ := takeNum_some hn
    have hnp := num_pos n
    have e1 := congrArg List.length hn2
    rw [List.length_append, hll] at e1
    obtain ⟨k, hk⟩ : ∃ k, m - r.length = k := ⟨_, rfl⟩
    have hkn : k = (num n).length := by omega
    have hr : l.drop k = r := by rw [hkn, hn2, List.drop_left]
    have hrl : Hid (r.length = m - k) := by show _ = _; omega
    have hkm : k ≤ m := by omega
    obtain ⟨b, off, rfl, _, _⟩ := HS.out.form (by omega)
    rw [hk]
    have HT : Hid (Src w1 (some ⟨b, off + k, none⟩) (m - k) (c - k) r) := by
      have := (HS.out.below HB.out).tailS k hkm
      rwa [hr] at this
    have HT0 : Hid (k = c → Src w1 (some ⟨b, off, none⟩) 0 0 r) := fun h => by
      have := (HS.out.below HB.out).tail0 k h
      rwa [hr] at this
    clear hb1 hn hn2 hr hk hkn e1 hnp
    have hk0 : (0 : Int) ≤ (k : Int) := by omega
    have hkm' : (k : Int) ≤ (m : Int) := by omega
    by_cases hck : k = c
    · go_wp2_with fail
      refine (clone_any (some ⟨b, off, none⟩) 0 0 r w1 (by omega) (HT0.out hck)).mono ?_
      rintro e w2 ⟨v2, rfl, hn2⟩
      rw [show 0 = r.length by rw [hrl.out]; omega] at hn2
      have HN2 := keep (hn2.after HB.out)
      clear hn2
      go_wp2
      go_ret3
      exact .inl ⟨n, r, _, HN.out, rfl, HN2.out⟩
    · go_wp2_with fail
      refine (clone_any (some ⟨b, off + k, none⟩) (m - k) (c - k) r w1 (by omega) HT.out).mono ?_
      rintro e w2 ⟨v2, rfl, hn2⟩
      rw [← hrl.out] at hn2
      have HN2 := keep (hn2.after HB.out)
      clear hn2
      go_wp2
      go_ret3
      exact .inl ⟨n, r, _, HN.out, rfl, HN2.out⟩
  · have HB := keep hb1
    have HN := keep hn
    clear hb1 hn
    go_wp2
    go_ret3
    exact .inr ⟨HN.out, rfl, HB.out⟩

theorem toInt64 (N : Nat) (h : N < 18446744073709551616) : IntKind.i64.wrap (N : Int) = if N < 9223372036854775808 then (N : Int) else (N : Int) - 18446744073709551616 := by
  rw [IntKind.wrap_i64]
  split <;> omega

set_option maxHeartbeats 1000000 in
set_option maxRecDepth 100000 in
theorem putNum_any (ao : Option Addr) (m c : Nat) (l : List UInt8) (n : Int) (w : World) (hm : m + 9 ≤ 140737488355328) (hs : Src w ao m c l) :
    Calls Tryd.prog 39 #[.slice ao m c, .int .i64 n] w fun e w' => ∃ v, e = .returned v ∧ New w w' v (m + (num (cl n)).length) (l ++ num (cl n)) := by
  have h9 := num9 n
  have HS := keep hs
  clear hs
  go_enter Tryd.func39, Tryd.ntmps39
  go_wp2_with fail
  refine (groups_any n _).mono ?_
  rintro e w1 ⟨v1, rfl, hn1⟩
  have HN := keep hn1
  obtain ⟨a1, c1, rfl, hs1, _⟩ := hn1.src
  have HS1 := keep hs1
  clear hs1 hn1
  go_wp2_with fail
  refine (layB_any ao m c l a1 _ c1 _ w1 (by omega) (HS.out.below HN.out.2) HS1.out).mono ?_
  rintro e w2 ⟨v2, rfl, hn2⟩
  have HN2 := keep (hn2.after HN.out.2)
  clear hn2
  go_wp2
  go_ret
  exact ⟨_, rfl, HN2.out⟩

theorem putNum_nil (n : Int) (w : World) : Calls Tryd.prog 39 #[.slice none 0 0, .int .i64 n] w fun e w' => ∃ ao c, e = .returned (.slice ao (num (cl n)).length c) ∧ New w w' (.slice ao (num (cl n)).length c) (num (cl n)).length (num (cl n)) :=
  (putNum_any none 0 0 [] n w (by omega) (src_nil w)).mono fun e w' ⟨v, he, h⟩ => by
    simp only [Nat.zero_add, List.nil_append] at h
    obtain ⟨ao, c, rfl, _, _⟩ := h.src
    exact ⟨ao, c, he, h⟩
end Go.Proofs.YtkepjjkiajkdmaaDoor
namespace Go.Proofs.YtkepjjkiajkdmaaDoor
open Go.RowKit


set_option maxHeartbeats 1000000 in
set_option maxRecDepth 100000 in
theorem same_any (ao : Option Addr) (m c : Nat) (l : List UInt8) (ao2 : Option Addr) (m2 c2 : Nat) (l2 : List UInt8) (w : World) (hs : Src w ao m c l) (hs2 : Src w ao2 m2 c2 l2) :
    Calls Tryd.prog 22 #[.slice ao m c, .slice ao2 m2 c2] w fun e w' => e = .returned (.bool (decide (l = l2))) ∧ Below w.heap.size w w' := by
  have h1 := conv_src hs
  have h2 := conv_src hs2
  clear hs hs2
  go_enter Tryd.func22, Tryd.ntmps22
  go_wp2
  go_ret
  exact ⟨by rw [← list_beq]; rfl, by first | exact Below.refl _ _ | exact (Below.refl _ _).drew⟩

set_option maxHeartbeats 1000000 in
set_option maxRecDepth 100000 in
theorem rputNum_any (ao : Option Addr) (m c : Nat) (l : List UInt8) (n : Int) (w : World) (hm : m + 9 ≤ 140737488355328) (hs : Src w ao m c l) :
    Calls Tryd.prog 40 #[.slice ao m c, .int .i64 n] w fun e w' => ∃ v, e = .returned v ∧ New w w' v (m + (num (cl n)).length) (l ++ num (cl n)) := by
  obtain ⟨i0, hi, hz0, hz1, hz2⟩ := info_parts info5
  have h9 := num9 n
  have hll := hs.len
  have HS := keep hs
  clear hs
  go_enter Tryd.func40, Tryd.ntmps40
  go_wp2_with (at_builtin; refine wpList_append_src rfl _ _ 41 rfl w.heap.size i0 _ Tryd.underlying41 hi hz0 hz1 hz2 rfl _ 0 [] rfl (World.ownsRow_nil _ _ _ _) _ m c l rfl HS.out (by omega) (Nat.le_refl _) ?_; intro v1 w1 ho1 hg1; have ho2 := keep ho1; simp only [Nat.zero_add, List.nil_append] at ho2; have hb1 := keep ((Below.refl w.heap.size w).grown hg1 (Nat.le_refl _) (fun j hj => by cases hj)); clear ho1 hg1)
  all_goals
    go_loopw [1, 5] (fun i v wr => ∃ (p : List UInt8) (k N : Nat), N ≤ 4611686018427387903 ∧ i = .int .i64 (N : Int) ∧ p.length = k ∧ Hid (l ++ num (cl n) = p ++ num N) ∧ Hid (wr.ownsRow w.heap.size 5 1 v k (bv p)) ∧ Hid (Below w.heap.size w wr)) (fun i _ _ => (intOf i).toNat)
    case atStart =>
      exact ⟨l, m, cl n, cl_le n, by unfold cl; congr 1; omega, hll, rfl, ho2, hb1⟩
    case round =>
      clear ho2 hb1
      obtain ⟨p, k, N, hN, rfl, hpk, hp, ho, hb⟩ := hrel
      have hk9 : k < m + 9 := by
        have h1 := congrArg List.length hp.out
        have h2 := num_pos N
        rw [List.length_append, List.length_append, hpk, hll] at h1
        omega
      by_cases hlt : 128 ≤ N
      · have hp' : Hid (l ++ num (cl n) = (p ++ [UInt8.ofNat (128 + N % 128)]) ++ num (N / 128)) := by rw [← num_cons hlt]; exact hp.out
        obtain ⟨y, hy⟩ : ∃ y : UInt8, UInt8.ofNat (128 + N % 128) = y := ⟨_, rfl⟩
        have hx : Hid (128 + (N : Int) % 128 = (y.toNat : Int)) := by rw [← hy, ofNat_group]; show _ = _; omega
        rw [hy] at hp'
        clear hy
        go_wp2_with (at_builtin; refine wpList_append_src rfl _ _ 41 rfl w.heap.size i0 _ Tryd.underlying41 hi hz0 hz1 hz2 rfl _ k p rfl (by exact ho.out.alloc _) _ 1 1 [y] rfl (Src.builtI _ _ _ (by have := hx.out; omega)) (by omega) (le_alloc hb.out.size _) ?_; intro v2 w2 ho2 hg2; have hb3 := keep ((hb.out.alloc hb.out.size _).grown hg2 (le_alloc hb.out.size _) (fun j hj => (ho.out.lt j hj).1)); have ho3 := keep ho2; clear ho2 hg2)
        go_roundw
        case rel => exact ⟨_, k + 1, N / 128, by omega, by first | rfl | (congr 1; omega), by simp [hpk], hp', ho3, hb3⟩
        case measure => simp [intOf]; omega
      · have hl : m + (num (cl n)).length = k + 1 := by
          have h1 := congrArg List.length hp.out
          rw [List.length_append, List.length_append, hpk, hll, len_small (n := N) (by omega)] at h1
          exact h1
        have hq : Hid (l ++ num (cl n) = p ++ [UInt8.ofNat N]) := hp.out.trans (by rw [num_small (by omega)])
        have hx : Hid ((N : Int) = ((UInt8.ofNat N).toNat : Int)) := by rw [ofNat_last (by omega)]; exact rfl
        obtain ⟨y, hy⟩ : ∃ y : UInt8, UInt8.ofNat N = y := ⟨_, rfl⟩
        rw [hy] at hx hq
        clear hy
        go_wp2_with (at_builtin; refine wpList_append_src rfl _ _ 41 rfl w.heap.size i0 _ Tryd.underlying41 hi hz0 hz1 hz2 rfl _ k p rfl (by exact ho.out.alloc _) _ 1 1 [y] rfl (Src.builtI _ _ _ (by have := hx.out; omega)) (by omega) (le_alloc hb.out.size _) ?_; intro v2 w2 ho2 hg2; have hb3 := keep ((hb.out.alloc hb.out.size _).grown hg2 (le_alloc hb.out.size _) (fun j hj => (ho.out.lt j hj).1)); have ho3 := keep ho2; clear ho2 hg2)
        go_ret
        rw [hl, hq.out]
        exact ⟨_, rfl, ho3.out, hb3.out⟩

theorem cl_nat (n : Nat) (h : n ≤ 4611686018427387903) : cl (n : Int) = n := by unfold cl; omega
theorem rputNum_nil (n : Int) (w : World) : Calls Tryd.prog 40 #[.slice none 0 0, .int .i64 n] w fun e w' => ∃ ao c, e = .returned (.slice ao (num (cl n)).length c) ∧ New w w' (.slice ao (num (cl n)).length c) (num (cl n)).length (num (cl n)) :=
  (rputNum_any none 0 0 [] n w (by omega) (src_nil w)).mono fun e w' ⟨v, he, h⟩ => by
    simp only [Nat.zero_add, List.nil_append] at h
    obtain ⟨ao, c, rfl, _, _⟩ := h.src
    exact ⟨ao, c, he, h⟩
theorem part_lt (V d k : Nat) (hV : V < 128 ^ k) (hd : d < 128) (hk : k ≤ 8) (hg : k = 8 → d ≤ 63) : V + d * 128 ^ k < 4611686018427387904 := by
  rw [Nat.mul_comm]
  rcases Nat.lt_or_ge k 8 with h | h
  · have hpow : 128 ^ k ≤ 128 ^ 7 := Nat.pow_le_pow_right (by decide) (by omega)
    have : 128 ^ k * d ≤ 128 ^ 7 * 127 := Nat.mul_le_mul hpow (by omega)
    have e3 : (128 : Nat) ^ 7 = 562949953421312 := rfl
    omega
  · obtain rfl : k = 8 := by omega
    have := hg rfl
    have e3 : (128 : Nat) ^ 8 = 72057594037927936 := rfl
    omega

set_option maxHeartbeats 1000000 in
set_option maxRecDepth 100000 in
theorem rtakeNum_any (ao : Option Addr) (m c : Nat) (l : List UInt8) (w : World) (hm : m ≤ 140737488355328) (hs : Src w ao m c l) :
    Calls Tryd.prog 43 #[.slice ao m c] w fun e w' => (∃ n r v, takeNum l = some (n, r) ∧ e = .returned (.tuple #[.int .i64 (n : Int), v, .int .i64 0]) ∧ New w w' v r.length r) ∨ (takeNum l = none ∧ e = .returned (.tuple #[.int .i64 0, .slice none 0 0, .int .i64 2]) ∧ Below w.heap.size w w') := by
  obtain ⟨i0, hi, hz0, hz1, hz2⟩ := info_parts info5
  have HS := keep hs
  have hll := hs.len
  have hcap := hs.cap
  clear hs
  go_enter Tryd.func43, Tryd.ntmps43
  go_wp2
  go_loopw [5, 6, 7] (fun x y i wr => ∃ (k : Nat) (V W : Int), k ≤ m ∧ k ≤ 9 ∧ i = .int .i64 (k : Int) ∧ x = .int .i64 V ∧ y = .int .i64 W ∧ Hid (k ≤ 8 → V = ((val (l.take k) : Nat) : Int) ∧ W = ((128 ^ k : Nat) : Int)) ∧ Hid (∀ x ∈ l.take k, 128 ≤ x.toNat) ∧ Hid (Below w.heap.size w wr)) (fun _ _ i _ => 9 - (intOf i).toNat)
  case atStart => exact ⟨0, 0, 1, Nat.zero_le _, by omega, rfl, rfl, rfl, fun _ => ⟨rfl, rfl⟩, by simp [Hid], Below.refl _ _⟩
  case round =>
    obtain ⟨k, V, W, hk, hk9, rfl, rfl, rfl, hVW, hall, hb⟩ := hrel
    by_cases hlt : k < m ∧ k < 9
    · obtain ⟨hlt, hk8⟩ := hlt
      obtain ⟨rfl, rfl⟩ := hVW.out (by omega)
      obtain ⟨b, off, rfl, hbw, hby⟩ := HS.out.form (by omega)
      have hcell : wr.cell? ⟨b, off + k, none⟩ = some (.int .u8 ((fn l k).toNat : Int)) := by
        rw [hb.out.cell (p := ⟨b, off + k, none⟩) hbw]; exact hby k hlt
      have h0 : (0 : Int) ≤ (k : Int) := by omega
      have h1 : (k : Int) < (m : Int) := by omega
      have h2 : (k : Int) < 9 := by omega
      clear hby hVW
      obtain ⟨y, hy⟩ : ∃ y, fn l k = y := ⟨_, rfl⟩
      have HY := keep hy
      rw [hy] at hcell
      clear hy
      have hyl := y.toNat_lt
      have hVl : val (l.take k) < 128 ^ k := by have := val_lt (l.take k); rwa [List.length_take, Nat.min_eq_left (by omega)] at this
      have hmore : Hid (val (l.take (k + 1)) = val (l.take k) + 128 ^ k * (y.toNat % 128)) := by have := rg_val (l := l) (k := k) (by omega); rwa [HY.out] at this
      by_cases ha : k = 8 ∧ 63 < y.toNat % 128
      · obtain ⟨rfl, ha⟩ := ha
        have hnone : Hid (takeNum l = none) := rg_great hall.out (by omega) (by rw [HY.out]; omega)
        have ha' : (63 : Int) < (y.toNat : Int) % 128 := by omega
        clear hVl hmore
        go_wp2
        go_ret3
        exact .inr ⟨hnone.out, rfl, hb.out⟩
      · obtain ⟨D, hD⟩ : ∃ D, y.toNat % 128 = D := ⟨_, rfl⟩
        have hDi : (y.toNat : Int) % 128 = (D : Int) := by omega
        have hP := part_lt (val (l.take k)) D k hVl (by omega) (by omega) (by omega)
        obtain ⟨P, hPd⟩ : ∃ P, D * 128 ^ k = P := ⟨_, rfl⟩
        have hPi : (D : Int) * ((128 ^ k : Nat) : Int) = (P : Int) := by rw [← hPd, Int.natCast_mul]
        have hmore2 : Hid (val (l.take (k + 1)) = val (l.take k) + P) := by rw [hmore.out, hD, Nat.mul_comm, hPd]; exact rfl
        rw [hPd] at hP
        have haa : ¬ ((k : Int) = 8 ∧ (63 : Int) < (D : Int)) := by omega
        obtain ⟨V, hV⟩ : ∃ V, val (l.take k) = V := ⟨_, rfl⟩
        rw [hV] at hP hmore2 ⊢
        have HV := keep hV
        have HPD := keep hPd
        have HD := keep hD
        obtain ⟨W, hW⟩ : ∃ W, 128 ^ k = W := ⟨_, rfl⟩
        rw [hW] at hPi ⊢
        have HW := keep hW
        clear hV hPd hD hmore hVl hW
        by_cases hk88 : k = 8
        · subst hk88
          have hD63 : ¬ ((63 : Int) < (D : Int)) := by omega
          by_cases hbb : 128 ≤ y.toNat
          · have hbb' : ¬ ((y.toNat : Int) < 128) := by omega
            have hall' : Hid (∀ x ∈ l.take (9), 128 ≤ x.toNat) := rg_more hall.out (by omega) (by rw [HY.out]; exact hbb)
            go_wp2
            go_roundw
            case rel => exact ⟨8 + 1, (V : Int) + (P : Int), _, by omega, by omega, by first | rfl | go_num, rfl, rfl, fun h => by omega, hall', hb⟩
            case measure => simp [intOf]
          · have hbb' : (y.toNat : Int) < 128 := by omega
            have hDy : D = y.toNat := by have := HD.out; omega
            have hPy : (y.toNat : Int) * (W : Int) = (P : Int) := by rw [← hDy]; exact hPi
            have hy63 : ¬ ((63 : Int) < (y.toNat : Int)) := by omega
            have hcl : cl ((V : Int) + (P : Int)) = V + P := cl_nat (V + P) (by omega)
            go_wp2_with fail
            refine (rputNum_nil ((V : Int) + (P : Int)) wr).mono ?_
            rintro e w1 ⟨a1, c1, rfl, hn1⟩
            rw [hcl]
            have HB1 := keep (hb.out.trans (hn1.2.mono hb.out.size))
            clear hn1
            by_cases hz : 8 = 0 ∨ y.toNat ≠ 0
            · have hdone : Hid (takeNum l = some (V + P, l.drop (9))) := by
                have := rg_done hall.out (by omega) (by omega) (by rw [HY.out]; omega) (by rw [HY.out]; exact hz) (by rw [HY.out]; omega)
                rw [HY.out, HV.out, Nat.mul_comm, ← hDy, HPD.out] at this
                exact this
              have hL : (num (V + P)).length = 9 := by
                have h1 := (takeNum_some hdone.out).2
                have h2 := congrArg List.length h1
                rw [List.length_append, List.length_drop, hll] at h2
                omega
              rw [hL]
              have HT := keep ((HS.out.below HB1.out).tailS (9) (by omega))
              have HT0 := keep (fun h => (HS.out.below HB1.out).tail0 (9) h)
              have hlen : (l.drop (9)).length = m - (9) := by rw [List.length_drop, hll]
              have g1 : (9 : Int) ≤ (m : Int) := by omega
              have g2 : (0 : Int) ≤ (9 : Int) := by omega
              have g3 : (9 : Int).toNat = 9 := rfl
              clear hcell hL
              by_cases hck : c = 9
              · subst hck
                obtain rfl : m = 9 := by omega
                have HT9 := keep (HT0.out rfl)
                clear HT0 HT
                go_wp2_with (at_builtin; refine wpList_append_src rfl _ _ 41 rfl w1.heap.size i0 _ Tryd.underlying41 hi hz0 hz1 hz2 rfl _ 0 [] rfl (World.ownsRow_made w1 #[] 0 (Nat.le_refl _) (by unfold maxLen; omega) rfl) _ 0 0 (l.drop (9)) rfl (HT9.out.below ((Below.refl _ _).alloc (Nat.le_refl _) _)) (by omega) (by simp) ?_; intro v2 w2 ho2 hg2; simp only [Nat.zero_add, List.nil_append] at ho2; have hb2 := keep (((Below.refl w1.heap.size w1).alloc (Nat.le_refl _) _).grown hg2 (by simp) (fun j hj => by cases hj; exact Nat.le_refl _)); have ho3 := keep ho2; clear ho2 hg2)
                go_ret3
                refine .inl ⟨V + P, _, _, hdone.out, rfl, New.after HB1.out ⟨?_, hb2.out⟩⟩
                rw [hlen]
                exact ho3.out
              · go_wp2_with (at_builtin; refine wpList_append_src rfl _ _ 41 rfl w1.heap.size i0 _ Tryd.underlying41 hi hz0 hz1 hz2 rfl _ 0 [] rfl (World.ownsRow_made w1 #[] 0 (Nat.le_refl _) (by unfold maxLen; omega) rfl) _ (m - (9)) (c - (9)) (l.drop (9)) rfl (HT.out.below ((Below.refl _ _).alloc (Nat.le_refl _) _)) (by omega) (by simp) ?_; intro v2 w2 ho2 hg2; simp only [Nat.zero_add, List.nil_append] at ho2; have hb2 := keep (((Below.refl w1.heap.size w1).alloc (Nat.le_refl _) _).grown hg2 (by simp) (fun j hj => by cases hj; exact Nat.le_refl _)); have ho3 := keep ho2; clear ho2 hg2)
                go_ret3
                refine .inl ⟨V + P, _, _, hdone.out, rfl, New.after HB1.out ⟨?_, hb2.out⟩⟩
                rw [hlen]
                exact ho3.out
            · have hnone : Hid (takeNum l = none) := rg_zero hall.out (by omega) (by omega) (by rw [HY.out]; omega)
              have hL : (num (V + P)).length ≠ 9 := by
                have h1 := (len_done hall.out (show y.toNat < 128 by omega)).1
                have hlk : (l.take 8).length = 8 := by rw [List.length_take]; omega
                have hve : val (l.take 8 ++ [y]) = V + P := by
                  rw [val_append, hlk, HV.out]
                  simp only [val]
                  rw [Nat.mod_eq_of_lt (by omega), ← HPD.out, hDy, Nat.mul_zero, Nat.add_zero, Nat.mul_comm]
                rw [hve, hlk] at h1
                intro e
                rcases h1 e with h3 | h3
                · rw [h3] at hlk; simp at hlk <;> omega
                · omega
              have hL' : ¬ (((num (V + P)).length : Int) = (9 : Int)) := by omega
              clear hcell hL
              go_wp2
              go_ret3
              exact .inr ⟨hnone.out, rfl, HB1.out⟩
        · have hne : ¬ ((k : Int) = 8) := by omega
          by_cases hbb : 128 ≤ y.toNat
          · have hbb' : ¬ ((y.toNat : Int) < 128) := by omega
            have hall' : Hid (∀ x ∈ l.take (k + 1), 128 ≤ x.toNat) := rg_more hall.out (by omega) (by rw [HY.out]; exact hbb)
            go_wp2
            go_roundw
            case rel => exact ⟨k + 1, (V : Int) + (P : Int), _, by omega, by omega, by first | rfl | go_num, rfl, rfl, fun h => ⟨by rw [hmore2.out]; rfl, by have e := HW.out; have e2 : 128 ^ (k + 1) = W * 128 := by { rw [Nat.pow_succ, e] }; have e3 : W ≤ 562949953421312 := by { rw [← e]; exact Nat.pow_le_pow_right (n := 128) (i := k) (j := 7) (by decide) (by omega) }; rw [e2]; unfold wrap64; omega⟩, hall', hb⟩
            case measure => simp [intOf]; omega
          · have hbb' : (y.toNat : Int) < 128 := by omega
            have hDy : D = y.toNat := by have := HD.out; omega
            have hPy : (y.toNat : Int) * (W : Int) = (P : Int) := by rw [← hDy]; exact hPi
            have hcl : cl ((V : Int) + (P : Int)) = V + P := cl_nat (V + P) (by omega)
            go_wp2_with fail
            refine (rputNum_nil ((V : Int) + (P : Int)) wr).mono ?_
            rintro e w1 ⟨a1, c1, rfl, hn1⟩
            rw [hcl]
            have HB1 := keep (hb.out.trans (hn1.2.mono hb.out.size))
            clear hn1
            by_cases hz : k = 0 ∨ y.toNat ≠ 0
            · have hdone : Hid (takeNum l = some (V + P, l.drop (k + 1))) := by
                have := rg_done hall.out (by omega) (by omega) (by rw [HY.out]; omega) (by rw [HY.out]; exact hz) (by rw [HY.out]; omega)
                rw [HY.out, HV.out, Nat.mul_comm, ← hDy, HPD.out] at this
                exact this
              have hL : (num (V + P)).length = k + 1 := by
                have h1 := (takeNum_some hdone.out).2
                have h2 := congrArg List.length h1
                rw [List.length_append, List.length_drop, hll] at h2
                omega
              rw [hL]
              have HT := keep ((HS.out.below HB1.out).tailS (k + 1) (by omega))
              have HT0 := keep (fun h => (HS.out.below HB1.out).tail0 (k + 1) h)
              have hlen : (l.drop (k + 1)).length = m - (k + 1) := by rw [List.length_drop, hll]
              have g1 : (k : Int) + 1 ≤ (m : Int) := by omega
              have g2 : (0 : Int) ≤ (k : Int) + 1 := by omega
              have g3 : ((k : Int) + 1).toNat = k + 1 := by omega
              clear hcell hL
              by_cases hck : k + 1 = c
              · go_wp2_with (at_builtin; refine wpList_append_src rfl _ _ 41 rfl w1.heap.size i0 _ Tryd.underlying41 hi hz0 hz1 hz2 rfl _ 0 [] rfl (World.ownsRow_made w1 #[] 0 (Nat.le_refl _) (by unfold maxLen; omega) rfl) _ 0 0 (l.drop (k + 1)) rfl ((HT0.out hck).below ((Below.refl _ _).alloc (Nat.le_refl _) _)) (by omega) (by simp) ?_; intro v2 w2 ho2 hg2; simp only [Nat.zero_add, List.nil_append] at ho2; have hb2 := keep (((Below.refl w1.heap.size w1).alloc (Nat.le_refl _) _).grown hg2 (by simp) (fun j hj => by cases hj; exact Nat.le_refl _)); have ho3 := keep ho2; clear ho2 hg2)
                go_ret3
                refine .inl ⟨V + P, _, _, hdone.out, rfl, New.after HB1.out ⟨?_, hb2.out⟩⟩
                rw [hlen, show m - (k + 1) = 0 by omega]
                exact ho3.out
              · go_wp2_with (at_builtin; refine wpList_append_src rfl _ _ 41 rfl w1.heap.size i0 _ Tryd.underlying41 hi hz0 hz1 hz2 rfl _ 0 [] rfl (World.ownsRow_made w1 #[] 0 (Nat.le_refl _) (by unfold maxLen; omega) rfl) _ (m - (k + 1)) (c - (k + 1)) (l.drop (k + 1)) rfl (HT.out.below ((Below.refl _ _).alloc (Nat.le_refl _) _)) (by omega) (by simp) ?_; intro v2 w2 ho2 hg2; simp only [Nat.zero_add, List.nil_append] at ho2; have hb2 := keep (((Below.refl w1.heap.size w1).alloc (Nat.le_refl _) _).grown hg2 (by simp) (fun j hj => by cases hj; exact Nat.le_refl _)); have ho3 := keep ho2; clear ho2 hg2)
                go_ret3
                refine .inl ⟨V + P, _, _, hdone.out, rfl, New.after HB1.out ⟨?_, hb2.out⟩⟩
                rw [hlen]
                exact ho3.out
            · have hnone : Hid (takeNum l = none) := rg_zero hall.out (by omega) (by omega) (by rw [HY.out]; omega)
              have hL : (num (V + P)).length ≠ k + 1 := by
                have h1 := (len_done hall.out (show y.toNat < 128 by omega)).1
                have hlk : (l.take k).length = k := by rw [List.length_take]; omega
                have hve : val (l.take k ++ [y]) = V + P := by
                  rw [val_append, hlk, HV.out]
                  simp only [val]
                  rw [Nat.mod_eq_of_lt (by omega), ← HPD.out, hDy, Nat.mul_zero, Nat.add_zero, Nat.mul_comm]
                rw [hve, hlk] at h1
                intro e
                rcases h1 e with h3 | h3
                · rw [h3] at hlk; simp at hlk <;> omega
                · omega
              have hL' : ¬ (((num (V + P)).length : Int) = (k : Int) + 1) := by omega
              clear hcell hL
              go_wp2
              go_ret3
              exact .inr ⟨hnone.out, rfl, HB1.out⟩
    · have hnone : Hid (takeNum l = none) := by
        rcases Nat.lt_or_ge k m with h | h
        · have h9 : k = 9 := by omega
          subst h9
          have := take_long (t := l.drop 9) hall.out (by rw [List.length_take]; omega)
          rwa [List.take_append_drop] at this
        · have := hall.out
          rw [List.take_of_length_le (by omega)] at this
          exact take_short this
      have hq : ¬ ((k : Int) < (m : Int) ∧ (k : Int) < 9) := by omega
      go_wp2
      all_goals
        go_ret3
        exact .inr ⟨hnone.out, rfl, hb.out⟩
end Go.Proofs.YtkepjjkiajkdmaaDoor
namespace Go.Proofs.YtkepjjkiajkdmaaDoor
open Go.RowKit

/-- A span's bytes. -/
def enL (n : Int) (ps : List (List UInt8)) : List UInt8 := if ckS n ps then num (cl n) ++ ps.flatten else []
/-- Bytes of their own and an error, answered. -/
def EnA (w : World) (l : List UInt8) (er : Int) (e : Ending) (w' : World) : Prop :=
  ∃ v, e = .returned (.tuple #[v, .int .i64 er]) ∧ w'.ownsRow w.heap.size 5 1 v l.length (bv l) ∧ Below w.heap.size w w'
theorem EnA.none {w w' : World} {er : Int} (hb : Below w.heap.size w w') : EnA w [] er (.returned (.tuple #[.slice none 0 0, .int .i64 er])) w' := ⟨_, rfl, World.ownsRow_nil _ _ _ _, hb⟩
theorem flat_snoc {ps : List (List UInt8)} {k : Nat} {s : List UInt8} (h : ps[k]? = some s) : (ps.take (k + 1)).flatten = (ps.take k).flatten ++ s := by
  rw [List.take_add_one, h, List.flatten_append]
  simp
theorem flat_len {ps : List (List UInt8)} (h : ∀ e ∈ ps, e.length = 32) (k : Nat) : (ps.take k).flatten.length ≤ 32 * k := by
  induction k with
  | zero => simp
  | succ k ih =>
    rcases Nat.lt_or_ge k ps.length with hk | hk
    · have hs := List.getElem?_eq_getElem hk
      rw [flat_snoc hs, List.length_append, h _ (List.mem_of_getElem? hs)]
      omega
    · rw [List.take_of_length_le (by omega)]
      rw [List.take_of_length_le hk] at ih
      omega
end Go.Proofs.YtkepjjkiajkdmaaDoor
namespace Go.Proofs.YtkepjjkiajkdmaaDoor
open Go.RowKit

set_option maxHeartbeats 4000000 in
set_option maxRecDepth 100000 in
theorem encode16_any (n : Int) (pp : Option Addr) (pm pc : Nat) (ps : List (List UInt8)) (w : World) (hs : RSrc strKind w pp pm pc ps) (hm : pm ≤ 4611686018427387904) :
    Calls Tryd.prog 18 #[.agg #[.int .i64 n, .slice pp pm pc]] w (EnA w (enL n ps) (ckN n ps)) := by
  obtain ⟨i0, hi, hz0, hz1, hz2⟩ := info_parts info5
  obtain ⟨W1, hW1⟩ : ∃ Wn, w.alloc (.cells #[.int .i64 n, .slice pp pm pc] 26) = Wn := ⟨_, rfl⟩
  have b1 : Hid (Below w.heap.size w W1) := by rw [← hW1]; exact (Below.refl _ _).alloc (Nat.le_refl _) _
  have c0 : W1.cell? ⟨w.heap.size, 0, none⟩ = some (.int .i64 n) := by rw [← hW1]; exact cell_of_row _ _ _ _ _ _ (heap_alloc_new w _)
  have c1 : W1.cell? ⟨w.heap.size, 1, none⟩ = some (.slice pp pm pc) := by rw [← hW1]; exact cell_of_row _ _ _ _ _ _ (heap_alloc_new w _)
  have CK := keep (check16_any n pp pm pc ps W1 (hs.below strKind_ok b1.out) hm)
  have HS := keep hs
  have HSL := keep hs.len
  clear hs
  cases hc : ckS n ps with
  | false =>
    have h1 : ckN n ps = 1 := by unfold ckN; rw [hc]; rfl
    have h2 : enL n ps = [] := by unfold enL; rw [hc]; rfl
    rw [h1] at CK
    rw [h1, h2]
    clear hc h1 h2 hi hz0 hz1 hz2
    go_enter Tryd.func18, Tryd.ntmps18
    go_wp2_with fail
    refine CK.out.mono ?_
    rintro e w2 ⟨rfl, hb2⟩
    have B2 := keep (b1.out.trans (hb2.mono b1.out.size))
    clear hb2 CK hW1 c0 c1
    go_wp2
    go_ret2
    exact EnA.none B2.out
  | true =>
    have h1 : ckN n ps = 0 := by unfold ckN; rw [hc]; rfl
    have h2 : enL n ps = num (cl n) ++ ps.flatten := by unfold enL; rw [hc]; rfl
    obtain ⟨g1, g2, g3, g4⟩ := ckS_parts hc
    have hpm : pm ≤ 1099511627776 := by
      have h := ones_le n.toNat
      rw [← g3, HSL.out] at h
      omega
    have G4 := keep (wholeL_mem g4)
    have h9 := num9 n
    rw [h1] at CK
    rw [h1, h2]
    clear hc h1 h2 g1 g2 g3 g4 hm
    go_enter Tryd.func18, Tryd.ntmps18
    go_wp2_with fail
    refine CK.out.mono ?_
    rintro e w2 ⟨rfl, hb2⟩
    have B2 := keep (b1.out.trans (hb2.mono b1.out.size))
    have d0 := below_cell hb2 c0
    have d1 := below_cell hb2 c1
    have PN := keep (putNum_nil n w2)
    obtain ⟨A, hA⟩ : ∃ A, num (cl n) = A := ⟨_, rfl⟩
    have HA := keep hA
    rw [hA] at PN h9
    clear hb2 CK hW1 c0 c1 hA
    go_wp2_with fail
    refine PN.out.mono ?_
    rintro e w3 ⟨a3, c3, rfl, hn3⟩
    have b3 := keep hn3.2
    have O3 := keep hn3.1
    have D1 := keep d1
    have f1 := below_cell b3.out d1
    clear hn3 PN d0 d1
    go_wp2
    clear f1
    go_loopw [5, 19] (fun v i wr => ∃ k L : Nat, ∃ vp vc, k ≤ pm ∧ v = .slice vp L vc ∧ i = .int .i64 (k : Int) ∧ Hid (L = (A ++ (ps.take k).flatten).length ∧ wr.ownsRow w2.heap.size 5 1 (.slice vp L vc) L (bv (A ++ (ps.take k).flatten)) ∧ Below w2.heap.size w2 wr)) (fun _ i _ => pm - (intOf i).toNat)
    case atStart => exact ⟨0, A.length, a3, c3, Nat.zero_le _, rfl, rfl, by simp, by simpa using O3.out, b3.out⟩
    case round =>
      clear O3 b3
      obtain ⟨k, L, vp, vc, hk, rfl, rfl, hI⟩ := hrel
      have hL := hI.out.1
      have O1 := keep hI.out.2.1
      have B1 := keep hI.out.2.2
      have BB := keep (B2.out.trans (B1.out.mono B2.out.size))
      have f1 := below_cell B1.out D1.out
      clear hI
      have hfl := flat_len G4.out k
      have hLb : L ≤ 9 + 32 * k := by rw [hL, List.length_append]; omega
      have HL := keep hL
      clear hL hfl
      by_cases hkn : k < pm
      · obtain ⟨b, off, rfl, _, hcell⟩ := strs_at HS.out (by omega)
        obtain ⟨s, hsk⟩ : ∃ s, ps[k]? = some s := ⟨ps[k]'(by rw [HSL.out]; exact hkn), List.getElem?_eq_getElem _⟩
        have ck := below_cell BB.out (hcell k s hsk)
        have k0 : (0 : Int) ≤ (k : Int) := by omega
        have k1 : (k : Int) < (pm : Int) := by omega
        have s32 := G4.out s (List.mem_of_getElem? hsk)
        have FS : Hid (A ++ (ps.take (k + 1)).flatten = A ++ (ps.take k).flatten ++ s) := by show _ = _; rw [flat_snoc hsk, List.append_assoc]
        obtain ⟨Cc, hCc⟩ : ∃ C, A ++ (ps.take k).flatten = C := ⟨_, rfl⟩
        rw [hCc] at O1 HL FS
        have S32 := keep s32
        clear hcell hsk hCc
        go_wp2_with (at_builtin; refine wpList_append_own_string_if (by rfl) _ _ 41 9 rfl w2.heap.size i0 Tryd.underlying41 Tryd.underlying9 hi hz0 hz1 hz2 _ L Cc s 32 rfl O1.out rfl S32.out (by omega) B1.out.size ?_; intro v7 w7 ho7 hg7; have b7 := keep (B1.out.grown hg7 B1.out.size (fun j hj => (O1.out.lt j hj).1)); obtain ⟨a7, c7, rfl, _, _⟩ := Src.of_own ho7; have O7 := keep ho7; clear ho7 hg7)
        go_roundw
        case rel => exact ⟨k + 1, L + 32, a7, c7, by omega, rfl, by go_num, by rw [FS.out, List.length_append, S32.out, ← HL.out], by rw [FS.out]; exact O7.out, b7.out⟩
        case measure => simp [intOf]; omega
      · obtain rfl : k = pm := by omega
        have k1 : ¬ (k : Int) < (k : Int) := by omega
        have HT : Hid (ps.take k = ps) := List.take_of_length_le (by rw [HSL.out]; omega)
        rw [HT.out] at O1 HL
        go_wp2
        go_ret2
        exact ⟨_, rfl, by rw [HA.out, ← HL.out]; exact own_low O1.out B2.out.size, BB.out⟩
end Go.Proofs.YtkepjjkiajkdmaaDoor
namespace Go.Proofs.YtkepjjkiajkdmaaDoor
open Go.RowKit Go.Shelf
attribute [local go_sem] Oper.semAt_some

set_option maxHeartbeats 1000000 in
set_option maxRecDepth 100000 in
theorem chunk_any (ao : Option Addr) (n c : Nat) (w : World) :
    Calls Tryd.prog 42 #[.slice ao n c, .int .i64 32] w fun e w' => e = .returned (.func (.func 59) #[] #[.pointer (some ⟨w.heap.size, 0, none⟩), .pointer (some ⟨w.heap.size + 1, 0, none⟩)]) ∧ w' = (w.alloc (.cells #[.slice ao n c] 41)).alloc (.cells #[.int .i64 32] 3) := by
  go_enter Tryd.func42, Tryd.ntmps42
  go_wp2
  go_ret
  exact ⟨rfl, rfl⟩
/-- How many chunks, how many bytes the k-th has, where it lies. -/
def cnt (n : Nat) : Nat := (n + 31) / 32
def gl (n k : Nat) : Nat := min 32 (n - 32 * k)
def cka : Option Addr → Nat → Option Addr
  | some ⟨b, off, none⟩, k => some ⟨b, off + 32 * k, none⟩
  | o, _ => o
/-- What the iterator wants kept: cells below z, but for one block. -/
def KpZ (z R : Nat) (W W' : World) : Prop := ∀ (p : Addr) v, p.block < z → p.block ≠ R → W.cell? p = some v → W'.cell? p = some v
theorem KpZ.t {z R : Nat} {A B C : World} (h : KpZ z R A B) (k : KpZ z R B C) : KpZ z R A C := fun p v hz hp hv => k p v hz hp (h p v hz hp hv)
theorem KpZ.b {z R : Nat} {w : World} (W : World) (l : Nat) (o o' : Obj) (_ : w.heap.size ≤ l) (h : W.heap[l]? = some o) (ho : o.isCells = false) (_ : o.isWalk = false) : KpZ z R W (W.putObj l o') :=
  fun _ _ _ _ hv => cell_kept hv (grownBy_putObj' W l o') (fun r e => by cases e; exact ⟨o, h, ho⟩)
set_option maxHeartbeats 4000000 in
set_option maxRecDepth 100000 in
theorem chunk1_in (nn : Nat) (hn : 1 ≤ nn) (l Bs Bn z R b off n c : Nat) (hBz : Bs < z ∧ Bs ≠ R) (hNz : Bn < z ∧ Bn ≠ R) (hn1 : 1 ≤ n) (hnm : n ≤ 140737488355328) (hc : n ≤ c) (J Jx : List Nat → World → Prop) (W : World)
    (hJ : AbidesFrom W.heap.size J)
    (hY : ∀ pre x W1, J pre W1 → pre.length < cnt n → YieldAt Fence.wide (nn - 1) Tryd.prog l #[.slice (some ⟨b, off + 32 * x, none⟩) (gl n x) (gl n x)] W1 fun e W' =>
      (e = .returned (.bool true) ∧ J (pre ++ [x]) W' ∧ KpZ z R W1 W') ∨ (e = .returned (.bool false) ∧ Jx (pre ++ [x]) W'))
    (hBs : W.cell? ⟨Bs, 0, none⟩ = some (.slice (some ⟨b, off, none⟩) n c)) (hBn : W.cell? ⟨Bn, 0, none⟩ = some (.int .i64 32)) (h0 : J [] W) :
    CallsIn Fence.wide nn Tryd.prog 59 #[.func (.yield l) #[] #[], .pointer (some ⟨Bs, 0, none⟩), .pointer (some ⟨Bn, 0, none⟩)] W fun e W' => (∃ v, e = .returned v) ∧
      ((∃ ys, ys = List.range (cnt n) ∧ J ys W') ∨ (∃ pre, (∃ k, k ≤ cnt n ∧ pre = List.range k) ∧ Jx pre W')) := by
  have HJ := keep hJ
  have HY := keep hY
  have H0 := keep h0
  have HBZ := keep hBz
  have HNZ := keep hNz
  clear hJ hY h0 hBz hNz
  refine callsIn_of_wp Tryd.func59 rfl trivial ?_ rfl
  simp only [Tryd.ntmps59, List.size_toArray, List.length_cons, List.length_nil, Nat.reduceAdd, Nat.reduceSub, Array.replicate_succ, Array.replicate_zero, List.push_toArray, List.append_toArray, List.nil_append, List.cons_append]
  gi_wp2
  gi_loopw [4] (fun i wr => ∃ k : Nat, k ≤ cnt n ∧ i = .int .i64 ((32 * k : Nat) : Int) ∧ wr.cell? ⟨Bs, 0, none⟩ = some (.slice (some ⟨b, off, none⟩) n c) ∧ wr.cell? ⟨Bn, 0, none⟩ = some (.int .i64 32) ∧ Hid (J (List.range k) wr)) (fun i _ => n + 32 - (intOf i).toNat)
  case atStart => exact ⟨0, by omega, rfl, hBs, hBn, H0.out⟩
  case round =>
    clear hBs hBn H0
    obtain ⟨k, hk, rfl, c1, c2, hJk⟩ := hrel
    have HK : Hid (k ≤ (n + 31) / 32) := hk
    clear hk
    by_cases hlt : 32 * k < n
    · have JD : Hid (J (List.range k) wr.drew) := HJ.out (List.range k) wr wr.drew none hJk.out (grown_of_below (Below.refl _ _).drew) (fun r e => by cases e)
      obtain ⟨fn, tmps, assign, body, hy, hR⟩ := HY.out _ k wr.drew JD.out (by rw [List.length_range]; show k < (n + 31) / 32; omega)
      obtain ⟨q, hq⟩ : ∃ q, 32 * k = q := ⟨_, rfl⟩
      have HQ := keep hq
      have HG : Hid (gl n k = min 32 (n - q)) := by show _ = _; rw [← hq]; rfl
      rw [HG.out] at hy
      rw [hq] at hlt hy ⊢
      have HYY := keep hy
      clear hq hy HG
      have ll : (q : Int) < (n : Int) := by omega
      have ll0 : (0 : Int) ≤ (q : Int) := by omega
      have nc : ¬ c = q := by omega
      have nq : ¬ n < q := by omega
      have sw : IntKind.i64.wrap ((q : Int) + 32) = (q : Int) + 32 := wrap_small _ (by omega) (by omega)
      have CC : Hid (∀ w', Below wr.heap.size wr w' → w'.cell? ⟨Bs, 0, none⟩ = some (.slice (some ⟨b, off, none⟩) n c) ∧ w'.cell? ⟨Bn, 0, none⟩ = some (.int .i64 32)) := fun w' hb => ⟨below_cell hb c1, below_cell hb c2⟩
      obtain ⟨d1, d2⟩ := CC.out _ (Below.refl wr.heap.size wr).drew
      by_cases h8 : n - q < 32
      · have h8i : ((n - q : Nat) : Int) < 32 := by omega
        have e1 : (q : Int) + ((n - q : Nat) : Int) = (n : Int) := by omega
        have e2 : IntKind.i64.wrap (n : Int) = (n : Int) := wrap_small _ (by omega) (by omega)
        have e3 : min 32 (n - q) = n - q := by omega
        have hy := HYY.out
        rw [e3] at hy
        clear e3 HYY
        gi_wp2_with fail
        rw [wpIn_wide]
        refine wp_region_held_drew (S := fun w' => Below wr.heap.size wr w') (by kernel_rfl) ((Below.refl _ _).drew) (fun hHeld => ?_)
        refine takeH (i := 0) 13 (v := .int .i64 32) rfl rfl (by kernel_rfl) (by kernel_rfl) (by kernel_rfl) (fun _ _ _ h => h) (Or.inl ⟨by rfl, ?_⟩) (by assumption) ?_
        · intro w' hSw'
          obtain ⟨d0, d1⟩ := CC.out w' hSw'
          go_simp
        simp only [Act.put, List.setIfInBounds_toArray, List.set_cons_zero, List.set_cons_succ]
        refine takeH (i := 1) 14 (v := .slice (some ⟨b, off, none⟩) n c) rfl rfl (by kernel_rfl) (by kernel_rfl) (by kernel_rfl) (fun _ _ _ h => h) (Or.inl ⟨by rfl, ?_⟩) (by assumption) ?_
        · intro w' hSw'
          obtain ⟨d0, d1⟩ := CC.out w' hSw'
          go_simp
        simp only [Act.put, List.setIfInBounds_toArray, List.set_cons_zero, List.set_cons_succ]
        refine takeH (i := 2) 15 (v := .int .i64 (q : Int)) rfl rfl (by kernel_rfl) (by kernel_rfl) (by kernel_rfl) (fun _ _ _ h => h) (Or.inl ⟨by rfl, ?_⟩) (by assumption) ?_
        · intro w' hSw'
          go_simp
        simp only [Act.put, List.setIfInBounds_toArray, List.set_cons_zero, List.set_cons_succ]
        refine takeH (i := 3) 16 (v := .slice (some ⟨b, off + q, none⟩) (n - q) (c - q)) rfl rfl (by kernel_rfl) (by kernel_rfl) (by kernel_rfl) (fun _ _ _ h => h) (Or.inl ⟨by rfl, ?_⟩) (by assumption) ?_
        · intro w' hSw'
          go_simp
        simp only [Act.put, List.setIfInBounds_toArray, List.set_cons_zero, List.set_cons_succ]
        refine takeH (i := 4) 17 (v := .int .i64 ((n - q : Nat) : Int)) rfl rfl (by kernel_rfl) (by kernel_rfl) (by kernel_rfl) (fun _ _ _ h => h) (Or.inl ⟨by rfl, ?_⟩) (by assumption) ?_
        · intro w' hSw'
          go_simp
        simp only [Act.put, List.setIfInBounds_toArray, List.set_cons_zero, List.set_cons_succ]
        refine takeH (i := 5) 18 (v := .int .i64 ((n - q : Nat) : Int)) rfl rfl (by kernel_rfl) (by kernel_rfl) (by kernel_rfl) (fun _ _ _ h => h) (Or.inl ⟨by rfl, ?_⟩) (by assumption) ?_
        · intro w' hSw'
          go_simp
        simp only [Act.put, List.setIfInBounds_toArray, List.set_cons_zero, List.set_cons_succ]
        refine takeH (i := 6) 5 (v := .int .i64 ((n - q : Nat) : Int)) rfl rfl (by kernel_rfl) (by kernel_rfl) (by kernel_rfl) (fun _ _ _ h => h) (Or.inl ⟨by rfl, ?_⟩) (by assumption) ?_
        · intro w' hSw'
          go_simp
        simp only [Act.put, List.setIfInBounds_toArray, List.set_cons_zero, List.set_cons_succ]
        refine wpAnyH_done (by kernel_rfl) ?_ _
        gi_wp2_with fail
        refine hR.mono ?_
        rintro e W3 (⟨rfl, hJ3, hk3⟩ | ⟨rfl, hJx3⟩)
        · have hJ4 : Hid (J (List.range (k + 1)) W3) := by show J _ _; rw [List.range_succ]; exact hJ3
          have hc3 := hk3 ⟨Bs, 0, none⟩ _ HBZ.out.1 HBZ.out.2 d1
          have hc4 := hk3 ⟨Bn, 0, none⟩ _ HNZ.out.1 HNZ.out.2 d2
          clear hJ3 hk3 JD hJk
          gi_wp2
          go_roundw
          case rel => exact ⟨k + 1, by show _ ≤ (n + 31) / 32; have := HQ.out; omega, by have := HQ.out; first | go_num | (congr 1; omega), hc3, hc4, hJ4⟩
          case measure => simp [intOf]; omega
        · gi_wp2
          refine bodyPost_ret (results_none rfl _ _ _) rfl ?_
          exact ⟨⟨_, rfl⟩, .inr ⟨_, ⟨k + 1, by show _ ≤ (n + 31) / 32; have := HQ.out; omega, List.range_succ.symm⟩, hJx3⟩⟩
      · have h8i : ¬ ((n - q : Nat) : Int) < 32 := by omega
        have e3 : min 32 (n - q) = 32 := by omega
        have e4 : (q : Int) + 32 ≤ (n : Int) := by omega
        have e5 : (q : Int) + 32 ≤ (c : Int) := by omega
        have e6 : (0 : Int) ≤ (q : Int) + 32 := by omega
        have e7 : (q : Int) ≤ (q : Int) + 32 := by omega
        have hy := HYY.out
        rw [e3] at hy
        clear e3 HYY
        gi_wp2_with fail
        rw [wpIn_wide]
        refine wp_region_held_drew (S := fun w' => Below wr.heap.size wr w') (by kernel_rfl) ((Below.refl _ _).drew) (fun hHeld => ?_)
        refine takeH (i := 0) 13 (v := .int .i64 32) rfl rfl (by kernel_rfl) (by kernel_rfl) (by kernel_rfl) (fun _ _ _ h => h) (Or.inl ⟨by rfl, ?_⟩) (by assumption) ?_
        · intro w' hSw'
          obtain ⟨d0, d1⟩ := CC.out w' hSw'
          go_simp
        simp only [Act.put, List.setIfInBounds_toArray, List.set_cons_zero, List.set_cons_succ]
        refine takeH (i := 1) 14 (v := .slice (some ⟨b, off, none⟩) n c) rfl rfl (by kernel_rfl) (by kernel_rfl) (by kernel_rfl) (fun _ _ _ h => h) (Or.inl ⟨by rfl, ?_⟩) (by assumption) ?_
        · intro w' hSw'
          obtain ⟨d0, d1⟩ := CC.out w' hSw'
          go_simp
        simp only [Act.put, List.setIfInBounds_toArray, List.set_cons_zero, List.set_cons_succ]
        refine takeH (i := 2) 15 (v := .int .i64 (q : Int)) rfl rfl (by kernel_rfl) (by kernel_rfl) (by kernel_rfl) (fun _ _ _ h => h) (Or.inl ⟨by rfl, ?_⟩) (by assumption) ?_
        · intro w' hSw'
          go_simp
        simp only [Act.put, List.setIfInBounds_toArray, List.set_cons_zero, List.set_cons_succ]
        refine takeH (i := 3) 16 (v := .slice (some ⟨b, off + q, none⟩) (n - q) (c - q)) rfl rfl (by kernel_rfl) (by kernel_rfl) (by kernel_rfl) (fun _ _ _ h => h) (Or.inl ⟨by rfl, ?_⟩) (by assumption) ?_
        · intro w' hSw'
          go_simp
        simp only [Act.put, List.setIfInBounds_toArray, List.set_cons_zero, List.set_cons_succ]
        refine takeH (i := 4) 17 (v := .int .i64 ((n - q : Nat) : Int)) rfl rfl (by kernel_rfl) (by kernel_rfl) (by kernel_rfl) (fun _ _ _ h => h) (Or.inl ⟨by rfl, ?_⟩) (by assumption) ?_
        · intro w' hSw'
          go_simp
        simp only [Act.put, List.setIfInBounds_toArray, List.set_cons_zero, List.set_cons_succ]
        refine takeH (i := 5) 18 (v := .int .i64 32) rfl rfl (by kernel_rfl) (by kernel_rfl) (by kernel_rfl) (fun _ _ _ h => h) (Or.inl ⟨by rfl, ?_⟩) (by assumption) ?_
        · intro w' hSw'
          go_simp
          intro hx; omega
        simp only [Act.put, List.setIfInBounds_toArray, List.set_cons_zero, List.set_cons_succ]
        refine takeH (i := 6) 5 (v := .int .i64 32) rfl rfl (by kernel_rfl) (by kernel_rfl) (by kernel_rfl) (fun _ _ _ h => h) (Or.inl ⟨by rfl, ?_⟩) (by assumption) ?_
        · intro w' hSw'
          go_simp
        simp only [Act.put, List.setIfInBounds_toArray, List.set_cons_zero, List.set_cons_succ]
        refine wpAnyH_done (by kernel_rfl) ?_ _
        gi_wp2_with fail
        refine hR.mono ?_
        rintro e W3 (⟨rfl, hJ3, hk3⟩ | ⟨rfl, hJx3⟩)
        · have hJ4 : Hid (J (List.range (k + 1)) W3) := by show J _ _; rw [List.range_succ]; exact hJ3
          have hc3 := hk3 ⟨Bs, 0, none⟩ _ HBZ.out.1 HBZ.out.2 d1
          have hc4 := hk3 ⟨Bn, 0, none⟩ _ HNZ.out.1 HNZ.out.2 d2
          clear hJ3 hk3 JD hJk
          gi_wp2
          go_roundw
          case rel => exact ⟨k + 1, by show _ ≤ (n + 31) / 32; have := HQ.out; omega, by have := HQ.out; first | go_num | (congr 1; omega), hc3, hc4, hJ4⟩
          case measure => simp [intOf]; omega
        · gi_wp2
          refine bodyPost_ret (results_none rfl _ _ _) rfl ?_
          exact ⟨⟨_, rfl⟩, .inr ⟨_, ⟨k + 1, by show _ ≤ (n + 31) / 32; have := HQ.out; omega, List.range_succ.symm⟩, hJx3⟩⟩
    · have ll : ¬ ((32 * k : Nat) : Int) < (n : Int) := by omega
      have hke : k = cnt n := by have := HK.out; show k = (n + 31) / 32; omega
      have HKE := keep hke
      clear hke
      gi_wp2
      go_end0
      exact ⟨⟨_, rfl⟩, .inl (by rw [← HKE.out]; exact hJk.out)⟩
set_option maxHeartbeats 2000000 in
set_option maxRecDepth 100000 in
theorem chunk1_none (nn : Nat) (l Bs Bn c : Nat) (ao : Option Addr) (J Jx : List Nat → World → Prop) (W : World) (hBs : W.cell? ⟨Bs, 0, none⟩ = some (.slice ao 0 c)) (h0 : J [] W) :
    CallsIn Fence.wide nn Tryd.prog 59 #[.func (.yield l) #[] #[], .pointer (some ⟨Bs, 0, none⟩), .pointer (some ⟨Bn, 0, none⟩)] W fun e W' => (∃ v, e = .returned v) ∧
      ((∃ ys, ys = List.range (cnt 0) ∧ J ys W') ∨ (∃ pre, (∃ k, k ≤ cnt 0 ∧ pre = List.range k) ∧ Jx pre W')) := by
  have H0 := keep h0
  clear h0
  refine callsIn_of_wp Tryd.func59 rfl trivial ?_ rfl
  simp only [Tryd.ntmps59, List.size_toArray, List.length_cons, List.length_nil, Nat.reduceAdd, Nat.reduceSub, Array.replicate_succ, Array.replicate_zero, List.push_toArray, List.append_toArray, List.nil_append, List.cons_append]
  gi_wp2
  gi_loopw [4] (fun i wr => i = .int .i64 0 ∧ wr = W) (fun _ _ => 0)
  case atStart => exact ⟨rfl, rfl⟩
  case round =>
    obtain ⟨rfl, rfl⟩ := hrel
    gi_wp2
    go_end0
    exact ⟨⟨_, rfl⟩, .inl ⟨_, rfl, H0.out⟩⟩
theorem chunk_stops (nn : Nat) (hn : 1 ≤ nn) (Bs Bn z R : Nat) (ao : Option Addr) (n c : Nat) (l : List UInt8) (hBz : Bs < z ∧ Bs ≠ R) (hNz : Bn < z ∧ Bn ≠ R) (hnm : n ≤ 140737488355328) (w : World)
    (hBs : w.cell? ⟨Bs, 0, none⟩ = some (.slice ao n c)) (hBn : w.cell? ⟨Bn, 0, none⟩ = some (.int .i64 32)) (hs : Src w ao n c l) :
    SeqStopsK Fence.wide nn Tryd.prog 59 #[.pointer (some ⟨Bs, 0, none⟩), .pointer (some ⟨Bn, 0, none⟩)] (fun x : Nat => #[.slice (cka ao x) (gl n x) (gl n x)]) (KpZ z R) (fun ys => ys = List.range (cnt n)) (fun pre => ∃ k, k ≤ cnt n ∧ pre = List.range k) (cnt n) w := by
  intro l J Jx W hW hJ _ hY h0
  rcases Nat.eq_zero_or_pos n with hz | hp
  · subst hz
    exact chunk1_none nn l Bs Bn c ao J Jx W (below_cell hW hBs) h0
  · obtain ⟨b, off, rfl, _, _⟩ := hs.form hp
    exact chunk1_in nn hn l Bs Bn z R b off n c hBz hNz hp hnm hs.cap J Jx W hJ hY (below_cell hW hBs) (below_cell hW hBn) h0
end Go.Proofs.YtkepjjkiajkdmaaDoor
namespace Go.Proofs.YtkepjjkiajkdmaaDoor
open Go.RowKit

/-- The chunks of bytes. -/
def chk (r : List UInt8) (k : Nat) : List UInt8 := (r.drop (32 * k)).take 32
def chs (r : List UInt8) : List (List UInt8) := (List.range (cnt r.length)).map (chk r)
theorem chs_len (r : List UInt8) : (chs r).length = cnt r.length := by unfold chs; simp
theorem chk_gl (r : List UInt8) (k : Nat) : chk r k = (r.drop (32 * k)).take (gl r.length k) := by
  unfold chk gl
  rcases Nat.lt_or_ge (r.length - 32 * k) 32 with h | h
  · rw [Nat.min_eq_right (by omega), List.take_of_length_le (i := 32) (by rw [List.length_drop]; omega), List.take_of_length_le (by rw [List.length_drop]; omega)]
  · rw [Nat.min_eq_left h]
theorem chk_len (r : List UInt8) (k : Nat) : (chk r k).length = gl r.length k := by
  unfold chk gl
  rw [List.length_take, List.length_drop]
def deS (l : List UInt8) : Option (Nat × List (List UInt8)) := match takeNum l with
  | none => none
  | some (N, r) => if ckS (N : Int) (chs r) then some (N, chs r) else none
def deN (l : List UInt8) : Int := match deS l with | none => 0 | some x => (x.1 : Int)
def deP (l : List UInt8) : List (List UInt8) := match deS l with | none => [] | some x => x.2
def deE (l : List UInt8) : Int := match deS l with | none => 2 | some _ => 0
theorem de_none {l : List UInt8} (h : deS l = none) : deN l = 0 ∧ deP l = [] ∧ deE l = 2 := by
  unfold deN deP deE
  rw [h]
  exact ⟨rfl, rfl, rfl⟩
theorem de_some {l : List UInt8} {N : Nat} {ps : List (List UInt8)} (h : deS l = some (N, ps)) : deN l = (N : Int) ∧ deP l = ps ∧ deE l = 0 := by
  unfold deN deP deE
  rw [h]
  exact ⟨rfl, rfl, rfl⟩
theorem deS_no {l : List UInt8} (h : takeNum l = none) : deS l = none := by unfold deS; rw [h]
theorem deS_of {l : List UInt8} {N : Nat} {r : List UInt8} (h : takeNum l = some (N, r)) : deS l = if ckS (N : Int) (chs r) then some (N, chs r) else none := by unfold deS; rw [h]
theorem ones_lt : ∀ (j x : Nat), x < 2 ^ j → Mt.ones x ≤ j
  | 0, x, h => by
    have : x = 0 := by simpa using h
    subst this
    exact Nat.zero_le _
  | j + 1, x, h => by
    rcases Nat.eq_zero_or_pos x with h0 | h0
    · subst h0; exact Nat.zero_le _
    · rw [Mt.ones_pos h0]
      rw [Nat.pow_succ] at h
      have := ones_lt j (x / 2) (by omega)
      omega
/-- What the document asks of the rest holds where a span may be. -/
theorem ck_rest {N : Nat} {r : List UInt8} (h : ckS (N : Int) (chs r) = true) : r.length % 32 = 0 ∧ r.length ≤ 2048 := by
  obtain ⟨_, h2, h3, h4⟩ := ckS_parts h
  rw [Int.toNat_natCast, chs_len] at h3
  have h5 := ones_lt 41 N (by have : (2 : Nat) ^ 41 = 2199023255552 := rfl
                              omega)
  rw [← h3] at h5
  have h6 : r.length ≤ 2048 := by unfold cnt at h5; omega
  refine ⟨?_, h6⟩
  by_cases h0 : r.length = 0
  · rw [h0]
  · have hm : chk r (cnt r.length - 1) ∈ chs r := by
      unfold chs
      exact List.mem_map.2 ⟨_, List.mem_range.2 (by unfold cnt; omega), rfl⟩
    have h7 := wholeL_mem h4 _ hm
    rw [chk_len] at h7
    unfold gl cnt at h7
    omega
end Go.Proofs.YtkepjjkiajkdmaaDoor
namespace Go.Proofs.YtkepjjkiajkdmaaDoor
open Go.RowKit Go.Shelf
attribute [local go_sem] Oper.semAt_some

theorem keeps_app {W w3 : World} {z B n R i : Nat} {v u : Value} {xs : List Value} {ob : Obj} {cs : Array Value} {t : TypeId} {fr : Nat × Nat} (ho : W.ownsRow B 9 1 v n xs) (hg : (W.alloc ob).grownBy w3 v.ownBlock) (hR : W.heap[R]? = some (.cells cs t fr)) : KeepsFrom z W (w3.setCell ⟨R, i, none⟩ u) := by
  refine ⟨by have := hg.size; rw [alloc_size] at this; rw [World.size_setCell]; omega, fun k o _ hk hc => ?_⟩
  have hlt := (Array.getElem?_eq_some_iff.1 hk).1
  have h1 : (W.alloc ob).heap[k]? = W.heap[k]? := Below.heap_alloc _ _ _ hlt
  have h2 : w3.heap[k]? = (W.alloc ob).heap[k]? := hg.block k (by rw [alloc_size]; omega) (fun e => by
    obtain ⟨cur, hcur⟩ := own_tag ho e.symm
    rw [hcur] at hk
    cases hk
    cases hc)
  have h3 : k ≠ R := fun e => by
    rw [e, hR] at hk
    cases hk
    cases hc
  rw [set_far _ _ h3, h2, h1, hk]
theorem kpz_app {W w3 : World} {z n R i : Nat} {v u : Value} {xs : List Value} {ob : Obj} (ho : W.ownsRow z 9 1 v n xs) (hg : (W.alloc ob).grownBy w3 v.ownBlock) : KpZ z R W (w3.setCell ⟨R, i, none⟩ u) := by
  intro p x hz hp hv
  have hlt := World.block_lt_of_cell? W _ hv
  have h1 : (W.alloc ob).heap[p.block]? = W.heap[p.block]? := Below.heap_alloc _ _ _ hlt
  have h2 : w3.heap[p.block]? = (W.alloc ob).heap[p.block]? := hg.block _ (by rw [alloc_size]; omega) (fun e => by
    have := (ho.lt _ e.symm).1
    omega)
  have h3 : (w3.setCell ⟨R, i, none⟩ u).heap[p.block]? = W.heap[p.block]? := by rw [set_far _ _ hp, h2, h1]
  simp only [World.cell?, h3] at hv ⊢
  exact hv
theorem src_chunk {w2 w4 W : World} {a2 : Option Addr} {M c2 : Nat} {r : List UInt8} (h : Src w2 a2 M c2 r) (hb : Below w2.heap.size w2 w4) (hk : KpZ w4.heap.size w2.heap.size w4 W) (x : Nat) : Src W (cka a2 x) (gl M x) (gl M x) (chk r x) := by
  have hl := h.len
  rcases Nat.lt_or_ge (32 * x) M with hx | hx
  · obtain ⟨b, off, rfl, hbl, _⟩ := h.form (by omega)
    have h1 := ((h.tailS (32 * x) (by omega)).head (gl M x) (by unfold gl; omega)).below hb
    have e : (r.drop (32 * x)).take (gl M x) = chk r x := by rw [chk_gl, hl]
    rw [e] at h1
    exact ⟨h1.len, Nat.le_refl _, fun e => (by cases e), fun ad e j u hu => by
      have e2 : ad.block = b := by cases e; rfl
      exact hk _ _ (by rw [addr_block, e2]; exact Nat.lt_of_lt_of_le hbl hb.size) (by rw [addr_block, e2]; omega) (h1.cells ad e j u hu)⟩
  · have e1 : gl M x = 0 := by unfold gl; omega
    rw [e1]
    exact Src.none_of (by rw [chk_len, hl, e1]) (fun _ => rfl)
theorem own_form' {w : World} {B t k n : Nat} {v : Value} {xs : List Value} (h : w.ownsRow B t k v (n + 1) xs) : ∃ g cap, v = .slice (some ⟨g, 0, none⟩) (n + 1) cap ∧ n + 1 ≤ cap := by
  rcases h.2 with ⟨_, h0⟩ | ⟨g, cap, cur, e, _, _, h3, _⟩
  · omega
  · exact ⟨g, cap, e, h3⟩
theorem body_row {W w3 : World} {z R n : Nat} {v : Value} {xs : List Value} {ob : Obj} {o : Obj} (hx : (W.alloc ob).heap[R]? = some o) (ho : W.ownsRow z 9 1 v n xs) (hg : (W.alloc ob).grownBy w3 v.ownBlock) (hR : R < z) : w3.heap[R]? = some o :=
  (hg.block R (Array.getElem?_eq_some_iff.1 hx).1 (fun e => by have := (ho.lt _ e.symm).1; omega)).trans hx
theorem row_frozen {w : World} {R : Nat} {cs : Array Value} {t : TypeId} (h : w.heap[R]? = some (.cells cs t)) (i : Nat) : w.frozen? ⟨R, i, none⟩ = false := by simp [World.frozen?, h]
/-- The chunks that have come, in the record. -/
def ChI (w w4 : World) (R N : Nat) (r : List UInt8) (pre : List Nat) (W : World) : Prop :=
  ∃ v, W.heap[R]? = some (.cells #[.int .i64 (N : Int), v] 26) ∧ W.ownsRow w4.heap.size 9 1 v pre.length (rv strKind (pre.map (chk r))) ∧ Below w.heap.size w W ∧ KpZ w4.heap.size R w4 W ∧ w4.heap.size ≤ W.heap.size ∧ W.heap[w.heap.size]? = some (.cells #[.int .i64 0, .slice none 0 0] 26)
theorem ChI.own {w w4 : World} {R N : Nat} {r : List UInt8} (hB : w.heap.size ≤ w4.heap.size) : OwnFrom w4.heap.size (ChI w w4 R N r) := fun pre W W' row h hg hr => by
  obtain ⟨v, h1, h2, h3, h4, h5, h6⟩ := h
  have nc : ∀ k cs t fr, W.heap[k]? = some (.cells cs t fr) → some k ≠ row := fun k cs t fr hk e => by
    obtain ⟨_, o, ho, hc⟩ := hr _ e.symm
    rw [hk] at ho
    cases ho
    cases hc
  refine ⟨v, (hg.block _ (Array.getElem?_eq_some_iff.1 h1).1 (nc _ _ _ _ h1)).trans h1, own_block h2 (fun g hg' => ?_), h3.grown hg h3.size (fun k e => Nat.le_trans hB (hr k e).1), fun p x hz hp hv => cell_kept (h4 p x hz hp hv) hg (fun r' e => ⟨_, (hr r' e).2.choose_spec⟩), Nat.le_trans h5 hg.size, (hg.block _ (Array.getElem?_eq_some_iff.1 h6).1 (nc _ _ _ _ h6)).trans h6⟩
  obtain ⟨cur, hcur⟩ := own_tag h2 hg'
  exact hg.block g (Array.getElem?_eq_some_iff.1 hcur).1 (nc _ _ _ _ hcur)
set_option maxHeartbeats 4000000 in
set_option maxRecDepth 100000 in
theorem decode16_any (ao : Option Addr) (m c : Nat) (l : List UInt8) (w : World) (hm : m ≤ 140737488355328) (hs : Src w ao m c l) :
    Calls Tryd.prog 20 #[.slice ao m c] w (SpA w (deN l) (deP l) (deE l)) := by
  obtain ⟨i0, hi, hz0, hz1, hz2⟩ := info_partsS infoS
  obtain ⟨W1, hW1⟩ : ∃ Wn, w.alloc (.cells #[.int .i64 0, .slice none 0 0] 26) = Wn := ⟨_, rfl⟩
  have b1 : Hid (Below w.heap.size w W1) := by rw [← hW1]; exact (Below.refl _ _).alloc (Nat.le_refl _) _
  have s1 : Hid (W1.heap.size = w.heap.size + 1) := by show _ = _; rw [← hW1, alloc_size]
  have g1 : Hid (W1.heap[w.heap.size]? = some (.cells #[.int .i64 0, .slice none 0 0] 26)) := by rw [← hW1]; exact heap_alloc_new w _
  have TN := keep (takeNum_any ao m c l W1 hm (hs.below b1.out))
  have HLM := hs.len
  clear hs
  cases htk : takeNum l with
  | none =>
    obtain ⟨q1, q2, q3⟩ := de_none (deS_no htk)
    rw [q1, q2, q3]
    have HTK := keep htk
    clear q1 q2 q3 htk
    go_enter Tryd.func20, Tryd.ntmps20
    go_wp2_with fail
    refine TN.out.mono ?_
    rintro e w2 (⟨n', r', v', hx, _, _⟩ | ⟨_, rfl, hb2⟩)
    · rw [HTK.out] at hx; cases hx
    have G2 : Hid (w2.heap[w.heap.size]? = some (.cells #[.int .i64 0, .slice none 0 0] 26)) := (hb2.block _ (by rw [s1.out]; omega)).trans g1.out
    have B2 := keep (b1.out.trans (hb2.mono b1.out.size))
    clear hb2 TN hW1
    have z0 : w2.cell? ⟨w.heap.size, 0, none⟩ = some (.int .i64 0) := cell_of_row _ _ _ _ _ _ G2.out
    have z1 : w2.cell? ⟨w.heap.size, 1, none⟩ = some (.slice none 0 0) := cell_of_row _ _ _ _ _ _ G2.out
    have f0 : w2.frozen? ⟨w.heap.size, 0, none⟩ = false := by simp [World.frozen?, G2.out]
    have f1 : w2.frozen? ⟨w.heap.size, 1, none⟩ = false := by simp [World.frozen?, G2.out]
    go_wp2
    have R6 := keep (set2 G2.out (.int .i64 0) (.slice none 0 0))
    refine ⟨rfl, .tuple #[.agg #[.int .i64 0, .slice none 0 0], .int .i64 2], ?_, SpA.none ((B2.out.setCell (p := ⟨w.heap.size, 0, none⟩) (Nat.le_refl _) _).setCell (p := ⟨w.heap.size, 1, none⟩) (Nat.le_refl _) _)⟩
    have r0 : ((w2.setCell ⟨w.heap.size, 0, none⟩ (.int .i64 0)).setCell ⟨w.heap.size, 1, none⟩ (.slice none 0 0)).cell? ⟨w.heap.size, 0, none⟩ = some (.int .i64 0) := cell_of_row _ _ _ _ _ _ R6.out
    have r1 : ((w2.setCell ⟨w.heap.size, 0, none⟩ (.int .i64 0)).setCell ⟨w.heap.size, 1, none⟩ (.slice none 0 0)).cell? ⟨w.heap.size, 1, none⟩ = some (.slice none 0 0) := cell_of_row _ _ _ _ _ _ R6.out
    simp [results, Tryd.f20, go_sem, loadCells, loadCellsFrom, r0, r1]
  | some x =>
    obtain ⟨N, r⟩ := x
    have hDS := deS_of htk
    have htm := takeNum_some htk
    have hrl : r.length ≤ m := by rw [← HLM, htm.2, List.length_append]; omega
    have HTK := keep htk
    have HDS := keep hDS
    clear htk htm hDS HLM
    rw [← callsIn_wide (n := 8)]
    refine callsIn_of_wp_marks Tryd.func20 rfl trivial ?_ rfl
    simp only [Tryd.ntmps20, List.size_toArray, List.length_cons, List.length_nil, Nat.reduceAdd, Nat.reduceSub, Array.replicate_succ, Array.replicate_zero, List.push_toArray, List.append_toArray, List.nil_append, List.cons_append]
    gi_wp2_with fail
    refine ⟨trivial, ?_⟩
    refine (callsIn_wide.2 TN.out).mono ?_
    rintro e w2 hT
    obtain ⟨v', rfl, hn2⟩ : ∃ v', e = .returned (.tuple #[.int .i64 (N : Int), v', .int .i64 0]) ∧ New W1 w2 v' r.length r := by
      rcases hT with ⟨n', r', v', hx, he, hn⟩ | ⟨hx, _⟩
      · rw [HTK.out] at hx; cases hx; exact ⟨v', he, hn⟩
      · rw [HTK.out] at hx; cases hx
    clear hT
    have b2 := keep hn2.2
    obtain ⟨a2, c2, rfl, hs2, _⟩ := hn2.src
    have S2 := keep hs2
    obtain ⟨M, hM⟩ : ∃ M, r.length = M := ⟨_, rfl⟩
    have HM := keep hM
    rw [hM] at S2 hrl ⊢
    have B2 := keep (b1.out.trans (b2.out.mono b1.out.size))
    have G2 : Hid (w2.heap[w.heap.size]? = some (.cells #[.int .i64 0, .slice none 0 0] 26)) := (b2.out.block _ (by rw [s1.out]; omega)).trans g1.out
    have s2 : Hid (w.heap.size < w2.heap.size) := by have h := b2.out.size; rw [s1.out] at h; show _ < _; omega
    clear hn2 hs2 TN hW1 hM
    gi_wp2_with fail
    refine ⟨trivial, ?_⟩
    obtain ⟨W3, hW3⟩ : ∃ Wn, w2.alloc (.cells #[.int .i64 (N : Int), .slice none 0 0] 26) = Wn := ⟨_, rfl⟩
    rw [hW3]
    have b23 : Hid (Below w2.heap.size w2 W3) := by rw [← hW3]; exact (Below.refl _ _).alloc (Nat.le_refl _) _
    have s3 : Hid (W3.heap.size = w2.heap.size + 1) := by show _ = _; rw [← hW3, alloc_size]
    have g3 : Hid (W3.heap[w2.heap.size]? = some (.cells #[.int .i64 (N : Int), .slice none 0 0] 26)) := by rw [← hW3]; exact heap_alloc_new w2 _
    refine (callsIn_wide.2 (chunk_any a2 M c2 W3)).mono ?_
    rintro e w4 ⟨rfl, hw4⟩
    have b34 : Hid (Below W3.heap.size W3 w4) := by rw [hw4]; exact ((Below.refl _ _).alloc (Nat.le_refl _) _).alloc (by rw [alloc_size]; omega) _
    have s4 : Hid (w4.heap.size = w2.heap.size + 3) := by show _ = _; rw [hw4, alloc_size, alloc_size, s3.out]
    have q4 : Hid (w4.cell? ⟨W3.heap.size, 0, none⟩ = some (.slice a2 M c2) ∧ w4.cell? ⟨W3.heap.size + 1, 0, none⟩ = some (.int .i64 32)) := by
      have h1 := heap_alloc_new W3 (.cells #[.slice a2 M c2] 41)
      have h2 := heap_alloc_new (W3.alloc (.cells #[.slice a2 M c2] 41)) (.cells #[.int .i64 32] 3)
      rw [alloc_size] at h2
      rw [hw4]
      exact ⟨cell_of_row _ _ _ _ _ _ ((Below.heap_alloc _ _ _ (by rw [alloc_size]; omega)).trans h1), cell_of_row _ _ _ _ _ _ h2⟩
    have g4 : Hid (w4.heap[w2.heap.size]? = some (.cells #[.int .i64 (N : Int), .slice none 0 0] 26)) := (b34.out.block _ (by rw [s3.out]; omega)).trans g3.out
    have b24 := keep (b23.out.trans (b34.out.mono b23.out.size))
    have B4 := keep (B2.out.trans (b24.out.mono B2.out.size))
    have S4 := keep (S2.out.below b24.out)
    clear hw4 hW3
    gi_wp2_with fail
    refine wpIn_rangeFunc_ownG (α := Nat) (F := Fence.wide) rfl (by decide) (gf := 59) (lb := #[.pointer (some ⟨W3.heap.size, 0, none⟩), .pointer (some ⟨W3.heap.size + 1, 0, none⟩)]) rfl trivial (enters_of Tryd.func59 (by kernel_rfl) rfl)
      (chunk_stops 7 (by decide) W3.heap.size (W3.heap.size + 1) w4.heap.size w2.heap.size a2 M c2 r ⟨by rw [s3.out, s4.out]; omega, by rw [s3.out]; omega⟩ ⟨by rw [s3.out, s4.out]; omega, by rw [s3.out]; omega⟩ (by omega) w4 q4.out.1 q4.out.2 S4.out) KpZ.t KpZ.b (Below.refl _ _) (fun _ => rfl)
      (ChI w w4 w2.heap.size N r)
      (fun _ _ _ => False)
      (ChI.own B4.out.size)
      (fun c pre W W' row h hg hr => h)
      ⟨_, g4.out, World.ownsRow_nil _ _ _ _, B4.out, fun p v _ _ hv => hv, Nat.le_refl _, (b24.out.block _ s2.out).trans G2.out⟩
      (fun x => { tmps := #[.slice ao m c, undef, .pointer (some ⟨w.heap.size, 0, none⟩), .int .i64 0, .int .i64 (N : Int), .slice a2 M c2, .int .i64 0, .pointer (some ⟨w2.heap.size, 0, none⟩), .slice (cka a2 x) (gl M x) (gl M x), .tuple #[.int .i64 (N : Int), .slice a2 M c2, .int .i64 0], .slice ao m c, .tuple #[.int .i64 (N : Int), .slice a2 M c2, .int .i64 0], .int .i64 (N : Int), .slice a2 M c2, .int .i64 0, .int .i64 0, .bool false, undef, .int .i64 (N : Int), .agg #[.int .i64 (N : Int), .slice none 0 0], .slice a2 M c2, .func (.func 59) #[] #[.pointer (some ⟨W3.heap.size, 0, none⟩), .pointer (some ⟨W3.heap.size + 1, 0, none⟩)], .slice (cka a2 x) (gl M x) (gl M x), undef, undef, undef, undef, undef, undef, undef, undef, undef, undef, undef, undef], defers := [] }) ?assign ?body ?done ?stop
    case assign =>
      intro l x W K hK
      gi_wp2
      exact hK
    case body =>
      rintro l pre x W ⟨v, hx, ho, hb, hk, hz, h6⟩ hlen
      have H6 := keep h6
      have HX := keep hx
      have HO := keep ho
      have HB := keep hb
      have HK := keep hk
      have HZ := keep hz
      have hpl : pre.length < 8796093022208 := by
        unfold cnt at hlen
        omega
      have c0 : W.cell? ⟨w2.heap.size, 1, none⟩ = some v := cell_of_row _ _ _ _ _ _ HX.out
      have SX : Hid (Src W (cka a2 x) (gl M x) (gl M x) (chk r x)) := src_chunk S2.out b24.out HK.out x
      have CV := conv_src SX.out
      obtain ⟨Y, hY⟩ : ∃ Y, chk r x = Y := ⟨_, rfl⟩
      have HY := keep hY
      rw [hY] at CV
      obtain ⟨av, cv, rfl⟩ := own_is HO.out
      have OA : Hid ((W.alloc (.cells #[.string ⟨Y.toArray⟩] 9)).ownsRow w4.heap.size 9 1 (.slice av pre.length cv) pre.length (rv strKind (pre.map (chk r)))) := own_next HO.out ((Below.refl _ _).alloc (Nat.le_refl _) _)
      have XA : Hid ((W.alloc (.cells #[.string ⟨Y.toArray⟩] 9)).heap[w2.heap.size]? = some (.cells #[.int .i64 (N : Int), .slice av pre.length cv] 26)) := (Below.heap_alloc _ _ _ (Array.getElem?_eq_some_iff.1 HX.out).1).trans HX.out
      clear hx ho hb hk hz hY h6
      gi_wp2_with (gi_at_builtin; go_loud (refine wpListIn_append_own _ rfl _ _ 22 rfl w4.heap.size 9 i0 (.string ⟨#[]⟩) 1 16 Tryd.underlying22 hi hz0 hz1 hz2 rfl (by decide) _ pre.length _ rfl OA.out ⟨W.heap.size, 0, none⟩ 1 1 [.string ⟨Y.toArray⟩] rfl rfl (cell_one_new _ _ _) (by simp [Value.oneCell']) (by unfold maxLen; omega) (by omega) (by have := HZ.out; rw [alloc_size]; omega) ?_); intro v' w3 hown' hg3 hnil3; go_loud (obtain ⟨g', cap', rfl, _⟩ := own_form' hown'); have G3 := keep hg3; have O3 := keep hown'; go_loud (have X3 := keep (body_row XA.out HO.out hg3 (by rw [s4.out]; omega))); go_loud (have hc3 : w3.cell? ⟨w2.heap.size, 1, none⟩ = some (.slice av pre.length cv) := cell_of_row _ _ _ _ _ _ X3.out); go_loud (have hf3 := row_frozen X3.out 1); clear hown' hg3 hnil3)
      have bel : Hid (Below w.heap.size w w3) := ((HB.out.alloc HB.out.size (.cells #[.string ⟨Y.toArray⟩] 9))).grown G3.out (by rw [alloc_size]; have := HB.out.size; omega) (fun j hj => by have := (HO.out.lt j hj).1; have := B4.out.size; omega)
      refine ⟨keeps_app HO.out G3.out HX.out, kpz_app HO.out G3.out, .slice (some ⟨g', 0, none⟩) (pre.length + 1) cap', ?_, ?_, bel.out.setCell (p := ⟨w2.heap.size, 1, none⟩) B2.out.size _, HK.out.t (kpz_app HO.out G3.out), ?_, ?_⟩
      · have := put_row X3.out 1 (.slice (some ⟨g', 0, none⟩) (pre.length + 1) cap')
        simpa using this
      · rw [List.map_append, rv_append, List.length_append]
        simp only [List.map_cons, List.map_nil, HY.out]
        exact own_set O3.out (by rw [s4.out]; omega) _ _
      · have h1 := G3.out.size
        have h2 := HZ.out
        rw [alloc_size] at h1
        rw [World.size_setCell]
        omega
      · rw [set_far _ _ (by have := s2.out; omega)]
        exact body_row ((Below.heap_alloc _ _ _ (Array.getElem?_eq_some_iff.1 H6.out).1).trans H6.out) HO.out G3.out (by have := s2.out; rw [s4.out]; omega)
    case done =>
      rintro D ys W hD rfl ⟨v, hx, ho, hb, hk, hz, h6⟩ hK
      obtain ⟨av, cv, rfl⟩ := own_is ho
      have hpl : (List.range (cnt M)).length = cnt M := List.length_range
      have hch : (List.range (cnt M)).map (chk r) = chs r := by unfold chs; rw [HM.out]
      rw [hpl] at hx ho
      rw [hch] at ho
      have HX := keep hx
      have HO := keep ho
      have HB := keep hb
      have HKD := keep hK
      have H6 := keep h6
      have RS : Hid (RSrc strKind W av (cnt M) cv (chs r)) := by
        obtain ⟨ao', c', e2, hr, _⟩ := RSrc.own strKind_ok ho (fun _ _ => trivial)
        obtain ⟨e3, _, e5⟩ := Value.slice.inj e2
        subst e3
        subst e5
        exact hr
      have CK := keep (check16_any (N : Int) av (cnt M) cv (chs r) W RS.out (by unfold cnt; omega))
      have y0 : W.cell? ⟨w2.heap.size, 0, none⟩ = some (.int .i64 (N : Int)) := cell_of_row _ _ _ _ _ _ HX.out
      have y1 : W.cell? ⟨w2.heap.size, 1, none⟩ = some (.slice av (cnt M) cv) := cell_of_row _ _ _ _ _ _ HX.out
      have hDn : D ≠ w.heap.size := by have := s2.out; rw [s4.out] at hD; omega
      clear hx ho hb hK h6 hk hz hpl hch
      cases hc : ckS (N : Int) (chs r) with
      | false =>
        have h1 : ckN (N : Int) (chs r) = 1 := by unfold ckN; rw [hc]; rfl
        have HD : Hid (deS l = none) := by show _ = _; rw [HDS.out, hc]; rfl
        rw [h1] at CK
        clear h1 hc
        gi_wp2_with fail
        refine ⟨trivial, ?_⟩
        refine (callsIn_wide.2 CK.out).mono ?_
        rintro e w5 ⟨rfl, hb5⟩
        have b5 := keep hb5
        have H5 : Hid (w5.heap[w.heap.size]? = some (.cells #[.int .i64 0, .slice none 0 0] 26)) := (hb5.block _ (Array.getElem?_eq_some_iff.1 H6.out).1).trans H6.out
        have K5 : Hid (w5.heap[D]? = some (.deferred (some []))) := (hb5.block _ (Array.getElem?_eq_some_iff.1 HKD.out).1).trans HKD.out
        have B5 := keep (HB.out.trans (hb5.mono HB.out.size))
        have z0 : w5.cell? ⟨w.heap.size, 0, none⟩ = some (.int .i64 0) := cell_of_row _ _ _ _ _ _ H5.out
        have z1 : w5.cell? ⟨w.heap.size, 1, none⟩ = some (.slice none 0 0) := cell_of_row _ _ _ _ _ _ H5.out
        have f0 := row_frozen H5.out 0
        have f1 := row_frozen H5.out 1
        clear hb5 CK y0 y1
        gi_wp2
        have R6 := keep (set2 H5.out (.int .i64 0) (.slice none 0 0))
        have BB := keep ((B5.out.setCell (p := ⟨w.heap.size, 0, none⟩) (Nat.le_refl _) (.int .i64 0)).setCell (p := ⟨w.heap.size, 1, none⟩) (Nat.le_refl _) (.slice none 0 0))
        refine leaves_marks (B := w.heap.size) [D] _ ⟨by simp, fun x hx => ?_, fun x hx => ?_⟩ (fun W' hs => ⟨.tuple #[.agg #[.int .i64 0, .slice none 0 0], .int .i64 2], ?_, ?_⟩)
        · rw [List.mem_singleton.1 hx]; have := s2.out; rw [s4.out] at hD; omega
        · rw [List.mem_singleton.1 hx, set_far _ _ hDn, set_far _ _ hDn]; exact K5.out
        · have hr := hs.block _ _ R6.out (.inr rfl)
          have r0 : W'.cell? ⟨w.heap.size, 0, none⟩ = some (.int .i64 0) := cell_of_row _ _ _ _ _ _ hr
          have r1 : W'.cell? ⟨w.heap.size, 1, none⟩ = some (.slice none 0 0) := cell_of_row _ _ _ _ _ _ hr
          simp [results, Tryd.f20, go_sem, loadCells, loadCellsFrom, r0, r1]
        · obtain ⟨q1, q2, q3⟩ := de_none HD.out
          rw [q1, q2, q3]
          exact SpA.none (BB.out.trans (hs.below BB.out.size))
      | true =>
        have h1 : ckN (N : Int) (chs r) = 0 := by unfold ckN; rw [hc]; rfl
        have HD : Hid (deS l = some (N, chs r)) := by show _ = _; rw [HDS.out, hc]; rfl
        rw [h1] at CK
        clear h1 hc
        gi_wp2_with fail
        refine ⟨trivial, ?_⟩
        refine (callsIn_wide.2 CK.out).mono ?_
        rintro e w5 ⟨rfl, hb5⟩
        have b5 := keep hb5
        have H5 : Hid (w5.heap[w.heap.size]? = some (.cells #[.int .i64 0, .slice none 0 0] 26)) := (hb5.block _ (Array.getElem?_eq_some_iff.1 H6.out).1).trans H6.out
        have K5 : Hid (w5.heap[D]? = some (.deferred (some []))) := (hb5.block _ (Array.getElem?_eq_some_iff.1 HKD.out).1).trans HKD.out
        have B5 := keep (HB.out.trans (hb5.mono HB.out.size))
        have O5 := keep (own_next HO.out hb5)
        have z0 : w5.cell? ⟨w.heap.size, 0, none⟩ = some (.int .i64 0) := cell_of_row _ _ _ _ _ _ H5.out
        have z1 : w5.cell? ⟨w.heap.size, 1, none⟩ = some (.slice none 0 0) := cell_of_row _ _ _ _ _ _ H5.out
        have f0 := row_frozen H5.out 0
        have f1 := row_frozen H5.out 1
        have x0 := below_cell hb5 y0
        have x1 := below_cell hb5 y1
        clear hb5 CK y0 y1
        gi_wp2
        have R6 := keep (set2 H5.out (.int .i64 (N : Int)) (.slice av (cnt M) cv))
        have BB := keep ((B5.out.setCell (p := ⟨w.heap.size, 0, none⟩) (Nat.le_refl _) (.int .i64 (N : Int))).setCell (p := ⟨w.heap.size, 1, none⟩) (Nat.le_refl _) (.slice av (cnt M) cv))
        have hlz : w.heap.size < w4.heap.size := by have := s2.out; rw [s4.out]; omega
        have OO := keep (own_set (own_set O5.out hlz 0 (.int .i64 (N : Int))) hlz 1 (.slice av (cnt M) cv))
        refine leaves_marks (B := w.heap.size) [D] _ ⟨by simp, fun x hx => ?_, fun x hx => ?_⟩ (fun W' hs => ⟨.tuple #[.agg #[.int .i64 (N : Int), .slice av (cnt M) cv], .int .i64 0], ?_, ?_⟩)
        · rw [List.mem_singleton.1 hx]; have := s2.out; rw [s4.out] at hD; omega
        · rw [List.mem_singleton.1 hx, set_far _ _ hDn, set_far _ _ hDn]; exact K5.out
        · have hr := hs.block _ _ R6.out (.inr rfl)
          have r0 : W'.cell? ⟨w.heap.size, 0, none⟩ = some (.int .i64 (N : Int)) := cell_of_row _ _ _ _ _ _ hr
          have r1 : W'.cell? ⟨w.heap.size, 1, none⟩ = some (.slice av (cnt M) cv) := cell_of_row _ _ _ _ _ _ hr
          simp [results, Tryd.f20, go_sem, loadCells, loadCellsFrom, r0, r1]
        · obtain ⟨q1, q2, q3⟩ := de_some HD.out
          rw [q1, q2, q3]
          refine ⟨_, rfl, ?_, BB.out.trans (hs.below BB.out.size)⟩
          rw [chs_len, HM.out]
          exact own_low (hs.own OO.out) (Nat.le_of_lt hlz)
    case stop =>
      rintro D c pre W hD _ h hK
      exact h.elim
end Go.Proofs.YtkepjjkiajkdmaaDoor
namespace Go.Proofs.YtkepjjkiajkdmaaDoor
open Go.RowKit

theorem flat_chunks (r : List UInt8) : ∀ k, ((List.range k).map (chk r)).flatten = r.take (32 * k)
  | 0 => by simp
  | k + 1 => by
    rw [List.range_succ, List.map_append, List.flatten_append, flat_chunks r k]
    simp only [List.map_cons, List.map_nil, List.flatten_cons, List.flatten_nil, List.append_nil]
    unfold chk
    rw [show 32 * (k + 1) = 32 * k + 32 by omega, List.take_add]
theorem chs_flat (r : List UInt8) : (chs r).flatten = r := by
  unfold chs
  rw [flat_chunks, List.take_of_length_le (by unfold cnt; omega)]
theorem flat_len32 : ∀ {ps : List (List UInt8)}, (∀ e ∈ ps, e.length = 32) → ps.flatten.length = 32 * ps.length
  | [], _ => rfl
  | a :: t, h => by
    rw [List.flatten_cons, List.length_append, h a (by simp), flat_len32 (fun e he => h e (by simp [he])), List.length_cons]
    omega
theorem chk_flat : ∀ {ps : List (List UInt8)}, (∀ e ∈ ps, e.length = 32) → ∀ (k : Nat) (t : List UInt8) (s : List UInt8), ps[k]? = some s → chk (ps.flatten ++ t) k = s
  | a :: ps, h, 0, t, s, hs => by
    simp only [List.getElem?_cons_zero, Option.some.injEq] at hs
    subst hs
    unfold chk
    rw [Nat.mul_zero, List.drop_zero, List.flatten_cons, List.append_assoc, List.take_left' (h a (by simp))]
  | a :: ps, h, k + 1, t, s, hs => by
    simp only [List.getElem?_cons_succ] at hs
    have := chk_flat (fun e he => h e (by simp [he])) k t s hs
    unfold chk at this ⊢
    rw [List.flatten_cons, List.append_assoc, show 32 * (k + 1) = 32 + 32 * k by omega, ← List.drop_drop, List.drop_left' (h a (by simp))]
    exact this
  | [], _, _, _, _, hs => by simp at hs
theorem chs_of {ps : List (List UInt8)} (h : ∀ e ∈ ps, e.length = 32) : chs ps.flatten = ps := by
  apply List.ext_getElem?
  intro k
  have hl := flat_len32 h
  have hc : cnt ps.flatten.length = ps.length := by rw [hl]; unfold cnt; omega
  unfold chs
  rw [hc, List.getElem?_map]
  rcases Nat.lt_or_ge k ps.length with hk | hk
  · have hs := List.getElem?_eq_getElem hk
    have := chk_flat h k [] _ hs
    rw [List.append_nil] at this
    rw [List.getElem?_range hk, hs, Option.map_some, this]
  · rw [List.getElem?_eq_none (by simpa using hk), List.getElem?_eq_none hk]
    rfl
theorem cl_of {N : Nat} (h : N ≤ 1099511627776) : cl (N : Int) = N := by unfold cl; omega
/-- Decoded, then encoded. -/
theorem back_en {l : List UInt8} {N : Nat} {ps : List (List UInt8)} (h : deS l = some (N, ps)) : enL (N : Int) ps = l ∧ ckN (N : Int) ps = 0 ∧ ps.length ≤ 1099511627776 := by
  cases ht : takeNum l with
  | none => rw [deS_no ht] at h; cases h
  | some x =>
    obtain ⟨M, r⟩ := x
    rw [deS_of ht] at h
    cases hc : ckS (M : Int) (chs r) with
    | false => rw [hc] at h; cases h
    | true =>
      rw [hc, if_pos rfl] at h
      cases h
      obtain ⟨_, h2, h3, _⟩ := ckS_parts hc
      have h4 := ones_le N
      rw [Int.toNat_natCast] at h3
      refine ⟨?_, by unfold ckN; rw [hc]; rfl, by omega⟩
      unfold enL
      rw [hc, if_pos rfl, cl_of (by omega), chs_flat, ← (takeNum_some ht).2]
/-- Encoded, then decoded; gone on. -/
theorem back_de {n : Int} {ps : List (List UInt8)} (h : ckS n ps = true) : deS (enL n ps) = some (n.toNat, ps) ∧ deS (enL n ps ++ [0]) = none ∧ (enL n ps).length ≤ 9 + 32 * 1099511627776 := by
  obtain ⟨h1, h2, h3, h4⟩ := ckS_parts h
  obtain ⟨N, rfl⟩ : ∃ N : Nat, n = (N : Int) := ⟨n.toNat, by omega⟩
  rw [Int.toNat_natCast] at h3 ⊢
  have h5 := wholeL_mem h4
  have h6 := ones_le N
  have e : enL (N : Int) ps = num N ++ ps.flatten := by unfold enL; rw [h, if_pos rfl, cl_of (by omega)]
  have hl := flat_len32 h5
  rw [e]
  refine ⟨?_, ?_, ?_⟩
  · rw [deS_of (takeNum_put (by omega)), chs_of h5, h, if_pos rfl]
  · rw [List.append_assoc, deS_of (takeNum_put (by omega))]
    have hno : ckS (N : Int) (chs (ps.flatten ++ [0])) = false := by
      rw [Bool.eq_false_iff]
      intro hh
      obtain ⟨_, _, q3, _⟩ := ckS_parts hh
      rw [chs_len, Int.toNat_natCast, List.length_append, hl, ← h3] at q3
      simp only [List.length_cons, List.length_nil] at q3
      unfold cnt at q3
      omega
    rw [hno]
    rfl
  · have h9 := num9 (N : Int)
    rw [cl_of (by omega)] at h9
    rw [List.length_append, hl]
    omega
end Go.Proofs.YtkepjjkiajkdmaaDoor
