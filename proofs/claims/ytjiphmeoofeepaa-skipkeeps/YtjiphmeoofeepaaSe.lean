/- A skip list's nodes as they lie: next ones by height; where a search stands; no walk. -/
import Derived.Test.YtjiphmeoofeepaaSd
namespace Go.Proofs.Ytjiphmeoofeepaa
open Go.RowKit
open Sk (Ent)

/-- A node: its block, its entry, how high it is. -/
structure Nd where
  g : Nat
  x : EV
  h : Nat
/-- The first one that is higher than j. -/
def nxt : List Nd → Nat → Value
  | [], _ => .pointer none
  | n :: l, j => if j < n.h then .pointer (some ⟨n.g, 0, none⟩) else nxt l j
/-- Its place, if there is one. -/
def nxtAt : List Nd → Nat → Option Nat
  | [], _ => none
  | n :: l, j => if j < n.h then some 0 else (nxtAt l j).map (· + 1)
theorem nxt_none {l : List Nd} {j : Nat} (h : nxtAt l j = none) : nxt l j = .pointer none ∧ ∀ n ∈ l, ¬ j < n.h := by
  induction l with
  | nil => exact ⟨rfl, fun n h => by cases h⟩
  | cons m l ih =>
    simp only [nxtAt] at h
    split at h
    · cases h
    · rename_i hm
      cases hx : nxtAt l j with
      | some r => rw [hx] at h; cases h
      | none =>
        obtain ⟨h1, h2⟩ := ih hx
        refine ⟨by simp only [nxt]; rw [if_neg hm]; exact h1, fun n hn => ?_⟩
        rcases List.mem_cons.1 hn with rfl | hn
        · exact hm
        · exact h2 n hn
theorem nxt_some {l : List Nd} {j r : Nat} (h : nxtAt l j = some r) : ∃ n, l[r]? = some n ∧ j < n.h ∧ nxt l j = .pointer (some ⟨n.g, 0, none⟩) ∧ ∀ i m, i < r → l[i]? = some m → ¬ j < m.h := by
  induction l generalizing r with
  | nil => cases h
  | cons m l ih =>
    simp only [nxtAt] at h
    split at h
    · rename_i hm
      cases h
      exact ⟨m, rfl, hm, by simp only [nxt]; rw [if_pos hm], fun i k hi => absurd hi (Nat.not_lt_zero _)⟩
    · rename_i hm
      cases hx : nxtAt l j with
      | none => rw [hx] at h; cases h
      | some q =>
        rw [hx] at h
        simp only [Option.map_some, Option.some.injEq] at h
        subst h
        obtain ⟨n, h1, h2, h3, h4⟩ := ih hx
        refine ⟨n, by simpa using h1, h2, by simp only [nxt]; rw [if_neg hm]; exact h3, fun i k hi hk => ?_⟩
        cases i with
        | zero =>
          simp only [List.getElem?_cons_zero, Option.some.injEq] at hk
          subst hk
          exact hm
        | succ i => exact h4 i k (by omega) (by simpa using hk)
/-- The block at place q: 0 is the head. -/
def blk (b : Nat) (ns : List Nd) : Nat → Nat
  | 0 => b
  | q + 1 => match ns[q]? with | some n => n.g | none => b
/-- At place q one may go along level j. -/
def high (ns : List Nd) (j : Nat) : Nat → Prop
  | 0 => True
  | q + 1 => ∃ n, ns[q]? = some n ∧ j < n.h
/-- The nodes in memory, behind the head in block b. -/
structure Chain (w : World) (b : Nat) (ns : List Nd) : Prop where
  head : ∀ j, j < 12 → w.cell? ⟨b, 4 + j, none⟩ = some (nxt ns j)
  links : ∀ (i : Nat) n, ns[i]? = some n → ∀ j, j < 12 → w.cell? ⟨n.g, 4 + j, none⟩ = some (if j < n.h then nxt (ns.drop (i + 1)) j else .pointer none)
  ents : ∀ n ∈ ns, (∀ (j : Nat) u, (entKind.vals n.x)[j]? = some u → w.cell? ⟨n.g, j, none⟩ = some u) ∧ entKind.held w n.x
theorem Chain.below {w w' : World} {b : Nat} {ns : List Nd} (h : Chain w b ns) (hb : Below w.heap.size w w') : Chain w' b ns :=
  ⟨fun j hj => below_cell hb (h.head j hj), fun i n hn j hj => below_cell hb (h.links i n hn j hj), fun n hn => ⟨fun j u hu => below_cell hb ((h.ents n hn).1 j u hu), entKind_ok.below (h.ents n hn).2 hb⟩⟩
theorem Chain.at_ {w : World} {b : Nat} {ns : List Nd} (h : Chain w b ns) {q j : Nat} (hq : high ns j q) (hj : j < 12) : w.cell? ⟨blk b ns q, 4 + j, none⟩ = some (nxt (ns.drop q) j) := by
  cases q with
  | zero => exact h.head j hj
  | succ q =>
    obtain ⟨n, hn, hh⟩ := hq
    have := h.links q n hn j hj
    rw [if_pos hh] at this
    simp only [blk, hn]
    exact this
/-- The last place among the first k at which one may go along level j. -/
def lastAt (ns : List Nd) (j : Nat) : Nat → Nat
  | 0 => 0
  | k + 1 => match ns[k]? with | some n => if j < n.h then k + 1 else lastAt ns j k | none => lastAt ns j k
theorem lastAt_le (ns : List Nd) (j : Nat) : ∀ k, lastAt ns j k ≤ k
  | 0 => Nat.le_refl _
  | k + 1 => by
    simp only [lastAt]
    have := lastAt_le ns j k
    split
    · split <;> omega
    · omega
theorem lastAt_high (ns : List Nd) (j : Nat) : ∀ k, high ns j (lastAt ns j k)
  | 0 => trivial
  | k + 1 => by
    simp only [lastAt]
    split
    · rename_i n hn
      split
      · rename_i hh
        exact ⟨n, hn, hh⟩
      · exact lastAt_high ns j k
    · exact lastAt_high ns j k
/-- No higher one between q and k: q is the last place. -/
theorem lastAt_eq {ns : List Nd} {j q : Nat} (hq : high ns j q) : ∀ {k : Nat}, q ≤ k → (∀ i m, q ≤ i → i < k → ns[i]? = some m → ¬ j < m.h) → lastAt ns j k = q
  | 0, h, _ => by simp only [lastAt]; omega
  | k + 1, h, hn => by
    rcases Nat.lt_or_ge q (k + 1) with h1 | h1
    · have ih := lastAt_eq hq (k := k) (by omega) (fun i m h2 h3 h4 => hn i m h2 (by omega) h4)
      simp only [lastAt]
      split
      · rename_i n hx
        rw [if_neg (hn k n (by omega) (by omega) hx)]
        exact ih
      · exact ih
    · have e : q = k + 1 := by omega
      subst e
      obtain ⟨n, h2, h3⟩ := hq
      simp only [lastAt, h2]
      rw [if_pos h3]
theorem high_less {ns : List Nd} {i j q : Nat} (h : high ns j q) (hij : i ≤ j) : high ns i q := by
  cases q with
  | zero => trivial
  | succ q =>
    obtain ⟨n, h1, h2⟩ := h
    exact ⟨n, h1, by omega⟩
end Go.Proofs.Ytjiphmeoofeepaa
