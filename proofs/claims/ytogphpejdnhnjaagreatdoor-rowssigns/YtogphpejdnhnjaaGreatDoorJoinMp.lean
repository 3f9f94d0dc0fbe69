/- Less, beginnings, what is next, over plain lists of bytes; no walk. -/
/- Maps by texts, of any program, whatever their elements: as rising lists of a name and a value; look-up, store, delete, how many; no walk. -/
import Derived.Test.YtogphpejdnhnjaaGreatDoorL
import Derived.Maps.Own
import Derived.Maps.OwnSet
import Derived.Maps.Keyed
import Derived.Maps.Views
namespace Go.Proofs.YtogphpejdnhnjaaGreatDoor

/-- The first byte in which they are not alike is less in the first. -/
def less : List UInt8 → List UInt8 → Bool
  | _, [] => false
  | [], _ :: _ => true
  | a :: x, b :: y => decide (a < b) || (a == b && less x y)

theorem less_cons {a b : UInt8} {x y : List UInt8} : less (a :: x) (b :: y) = true ↔ a.toNat < b.toNat ∨ a = b ∧ less x y = true := by
  simp [less, UInt8.lt_iff_toNat_lt]
theorem less_irrefl : ∀ x : List UInt8, less x x = false
  | [] => rfl
  | a :: x => by
    rw [Bool.eq_false_iff]
    intro h
    rcases less_cons.1 h with h | ⟨_, h⟩
    · omega
    · rw [less_irrefl x] at h; cases h
theorem less_trans : ∀ {x y z : List UInt8}, less x y = true → less y z = true → less x z = true
  | _, [], _, h, _ => by simp [less] at h
  | _, _ :: _, [], _, h => by simp [less] at h
  | [], _ :: _, _ :: _, _, _ => rfl
  | a :: x, b :: y, c :: z, h1, h2 => by
    rcases less_cons.1 h1 with g1 | ⟨rfl, g1⟩
    · rcases less_cons.1 h2 with g2 | ⟨rfl, _⟩
      · exact less_cons.2 (.inl (by omega))
      · exact less_cons.2 (.inl g1)
    · rcases less_cons.1 h2 with g2 | ⟨rfl, g2⟩
      · exact less_cons.2 (.inl g2)
      · exact less_cons.2 (.inr ⟨rfl, less_trans g1 g2⟩)
theorem less_asymm {x y : List UInt8} (h : less x y = true) : less y x = false := by
  rw [Bool.eq_false_iff]
  intro h2
  have := less_trans h h2
  rw [less_irrefl] at this
  cases this
theorem less_total : ∀ {x y : List UInt8}, less x y = false → less y x = false → x = y
  | [], [], _, _ => rfl
  | [], _ :: _, h, _ => by simp [less] at h
  | _ :: _, [], _, h => by simp [less] at h
  | a :: x, b :: y, h1, h2 => by
    rw [Bool.eq_false_iff] at h1 h2
    have n1 : ¬ a.toNat < b.toNat := fun h => h1 (less_cons.2 (.inl h))
    have n2 : ¬ b.toNat < a.toNat := fun h => h2 (less_cons.2 (.inl h))
    have e : a = b := UInt8.toNat_inj.1 (by omega)
    subst e
    rw [less_total (x := x) (y := y) (by rw [Bool.eq_false_iff]; exact fun h => h1 (less_cons.2 (.inr ⟨rfl, h⟩))) (by rw [Bool.eq_false_iff]; exact fun h => h2 (less_cons.2 (.inr ⟨rfl, h⟩)))]
theorem less_or (x y : List UInt8) : (less x y || less y x) = !decide (x = y) := by
  by_cases h : x = y
  · subst h; simp [less_irrefl]
  · rw [decide_eq_false h]
    cases h1 : less x y with
    | true => rfl
    | false =>
      cases h2 : less y x with
      | true => rfl
      | false => exact absurd (less_total h1 h2) h
/-- Behind the same beginning. -/
theorem less_pre : ∀ (p x y : List UInt8), less (p ++ x) (p ++ y) = less x y
  | [], _, _ => rfl
  | c :: p, x, y => by simp [less, less_pre p x y]
theorem less_more (p : List UInt8) (c : UInt8) (t : List UInt8) : less p (p ++ c :: t) = true := by
  have := less_pre p [] (c :: t)
  rw [List.append_nil] at this
  rw [this]
  rfl
theorem less_begin (p t : List UInt8) : less (p ++ t) p = false := by
  have := less_pre p t []
  rw [List.append_nil] at this
  rw [this]
  cases t <;> rfl
/-- At the first byte that is not alike. -/
theorem less_at (p : List UInt8) {a b : UInt8} (x y : List UInt8) (h : a ≠ b) : less (p ++ a :: x) (p ++ b :: y) = decide (a < b) := by
  rw [less_pre]
  simp [less, h]

/-- What is next to all that begin with a prefix; nothing, if there is none. -/
def next : List UInt8 → List UInt8
  | [] => []
  | c :: t => if next t = [] then (if c = 255 then [] else [c + 1]) else c :: next t

theorem next_ff (k : Nat) : next (List.replicate k 255) = [] := by
  induction k with
  | zero => rfl
  | succ k ih => simp [List.replicate_succ, next, ih]
theorem next_last (c : UInt8) (k : Nat) (h : c ≠ 255) : next (c :: List.replicate k 255) = [c + 1] := by
  simp [next, next_ff, h]
theorem next_pre (q : List UInt8) (t : List UInt8) (h : next t ≠ []) : next (q ++ t) = q ++ next t := by
  induction q with
  | nil => rfl
  | cons c q ih =>
    have : next (q ++ t) ≠ [] := by rw [ih]; intro e; exact h (List.append_eq_nil_iff.1 e).2
    simp [next, this]
    exact ih
/-- A prefix without the bytes 255 at its end, its last byte one more. -/
theorem next_shape (q : List UInt8) (c : UInt8) (k : Nat) (h : c ≠ 255) : next (q ++ c :: List.replicate k 255) = q ++ [c + 1] := by
  rw [next_pre q _ (by rw [next_last c k h]; simp), next_last c k h]
theorem next_nil : ∀ {p : List UInt8}, next p = [] → p = List.replicate p.length 255
  | [], _ => rfl
  | c :: t, h => by
    simp only [next] at h
    split at h
    · rename_i ht
      split at h
      · rename_i hc
        rw [List.length_cons, List.replicate_succ, ← next_nil ht, hc]
      · simp at h
    · simp at h
theorem succ_toNat {c : UInt8} (h : c ≠ 255) : (c + 1).toNat = c.toNat + 1 := by
  have h1 := c.toNat_lt
  have h2 : c.toNat ≠ 255 := fun e => h (UInt8.toNat_inj.1 (by rw [e]; rfl))
  rw [UInt8.toNat_add]
  have e : (1 : UInt8).toNat = 1 := rfl
  rw [e]
  omega
/-- What is not less than a prefix, and less than what is next, begins with it; and all that does is so. -/
theorem next_spec : ∀ (p k : List UInt8), (less k p = false ∧ (next p = [] ∨ less k (next p) = true)) ↔ p <+: k
  | [], k => by simp [less, next]
  | c :: t, [] => by simp [less]
  | c :: t, d :: s => by
    have ih := next_spec t s
    rw [List.cons_prefix_cons]
    rcases Nat.lt_trichotomy d.toNat c.toNat with h | h | h
    · have h1 : less (d :: s) (c :: t) = true := less_cons.2 (.inl h)
      have h2 : ¬ c = d := fun e => by rw [e] at h; omega
      simp [h1, h2]
    · have e : d = c := UInt8.toNat_inj.1 h
      subst e
      have h1 : less (d :: s) (d :: t) = less s t := by simp [less]
      rw [h1]
      by_cases hn : next t = []
      · have ih' : less s t = false ↔ t <+: s := by rw [← ih]; simp [hn]
        by_cases hc : d = 255
        · have e2 : next (d :: t) = [] := by simp [next, hn, hc]
          rw [e2]
          simp [ih']
        · have e2 : next (d :: t) = [d + 1] := by simp [next, hn, hc]
          have e3 : less (d :: s) [d + 1] = true := less_cons.2 (.inl (by rw [succ_toNat hc]; omega))
          rw [e2, e3]
          simp [ih']
      · have e2 : next (d :: t) = d :: next t := by simp [next, hn]
        have e3 : less (d :: s) (d :: next t) = less s (next t) := by simp [less]
        rw [e2, e3]
        have ih' : (less s t = false ∧ less s (next t) = true) ↔ t <+: s := by rw [← ih]; simp [hn]
        simpa using ih'
    · have h1 : less (d :: s) (c :: t) = false := by
        rw [Bool.eq_false_iff]
        intro e
        rcases less_cons.1 e with e | ⟨rfl, _⟩ <;> omega
      have h2 : ¬ c = d := fun e => by rw [e] at h; omega
      rw [h1]
      simp only [true_and, h2, false_and, iff_false]
      rintro (e | e)
      · simp only [next] at e
        split at e
        · split at e
          · rename_i hc
            have := d.toNat_lt
            rw [hc] at h
            have e5 : (255 : UInt8).toNat = 255 := rfl
            omega
          · simp at e
        · simp at e
      · simp only [next] at e
        split at e
        · split at e
          · simp [less] at e
          · rename_i hc
            rcases less_cons.1 e with e | ⟨_, e⟩
            · rw [succ_toNat hc] at e; omega
            · simp [less] at e
        · rcases less_cons.1 e with e | ⟨e, _⟩
          · omega
          · exact h2 e.symm
end Go.Proofs.YtogphpejdnhnjaaGreatDoor
namespace Go.Proofs.YtogphpejdnhnjaaGreatDoor
open Go.RowKit

/-- An element reads as itself. -/
def asIs (v : Value) : Option (DataW Value × List MemPlace) := some (.held v, [])
abbrev Named := List UInt8 × Value
def told (l : List Named) : List (Lit × DataW Value) := l.map fun x => (.string x.1, .held x.2)
def Up : List Named → Prop
  | [] => True
  | x :: t => (∀ y ∈ t, less x.1 y.1 = true) ∧ Up t
def lay : List Named → List UInt8 → Value → List Named
  | [], n, v => [(n, v)]
  | x :: t, n, v => if less x.1 n then x :: lay t n v else if x.1 = n then (n, v) :: t else (n, v) :: x :: t
def strike : List Named → List UInt8 → List Named
  | [], _ => []
  | x :: t, n => if x.1 = n then strike t n else x :: strike t n
def seek : List Named → List UInt8 → Option Value
  | [], _ => none
  | x :: t, n => if x.1 = n then some x.2 else seek t n

theorem before_less : ∀ a b : List UInt8, bytesBefore a b = less a b
  | _, [] => by cases ‹List UInt8› <;> rfl
  | [], _ :: _ => rfl
  | a :: x, b :: y => by
    have ih := before_less x y
    simp only [bytesBefore, less, ih]
theorem lay_up {l : List Named} (n : List UInt8) (v : Value) (h : Up l) : Up (lay l n v) ∧ ∀ y ∈ lay l n v, y.1 = n ∨ y ∈ l := by
  induction l with
  | nil => exact ⟨⟨fun _ h => (by cases h), trivial⟩, fun y hy => by simp [lay] at hy; exact .inl (by rw [hy])⟩
  | cons x t ih =>
    obtain ⟨h1, h2⟩ := h
    obtain ⟨i1, i2⟩ := ih h2
    simp only [lay]
    split
    · rename_i hx
      refine ⟨⟨fun y hy => ?_, i1⟩, fun y hy => ?_⟩
      · rcases i2 y hy with e | e
        · rw [e]; exact hx
        · exact h1 y e
      · rcases List.mem_cons.1 hy with rfl | hy
        · exact .inr (by simp)
        · rcases i2 y hy with e | e
          · exact .inl e
          · exact .inr (by simp [e])
    · split
      · rename_i hx he
        refine ⟨⟨fun y hy => by rw [← he]; exact h1 y hy, h2⟩, fun y hy => ?_⟩
        rcases List.mem_cons.1 hy with rfl | hy
        · exact .inl rfl
        · exact .inr (by simp [hy])
      · rename_i hx he
        have hlt : less n x.1 = true := by
          cases hh : less n x.1 with
          | true => rfl
          | false => exact absurd (less_total (by simpa using hx) hh) he
        refine ⟨⟨fun y hy => ?_, h1, h2⟩, fun y hy => ?_⟩
        · rcases List.mem_cons.1 hy with rfl | hy
          · exact hlt
          · exact less_trans hlt (h1 y hy)
        · rcases List.mem_cons.1 hy with rfl | hy
          · exact .inl rfl
          · exact .inr hy
theorem strike_mem {l : List Named} {n : List UInt8} {y : Named} (h : y ∈ strike l n) : y ∈ l ∧ y.1 ≠ n := by
  induction l with
  | nil => cases h
  | cons x t ih =>
    simp only [strike] at h
    split at h
    · exact ⟨by simp [(ih h).1], (ih h).2⟩
    · rename_i hx
      rcases List.mem_cons.1 h with rfl | h
      · exact ⟨by simp, hx⟩
      · exact ⟨by simp [(ih h).1], (ih h).2⟩
theorem strike_up {l : List Named} (n : List UInt8) (h : Up l) : Up (strike l n) := by
  induction l with
  | nil => trivial
  | cons x t ih =>
    simp only [strike]
    split
    · exact ih h.2
    · exact ⟨fun y hy => h.1 y (strike_mem hy).1, ih h.2⟩
theorem told_strike (l : List Named) (n : List UInt8) : told (strike l n) = (told l).filter fun p => !p.1.sameKey (.string n) := by
  induction l with
  | nil => rfl
  | cons x t ih =>
    simp only [strike]
    split
    · rename_i hx
      rw [ih]
      simp [told, Lit.sameKey, hx]
    · rename_i hx
      have : ((x.1 == n) = false) := by simpa using hx
      simp only [told, List.map_cons, List.filter_cons, Lit.sameKey, this] at ih ⊢
      rw [ih]
      rfl
theorem strike_all {l : List Named} {n : List UInt8} (h : ∀ y ∈ l, y.1 ≠ n) : strike l n = l := by
  induction l with
  | nil => rfl
  | cons x t ih =>
    simp only [strike]
    rw [if_neg (h x (by simp)), ih (fun y hy => h y (by simp [hy]))]
theorem insert_first {l : List Named} {n : List UInt8} {v : Value} (h : ∀ y ∈ l, less n y.1 = true) : DataW.insert (.string n, .held v) (told l) = told ((n, v) :: l) := by
  cases l with
  | nil => rfl
  | cons x t =>
    have hb : (Lit.string n).before (Lit.string x.1) = true := by
      show bytesBefore n x.1 = true
      rw [before_less]
      exact h x (by simp)
    exact if_pos hb
theorem told_lay {l : List Named} (n : List UInt8) (v : Value) (h : Up l) : told (lay l n v) = DataW.insert (.string n, .held v) ((told l).filter fun p => !p.1.sameKey (.string n)) := by
  rw [← told_strike]
  induction l with
  | nil => rfl
  | cons x t ih =>
    simp only [lay, strike]
    split
    · rename_i hx
      have hne : ¬ x.1 = n := fun e => by rw [e, less_irrefl] at hx; cases hx
      rw [if_neg hne]
      have hb : less n x.1 = false := less_asymm hx
      show (Lit.string x.1, DataW.held x.2) :: told (lay t n v) = DataW.insert _ ((Lit.string x.1, DataW.held x.2) :: told (strike t n))
      rw [ih h.2]
      have hc : ¬ (Lit.string n).before (Lit.string x.1) = true := by
        show ¬ bytesBefore n x.1 = true
        rw [before_less, hb]
        simp
      exact (if_neg hc).symm
    · rename_i hx
      split
      · rename_i he
        have hall : ∀ y ∈ t, y.1 ≠ n := fun y hy e => by
          have := h.1 y hy
          rw [e, he, less_irrefl] at this
          cases this
        rw [strike_all hall]
        exact (insert_first (fun y hy => by rw [← he]; exact h.1 y hy)).symm
      · rename_i he
        have hlt : less n x.1 = true := by
          cases hh : less n x.1 with
          | true => rfl
          | false => exact absurd (less_total (by simpa using hx) hh) he
        have hall : ∀ y ∈ t, y.1 ≠ n := fun y hy e => by
          have := less_trans hlt (h.1 y hy)
          rw [e, less_irrefl] at this
          cases this
        rw [strike_all hall]
        exact (insert_first (l := x :: t) (fun y hy => by
          rcases List.mem_cons.1 hy with rfl | hy
          · exact hlt
          · exact less_trans hlt (h.1 y hy))).symm
theorem told_seek (l : List Named) (n : List UInt8) (z : Value) : (DataW.map (told l)).atKey (.string n) (.held z) = .held ((seek l n).getD z) := by
  induction l with
  | nil => rfl
  | cons x t ih =>
    simp only [seek, DataW.atKey, told, List.map_cons, List.find?_cons, Lit.sameKey] at ih ⊢
    by_cases hx : x.1 = n
    · simp [hx]
    · have : ((x.1 == n) = false) := by simpa using hx
      rw [this, if_neg hx]
      exact ih
theorem told_has (l : List Named) (n : List UInt8) : Maps.has (.map (told l)) (.string n) = (seek l n).isSome := by
  induction l with
  | nil => rfl
  | cons x t ih =>
    simp only [seek, Maps.has, told, List.map_cons, List.any_cons, Lit.sameKey] at ih ⊢
    by_cases hx : x.1 = n
    · simp [hx]
    · have : ((x.1 == n) = false) := by simpa using hx
      rw [this, if_neg hx, Bool.false_or]
      exact ih

/-- The map at b holds just these. -/
def MapIs (P : Program) (k : TypeId) (w : World) (b : Nat) (l : List Named) : Prop := Up l ∧ w.ownsMap P k asIs b l.length (.map (told l))
theorem owns_exact {P : Program} {k : TypeId} {w : World} {b n : Nat} {l : List Named} (h : w.ownsMap P k asIs b n (.map (told l))) : w.ownsMap P k asIs b l.length (.map (told l)) := by
  obtain ⟨es, clock, hb, F, _, hD⟩ := h
  refine ⟨es, clock, hb, F, ?_, hD⟩
  have e := DataW.map.inj hD
  have := congrArg List.length e
  rw [length_sorted] at this
  simp [told] at this
  omega
theorem MapIs.made (P : Program) (k : TypeId) (w : World) : MapIs P k (w.alloc (.map #[] 0)) w.heap.size [] := ⟨trivial, World.ownsMap_made w P k asIs⟩
theorem MapIs.lt {P : Program} {k : TypeId} {w : World} {b : Nat} {l : List Named} (h : MapIs P k w b l) : b < w.heap.size := h.2.lt
theorem MapIs.kept {P : Program} {k : TypeId} {w w' : World} {b : Nat} {l : List Named} {row : Option Nat} (h : MapIs P k w b l) (hg : w.grownBy w' row) (hne : some b ≠ row) : MapIs P k w' b l := ⟨h.1, h.2.kept hg hne⟩
theorem key_of {P : Program} {k : TypeId} (hk : P.underlying k = some .string) (n : List UInt8) (hn : n.length ≤ maxLen) : keyOf P k (.string ⟨n.toArray⟩) = some (.string n) := by
  unfold keyOf mapKey
  rw [hk]
  show (if n.toArray.size ≤ maxLen then some (Lit.string n.toArray.toList) else none) = _
  rw [if_pos (by simpa using hn)]
/-- m[n], whether it is there or not. -/
theorem MapIs.look {P : Program} {t k e : TypeId} {w : World} {b : Nat} {l : List Named} (h : MapIs P k w b l) (hk : P.underlying k = some .string) (ht : P.underlying t = some (.map k e)) {z : Value} (hz : (zeroValue e).run P w = .ok z w) (n : List UInt8) (hn : n.length ≤ maxLen) :
    (Instr.lookup t (.map (some b)) (.string ⟨n.toArray⟩) false).run P w = .ok ((seek l n).getD z) w := by
  obtain ⟨v, ps, hr, hv⟩ := h.2.lookup (Maps.string_keyed hk) ht hz (show asIs z = some (.held z, []) from rfl) (key_of hk n hn)
  rw [told_seek] at hv
  have : v = (seek l n).getD z := by
    have h1 : DataW.held v = DataW.held ((seek l n).getD z) := congrArg Prod.fst (Option.some.inj hv)
    exact DataW.held.inj h1
  rw [hr, this]
theorem MapIs.look_ok {P : Program} {t k e : TypeId} {w : World} {b : Nat} {l : List Named} (h : MapIs P k w b l) (hk : P.underlying k = some .string) (ht : P.underlying t = some (.map k e)) {z : Value} (hz : (zeroValue e).run P w = .ok z w) (n : List UInt8) (hn : n.length ≤ maxLen) :
    (Instr.lookup t (.map (some b)) (.string ⟨n.toArray⟩) true).run P w = .ok (.tuple #[(seek l n).getD z, .bool (seek l n).isSome]) w := by
  obtain ⟨v, ps, hr, hv⟩ := h.2.look_ok (Maps.string_keyed hk) ht hz (show asIs z = some (.held z, []) from rfl) (key_of hk n hn)
  rw [told_seek] at hv
  have : v = (seek l n).getD z := by
    have h1 : DataW.held v = DataW.held ((seek l n).getD z) := congrArg Prod.fst (Option.some.inj hv)
    exact DataW.held.inj h1
  rw [hr, this, told_has]
/-- m[n] = v. -/
theorem MapIs.store {P : Program} {t k e : TypeId} {w : World} {b : Nat} {l : List Named} (h : MapIs P k w b l) (hk : P.underlying k = some .string) (ht : P.underlying t = some (.map k e)) (n : List UInt8) (hn : n.length ≤ maxLen) (hl : l.length < maxLen) (v : Value) :
    ∃ w', (Instr.mapUpdate t (.map (some b)) (.string ⟨n.toArray⟩) v).run P w = .ok () w' ∧ MapIs P k w' b (lay l n v) ∧ w.grownBy w' (some b) := by
  obtain ⟨w', hr, ho, hg⟩ := h.2.update (Maps.string_keyed hk) ht hl (key_of hk n hn) (show asIs v = some (.held v, []) from rfl)
  refine ⟨w', hr, ⟨(lay_up n v h.1).1, ?_⟩, hg⟩
  have e : (DataW.map (told l)).put (.string n) (.held v) = .map (told (lay l n v)) := by rw [told_lay n v h.1]; rfl
  rw [e] at ho
  exact owns_exact ho
/-- delete(m, n). -/
theorem MapIs.gone {P : Program} {t k e : TypeId} {w : World} {b : Nat} {l : List Named} (h : MapIs P k w b l) (hk : P.underlying k = some .string) (ht : P.underlying t = some (.map k e)) (n : List UInt8) (hn : n.length ≤ maxLen) (ty : TypeId) :
    ∃ w', (Builtin.delete_ #[t, k] ty #[.map (some b), .string ⟨n.toArray⟩]).run P w = .ok (.tuple #[]) w' ∧ MapIs P k w' b (strike l n) ∧ w.mapTurned w' b := by
  obtain ⟨w', hr, ho, hg⟩ := h.2.drop (Maps.string_keyed hk) ht (key_of hk n hn) ty
  refine ⟨w', hr, ⟨strike_up n h.1, ?_⟩, hg⟩
  have e : (DataW.map (told l)).del (.string n) = .map (told (strike l n)) := by rw [told_strike]; rfl
  rw [e] at ho
  exact owns_exact ho
theorem told_size (l : List Named) : Maps.size (.map (told l)) = l.length := by simp [Maps.size, told]
end Go.Proofs.YtogphpejdnhnjaaGreatDoor
