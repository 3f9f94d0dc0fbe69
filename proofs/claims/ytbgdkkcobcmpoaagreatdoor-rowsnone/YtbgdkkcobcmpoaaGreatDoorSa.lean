/- Entries and lists of entries in order, over plain lists; no walk. -/
import Derived.Test.YtbgdkkcobcmpoaaGreatDoorJoinMp
namespace Go.Proofs.YtbgdkkcobcmpoaaGreatDoor.Sk
open Go.Proofs.YtbgdkkcobcmpoaaGreatDoor

/-- An entry. -/
structure Ent where
  key : List UInt8
  seq : Int
  gone : Bool
  val : List UInt8
/-- An entry, and how high it is. -/
structure Node where
  e : Ent
  h : Nat
def may (e : Ent) : Bool := decide (1 ≤ e.key.length) && decide (e.key.length ≤ 64) && decide (0 ≤ e.seq) && decide (e.seq ≤ 1099511627776) && decide (e.val.length ≤ 1024) && !(e.gone && decide (0 < e.val.length))
/-- Does an entry go ahead of the place of a key and a number? -/
def aheadOf (k : List UInt8) (s : Int) (e : Ent) : Bool := if e.key = k then decide (s < e.seq) else less e.key k
/-- One goes ahead of the other. -/
def Goes (a b : Ent) : Prop := aheadOf b.key b.seq a = true
theorem goes_trans {a b : Ent} {k : List UInt8} {s : Int} (h : Goes a b) (h2 : aheadOf k s b = true) : aheadOf k s a = true := by
  unfold Goes aheadOf at h
  unfold aheadOf at h2 ⊢
  split at h
  · rename_i e1
    rw [e1]
    split at h2
    · rename_i e2
      rw [if_pos e2]
      simp only [decide_eq_true_eq] at h h2 ⊢
      omega
    · rename_i e2
      rw [if_neg e2]
      exact h2
  · rename_i e1
    split at h2
    · rename_i e2
      rw [← e2, if_neg e1]
      exact h
    · rename_i e2
      have h3 := less_trans h h2
      rw [if_neg (fun e => by rw [e, less_irrefl] at h3; cases h3)]
      exact h3
theorem goes_irrefl (a : Ent) : ¬ Goes a a := by unfold Goes aheadOf; simp
/-- In order, no two of one key and number. -/
def Up : List Ent → Prop
  | [] => True
  | a :: l => (∀ b ∈ l, Goes a b) ∧ Up l
/-- The first k entries are told, and no others. -/
def Cut (P : Ent → Bool) (l : List Ent) (k : Nat) : Prop := k ≤ l.length ∧ ∀ i e, l[i]? = some e → (P e = true ↔ i < k)
def count (P : Ent → Bool) : List Ent → Nat
  | [] => 0
  | a :: l => if P a then count P l + 1 else 0
theorem cut_count {P : Ent → Bool} (hP : ∀ a b, Goes a b → P b = true → P a = true) : ∀ {l : List Ent}, Up l → Cut P l (count P l)
  | [], _ => ⟨Nat.le_refl _, fun i e h => by simp at h⟩
  | a :: l, hu => by
    have ih := cut_count hP hu.2
    simp only [count]
    split
    · rename_i ha
      refine ⟨by rw [List.length_cons]; exact Nat.succ_le_succ ih.1, fun i e h => ?_⟩
      cases i with
      | zero =>
        simp only [List.getElem?_cons_zero, Option.some.injEq] at h
        subst h
        simp [ha]
      | succ i =>
        simp only [List.getElem?_cons_succ] at h
        rw [ih.2 i e h]
        omega
    · rename_i ha
      refine ⟨Nat.zero_le _, fun i e h => ⟨fun he => ?_, fun h => absurd h (Nat.not_lt_zero _)⟩⟩
      cases i with
      | zero =>
        simp only [List.getElem?_cons_zero, Option.some.injEq] at h
        subst h
        exact absurd he ha
      | succ i =>
        simp only [List.getElem?_cons_succ] at h
        exact absurd (hP a e (hu.1 e (List.mem_of_getElem? h)) he) ha
theorem ahead_down (k : List UInt8) (s : Int) (a b : Ent) (h : Goes a b) (hb : aheadOf k s b = true) : aheadOf k s a = true := goes_trans h hb
theorem from_down (k : List UInt8) (a b : Ent) (h : Goes a b) (hb : less b.key k = true) : less a.key k = true := by
  unfold Goes aheadOf at h
  split at h
  · rename_i e; rw [e]; exact hb
  · exact less_trans h hb
end Go.Proofs.YtbgdkkcobcmpoaaGreatDoor.Sk
