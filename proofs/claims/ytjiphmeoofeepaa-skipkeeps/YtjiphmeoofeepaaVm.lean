/- Operations as they lie; two lists side by side; what was put first or last; no walk. -/
import Derived.Test.YtjiphmeoofeepaaVl
namespace Go.Proofs.Ytjiphmeoofeepaa
open Go.RowKit
open Sk (Ent)

/-- An operation as it lies in memory. -/
structure OpS where
  what : Int
  h : Int
  n : Int
  x : EV
  tp : Option Addr
  tc : Nat
  to : List UInt8
def opsKind : Kind OpS where
  size := 8
  vals o := [.int .i64 o.what, .int .i64 o.h, .int .i64 o.n, .slice o.x.kp o.x.e.key.length o.x.kc, .int .i64 o.x.e.seq, .bool o.x.e.gone, .slice o.x.vp o.x.e.val.length o.x.vc, .slice o.tp o.to.length o.tc]
  held w o := entKind.held w o.x ∧ Src w o.tp o.to.length o.tc o.to
theorem opsKind_ok : opsKind.Ok :=
  ⟨by decide, fun _ => rfl, fun e u hu => by
    simp only [opsKind, List.mem_cons, List.not_mem_nil, or_false] at hu
    rcases hu with rfl | rfl | rfl | rfl | rfl | rfl | rfl | rfl <;> rfl, fun h hb => ⟨entKind_ok.below h.1 hb, h.2.below hb⟩⟩
theorem LMem.tag2 {B : Nat} {w : World} {b : Nat} {ns : List Nd} (h : LMem B w b ns) {g : Nat} (hg : foot b ns g) : ∃ c t, w.heap[g]? = some (.cells c t (0, 0)) ∧ t ≠ 5 ∧ t ≠ 28 := by
  rcases hg with rfl | ⟨n, hn, rfl⟩
  · obtain ⟨c, hc⟩ := h.tagB; exact ⟨c, _, hc, by decide, by decide⟩
  · obtain ⟨c, hc⟩ := h.tagN n hn; exact ⟨c, _, hc, by decide, by decide⟩
/-- No two of one key and number, each may be. -/
def Apart : List Ent → Prop
  | [] => True
  | a :: l => (∀ b ∈ l, ¬ (b.key = a.key ∧ b.seq = a.seq)) ∧ Apart l
theorem there_mem {l : List Ent} {e : Ent} : Sk.there l e = true ↔ ∃ x ∈ l, x.key = e.key ∧ x.seq = e.seq := by
  unfold Sk.there
  rw [List.any_eq_true]
  constructor
  · rintro ⟨x, h1, h2⟩; exact ⟨x, h1, of_decide_eq_true h2⟩
  · rintro ⟨x, h1, h2⟩; exact ⟨x, h1, decide_eq_true h2⟩
theorem there_false {l : List Ent} {e : Ent} (h : ∀ x ∈ l, ¬ (x.key = e.key ∧ x.seq = e.seq)) : Sk.there l e = false := by
  cases ht : Sk.there l e with
  | false => rfl
  | true => obtain ⟨x, h1, h2⟩ := there_mem.1 ht; exact absurd h2 (h x h1)
theorem apart_snoc {l : List Ent} {e : Ent} (h : Apart l) (hn : ∀ x ∈ l, ¬ (x.key = e.key ∧ x.seq = e.seq)) : Apart (l ++ [e]) := by
  induction l with
  | nil => exact ⟨(fun b hb => by cases hb), trivial⟩
  | cons a l ih =>
    refine ⟨fun b hb => ?_, ih h.2 (fun x hx => hn x (List.mem_cons_of_mem _ hx))⟩
    rcases List.mem_append.1 hb with h1 | h1
    · exact h.1 b h1
    · rw [List.mem_singleton.1 h1]
      exact fun e2 => hn a List.mem_cons_self ⟨e2.1.symm, e2.2.symm⟩
theorem apart_at {l : List Ent} (h : Apart l) {j : Nat} {e : Ent} (he : l[j]? = some e) : ∀ x ∈ l.drop (j + 1), ¬ (x.key = e.key ∧ x.seq = e.seq) := by
  induction l generalizing j with
  | nil => simp at he
  | cons a l ih =>
    cases j with
    | zero =>
      simp only [List.getElem?_cons_zero, Option.some.injEq] at he
      subst he
      simpa using h.1
    | succ j => simpa using ih h.2 (by simpa using he)
theorem and_mask (n : Int) (k : Nat) (hk : k < 4611686018427387904) : ∃ q : Nat, q ≤ k ∧ bits .and .i64 n (k : Int) = (q : Int) := by
  have hb : (BitVec.ofInt 64 (k : Int)).toNat = k := ofInt_u64 k (by omega)
  have h : ((BitVec.ofInt 64 n) &&& (BitVec.ofInt 64 (k : Int))).toNat ≤ k := by
    rw [BitVec.toNat_and, hb]
    exact Nat.and_le_right
  refine ⟨((BitVec.ofInt 64 n) &&& (BitVec.ofInt 64 (k : Int))).toNat, h, ?_⟩
  show IntKind.i64.wrap (((BitVec.ofInt 64 n) &&& (BitVec.ofInt 64 (k : Int))).toNat : Int) = _
  exact wrap_small _ (by omega) (by omega)
end Go.Proofs.Ytjiphmeoofeepaa
