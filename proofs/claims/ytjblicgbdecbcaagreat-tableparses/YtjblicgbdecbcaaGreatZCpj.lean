/- Entries and lists of entries in order, over plain lists; no walk. -/
/- The walk of bytes.Clone. -/
/- The walks of bytes.Compare and of key.Less. -/
import Derived.Test.YtjblicgbdecbcaaGreatZKlj
import Derived.Lib.LazyBuf
import Derived.Lib.BytesEntry
namespace Go.Proofs.YtjblicgbdecbcaaGreat.Sk
open Go.Proofs.YtjblicgbdecbcaaGreat

/-- An entry. -/
structure Ent where
  key : List UInt8
  seq : Int
  gone : Bool
  val : List UInt8
/-- An entry, and how high it is. -/
structure Node where
  e : Ent
  h : Nat
def may (e : Ent) : Bool := decide (1 ≤ e.key.length) && decide (e.key.length ≤ 64) && decide (0 ≤ e.seq) && decide (e.seq ≤ 1099511627776) && decide (e.val.length ≤ 1024) && !(e.gone && decide (0 < e.val.length))
/-- Does an entry go ahead of the place of a key and a number? -/
def aheadOf (k : List UInt8) (s : Int) (e : Ent) : Bool := if e.key = k then decide (s < e.seq) else less e.key k
/-- One goes ahead of the other. -/
def Goes (a b : Ent) : Prop := aheadOf b.key b.seq a = true
theorem goes_trans {a b : Ent} {k : List UInt8} {s : Int} (h : Goes a b) (h2 : aheadOf k s b = true) : aheadOf k s a = true := by
  unfold Goes aheadOf at h
  unfold aheadOf at h2 ⊢
  split at h
  · rename_i e1
    rw [e1]
    split at h2
    · rename_i e2
      rw [if_pos e2]
      simp only [decide_eq_true_eq] at h h2 ⊢
      omega
    · rename_i e2
      rw [if_neg e2]
      exact h2
  · rename_i e1
    split at h2
    · rename_i e2
      rw [← e2, if_neg e1]
      exact h
    · rename_i e2
      have h3 := less_trans h h2
      rw [if_neg (fun e => by rw [e, less_irrefl] at h3; cases h3)]
      exact h3
theorem goes_irrefl (a : Ent) : ¬ Goes a a := by unfold Goes aheadOf; simp
/-- In order, no two of one key and number. -/
def Up : List Ent → Prop
  | [] => True
  | a :: l => (∀ b ∈ l, Goes a b) ∧ Up l
/-- The first k entries are told, and no others. -/
def Cut (P : Ent → Bool) (l : List Ent) (k : Nat) : Prop := k ≤ l.length ∧ ∀ i e, l[i]? = some e → (P e = true ↔ i < k)
def count (P : Ent → Bool) : List Ent → Nat
  | [] => 0
  | a :: l => if P a then count P l + 1 else 0
theorem cut_count {P : Ent → Bool} (hP : ∀ a b, Goes a b → P b = true → P a = true) : ∀ {l : List Ent}, Up l → Cut P l (count P l)
  | [], _ => ⟨Nat.le_refl _, fun i e h => by simp at h⟩
  | a :: l, hu => by
    have ih := cut_count hP hu.2
    simp only [count]
    split
    · rename_i ha
      refine ⟨by rw [List.length_cons]; exact Nat.succ_le_succ ih.1, fun i e h => ?_⟩
      cases i with
      | zero =>
        simp only [List.getElem?_cons_zero, Option.some.injEq] at h
        subst h
        simp [ha]
      | succ i =>
        simp only [List.getElem?_cons_succ] at h
        rw [ih.2 i e h]
        omega
    · rename_i ha
      refine ⟨Nat.zero_le _, fun i e h => ⟨fun he => ?_, fun h => absurd h (Nat.not_lt_zero _)⟩⟩
      cases i with
      | zero =>
        simp only [List.getElem?_cons_zero, Option.some.injEq] at h
        subst h
        exact absurd he ha
      | succ i =>
        simp only [List.getElem?_cons_succ] at h
        exact absurd (hP a e (hu.1 e (List.mem_of_getElem? h)) he) ha
theorem ahead_down (k : List UInt8) (s : Int) (a b : Ent) (h : Goes a b) (hb : aheadOf k s b = true) : aheadOf k s a = true := goes_trans h hb
theorem from_down (k : List UInt8) (a b : Ent) (h : Goes a b) (hb : less b.key k = true) : less a.key k = true := by
  unfold Goes aheadOf at h
  split at h
  · rename_i e; rw [e]; exact hb
  · exact less_trans h hb
end Go.Proofs.YtjblicgbdecbcaaGreat.Sk
namespace Go.Proofs.YtjblicgbdecbcaaGreat
open Go.RowKit

set_option maxHeartbeats 1000000 in
set_option maxRecDepth 100000 in
theorem clone_any (ao : Option Addr) (m c : Nat) (l : List UInt8) (w : World) (hm : m ≤ 140737488355328) (hs : Src w ao m c l) :
    Calls Tryz.prog 52 #[.slice ao m c] w fun e w' => ∃ v, e = .returned v ∧ New w w' v m l := by
  obtain ⟨i0, hi, hz0, hz1, hz2⟩ := info_parts info5
  have HS := keep hs
  clear hs
  cases ao with
  | none =>
    obtain ⟨rfl, rfl⟩ := HS.out.nil rfl
    have hl : l = [] := List.length_eq_zero_iff.1 HS.out.len
    subst hl
    have heq := fun w => Lib.run_eql_slice_nil (P := Tryz.prog) w 24 5 none 0 0 0 0 Tryz.underlying24
    go_enter Tryz.func52, Tryz.ntmps52
    go_wp2
    go_ret
    exact ⟨_, rfl, World.ownsRow_nil _ _ _ _, Below.refl _ _⟩
  | some ad =>
    have heq := fun w => Lib.run_eql_slice_nil (P := Tryz.prog) w 24 5 (some ad) m c 0 0 Tryz.underlying24
    go_enter Tryz.func52, Tryz.ntmps52
    go_wp2_with (at_builtin; refine wpList_append_src rfl _ _ 24 rfl w.heap.size i0 _ Tryz.underlying24 hi hz0 hz1 hz2 rfl _ 0 [] rfl (World.ownsRow_made w #[] 0 (Nat.le_refl _) (by unfold maxLen; omega) rfl) _ m c l rfl (HS.out.below ((Below.refl _ _).alloc (Nat.le_refl _) _)) (by omega) (by simp) ?_; intro v1 w1 ho1 hg1; simp only [Nat.zero_add, List.nil_append] at ho1; have ho2 := keep ho1; have hb1 := keep (((Below.refl w.heap.size w).alloc (Nat.le_refl _) _).grown hg1 (by simp) (fun j hj => by cases hj; exact Nat.le_refl _)); clear ho1 hg1)
    go_ret
    exact ⟨_, rfl, ho2.out, hb1.out⟩
end Go.Proofs.YtjblicgbdecbcaaGreat
namespace Go.Proofs.YtjblicgbdecbcaaGreat
open Go.RowKit

theorem run_bytesOf {w : World} {ao : Option Addr} {m c : Nat} {l : List UInt8} (h : Src w ao m c l) : (Extern.Bytes.bytesOf (.slice ao m c)).run Tryz.prog w = .ok ⟨l.toArray⟩ w := by
  cases ao with
  | none =>
    have hl : l = [] := List.length_eq_zero_iff.1 (by rw [h.len]; exact (h.nil rfl).1)
    subst hl
    rfl
  | some ad =>
    have h1 := Lib.run_loadBytesX (P := Tryz.prog) w (l.map fun b => (b.toNat : Int)) ad .empty (fun j x hx => by
      apply h.cells ad rfl
      rw [List.getElem?_map] at hx
      unfold bv
      rw [List.getElem?_map]
      cases hj : l[j]? with
      | none => rw [hj] at hx; cases hx
      | some b => rw [hj] at hx; cases hx; rfl)
    have e : Lib.bytesOf (l.map fun b => (b.toNat : Int)) = l := by
      unfold Lib.bytesOf
      rw [List.map_map]
      conv => rhs; rw [← List.map_id l]
      apply List.map_congr_left
      intro a _
      simp
    rw [e, List.length_map, h.len] at h1
    have e2 : (⟨ByteArray.empty.data ++ l.toArray⟩ : ByteArray) = ⟨l.toArray⟩ := by
      apply ByteArray.ext
      show (#[] : Array UInt8) ++ l.toArray = l.toArray
      simp
    rw [e2] at h1
    exact h1
theorem run_compare {w : World} {ao : Option Addr} {m c : Nat} {l : List UInt8} {ao2 : Option Addr} {m2 c2 : Nat} {l2 : List UInt8} (h : Src w ao m c l) (h2 : Src w ao2 m2 c2 l2) :
    (Extern.BytealgCompare.compare #[.slice ao m c, .slice ao2 m2 c2]).run Tryz.prog w = .ok (.int .i64 (Lib.compareBytes l l2)) w := by
  change Sem.run Tryz.prog (do pure (goInt (Extern.BytealgCompare.cmp (← Extern.Bytes.bytesOf (.slice ao m c)) (← Extern.Bytes.bytesOf (.slice ao2 m2 c2))))) w = _
  simp only [Sem.run_bind, Sem.run_pure, run_bytesOf h, run_bytesOf h2, Result.andThen]
  rw [Lib.cmp_eq]
  rfl
theorem compare_less : ∀ (l l2 : List UInt8), decide (Lib.compareBytes l l2 < 0) = less l l2
  | [], [] => rfl
  | [], _ :: _ => rfl
  | _ :: _, [] => rfl
  | a :: x, b :: y => by
    have ih := compare_less x y
    simp only [Lib.compareBytes, less]
    by_cases h : a < b
    · simp [h]
    · by_cases h2 : b < a
      · have hne : ¬ a = b := fun e => by subst e; exact h h2
        simp [h, h2, hne]
      · have e : a = b := UInt8.toNat_inj.1 (by rw [UInt8.lt_iff_toNat_lt] at h h2; omega)
        subst e
        simp [h, ih]

set_option maxHeartbeats 1000000 in
set_option maxRecDepth 100000 in
theorem compare_any (ao : Option Addr) (m c : Nat) (l : List UInt8) (ao2 : Option Addr) (m2 c2 : Nat) (l2 : List UInt8) (w : World) (hs : Src w ao m c l) (hs2 : Src w ao2 m2 c2 l2) :
    Calls Tryz.prog 79 #[.slice ao m c, .slice ao2 m2 c2] w fun e w' => e = .returned (.int .i64 (Lib.compareBytes l l2)) ∧ w' = w := by
  have hc := run_compare hs hs2
  clear hs hs2
  go_enter Tryz.func79, Tryz.ntmps79
  go_wp2
  rw [run_callFunc_extern Tryz.func91 (by kernel_rfl) (by kernel_rfl) (by kernel_rfl) (e := Extern.BytealgCompare.compare) (by kernel_rfl), hc]
  simp only [Result.andThen]
  rw [Oper.upon_value]
  go_wp2
  go_ret
  exact ⟨rfl, rfl⟩

set_option maxHeartbeats 1000000 in
set_option maxRecDepth 100000 in
theorem less_any (ao : Option Addr) (m c : Nat) (l : List UInt8) (ao2 : Option Addr) (m2 c2 : Nat) (l2 : List UInt8) (w : World) (hs : Src w ao m c l) (hs2 : Src w ao2 m2 c2 l2) :
    Calls Tryz.prog 50 #[.slice ao m c, .slice ao2 m2 c2] w fun e w' => e = .returned (.bool (less l l2)) ∧ w' = w := by
  have hl := keep (compare_less l l2)
  have HS := keep hs
  have HS2 := keep hs2
  clear hs hs2
  go_enter Tryz.func50, Tryz.ntmps50
  go_wp2_with fail
  refine (compare_any ao m c l ao2 m2 c2 l2 _ HS.out HS2.out).mono ?_
  rintro e w1 ⟨rfl, rfl⟩
  obtain ⟨x, hx⟩ : ∃ x, Lib.compareBytes l l2 = x := ⟨_, rfl⟩
  rw [hx] at hl ⊢
  clear hx
  go_wp2
  go_ret
  exact ⟨by rw [← hl.out]; rfl, rfl⟩
end Go.Proofs.YtjblicgbdecbcaaGreat
