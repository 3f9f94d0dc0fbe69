/- Entries and lists of entries in order, over plain lists; no walk. -/
/- The walks of bytes.Compare and of key.Less. -/
/- Entries as they lie in memory; the walks of bytes.Equal, skip's within, Check. -/
import Derived.Test.YtogphpejdnhnjaaGreatDoorJoinMp
import Derived.Lib.BytesEntry
import Derived.Test.YtogphpejdnhnjaaGreatDoorL
import Derived.Test.YtogphpejdnhnjaaGreatDoorRw
import Derived.Test.YtogphpejdnhnjaaGreatDoorCl
namespace Go.Proofs.YtogphpejdnhnjaaGreatDoor.Sk
open Go.Proofs.YtogphpejdnhnjaaGreatDoor

/-- An entry. -/
structure Ent where
  key : List UInt8
  seq : Int
  gone : Bool
  val : List UInt8
/-- An entry, and how high it is. -/
structure Node where
  e : Ent
  h : Nat
def may (e : Ent) : Bool := decide (1 ≤ e.key.length) && decide (e.key.length ≤ 64) && decide (0 ≤ e.seq) && decide (e.seq ≤ 1099511627776) && decide (e.val.length ≤ 1024) && !(e.gone && decide (0 < e.val.length))
/-- Does an entry go ahead of the place of a key and a number? -/
def aheadOf (k : List UInt8) (s : Int) (e : Ent) : Bool := if e.key = k then decide (s < e.seq) else less e.key k
/-- One goes ahead of the other. -/
def Goes (a b : Ent) : Prop := aheadOf b.key b.seq a = true
theorem goes_trans {a b : Ent} {k : List UInt8} {s : Int} (h : Goes a b) (h2 : aheadOf k s b = true) : aheadOf k s a = true := by
  unfold Goes aheadOf at h
  unfold aheadOf at h2 ⊢
  split at h
  · rename_i e1
    rw [e1]
    split at h2
    · rename_i e2
      rw [if_pos e2]
      simp only [decide_eq_true_eq] at h h2 ⊢
      omega
    · rename_i e2
      rw [if_neg e2]
      exact h2
  · rename_i e1
    split at h2
    · rename_i e2
      rw [← e2, if_neg e1]
      exact h
    · rename_i e2
      have h3 := less_trans h h2
      rw [if_neg (fun e => by rw [e, less_irrefl] at h3; cases h3)]
      exact h3
theorem goes_irrefl (a : Ent) : ¬ Goes a a := by unfold Goes aheadOf; simp
/-- In order, no two of one key and number. -/
def Up : List Ent → Prop
  | [] => True
  | a :: l => (∀ b ∈ l, Goes a b) ∧ Up l
/-- The first k entries are told, and no others. -/
def Cut (P : Ent → Bool) (l : List Ent) (k : Nat) : Prop := k ≤ l.length ∧ ∀ i e, l[i]? = some e → (P e = true ↔ i < k)
def count (P : Ent → Bool) : List Ent → Nat
  | [] => 0
  | a :: l => if P a then count P l + 1 else 0
theorem cut_count {P : Ent → Bool} (hP : ∀ a b, Goes a b → P b = true → P a = true) : ∀ {l : List Ent}, Up l → Cut P l (count P l)
  | [], _ => ⟨Nat.le_refl _, fun i e h => by simp at h⟩
  | a :: l, hu => by
    have ih := cut_count hP hu.2
    simp only [count]
    split
    · rename_i ha
      refine ⟨by rw [List.length_cons]; exact Nat.succ_le_succ ih.1, fun i e h => ?_⟩
      cases i with
      | zero =>
        simp only [List.getElem?_cons_zero, Option.some.injEq] at h
        subst h
        simp [ha]
      | succ i =>
        simp only [List.getElem?_cons_succ] at h
        rw [ih.2 i e h]
        omega
    · rename_i ha
      refine ⟨Nat.zero_le _, fun i e h => ⟨fun he => ?_, fun h => absurd h (Nat.not_lt_zero _)⟩⟩
      cases i with
      | zero =>
        simp only [List.getElem?_cons_zero, Option.some.injEq] at h
        subst h
        exact absurd he ha
      | succ i =>
        simp only [List.getElem?_cons_succ] at h
        exact absurd (hP a e (hu.1 e (List.mem_of_getElem? h)) he) ha
theorem ahead_down (k : List UInt8) (s : Int) (a b : Ent) (h : Goes a b) (hb : aheadOf k s b = true) : aheadOf k s a = true := goes_trans h hb
theorem from_down (k : List UInt8) (a b : Ent) (h : Goes a b) (hb : less b.key k = true) : less a.key k = true := by
  unfold Goes aheadOf at h
  split at h
  · rename_i e; rw [e]; exact hb
  · exact less_trans h hb
end Go.Proofs.YtogphpejdnhnjaaGreatDoor.Sk
namespace Go.Proofs.YtogphpejdnhnjaaGreatDoor
open Go.RowKit

theorem run_bytesOf {w : World} {ao : Option Addr} {m c : Nat} {l : List UInt8} (h : Src w ao m c l) : (Extern.Bytes.bytesOf (.slice ao m c)).run Tryz.prog w = .ok ⟨l.toArray⟩ w := by
  cases ao with
  | none =>
    have hl : l = [] := List.length_eq_zero_iff.1 (by rw [h.len]; exact (h.nil rfl).1)
    subst hl
    rfl
  | some ad =>
    have h1 := Lib.run_loadBytesX (P := Tryz.prog) w (l.map fun b => (b.toNat : Int)) ad .empty (fun j x hx => by
      apply h.cells ad rfl
      rw [List.getElem?_map] at hx
      unfold bv
      rw [List.getElem?_map]
      cases hj : l[j]? with
      | none => rw [hj] at hx; cases hx
      | some b => rw [hj] at hx; cases hx; rfl)
    have e : Lib.bytesOf (l.map fun b => (b.toNat : Int)) = l := by
      unfold Lib.bytesOf
      rw [List.map_map]
      conv => rhs; rw [← List.map_id l]
      apply List.map_congr_left
      intro a _
      simp
    rw [e, List.length_map, h.len] at h1
    have e2 : (⟨ByteArray.empty.data ++ l.toArray⟩ : ByteArray) = ⟨l.toArray⟩ := by
      apply ByteArray.ext
      show (#[] : Array UInt8) ++ l.toArray = l.toArray
      simp
    rw [e2] at h1
    exact h1
theorem run_compare {w : World} {ao : Option Addr} {m c : Nat} {l : List UInt8} {ao2 : Option Addr} {m2 c2 : Nat} {l2 : List UInt8} (h : Src w ao m c l) (h2 : Src w ao2 m2 c2 l2) :
    (Extern.BytealgCompare.compare #[.slice ao m c, .slice ao2 m2 c2]).run Tryz.prog w = .ok (.int .i64 (Lib.compareBytes l l2)) w := by
  change Sem.run Tryz.prog (do pure (goInt (Extern.BytealgCompare.cmp (← Extern.Bytes.bytesOf (.slice ao m c)) (← Extern.Bytes.bytesOf (.slice ao2 m2 c2))))) w = _
  simp only [Sem.run_bind, Sem.run_pure, run_bytesOf h, run_bytesOf h2, Result.andThen]
  rw [Lib.cmp_eq]
  rfl
theorem compare_less : ∀ (l l2 : List UInt8), decide (Lib.compareBytes l l2 < 0) = less l l2
  | [], [] => rfl
  | [], _ :: _ => rfl
  | _ :: _, [] => rfl
  | a :: x, b :: y => by
    have ih := compare_less x y
    simp only [Lib.compareBytes, less]
    by_cases h : a < b
    · simp [h]
    · by_cases h2 : b < a
      · have hne : ¬ a = b := fun e => by subst e; exact h h2
        simp [h, h2, hne]
      · have e : a = b := UInt8.toNat_inj.1 (by rw [UInt8.lt_iff_toNat_lt] at h h2; omega)
        subst e
        simp [h, ih]

set_option maxHeartbeats 1000000 in
set_option maxRecDepth 100000 in
theorem compare_any (ao : Option Addr) (m c : Nat) (l : List UInt8) (ao2 : Option Addr) (m2 c2 : Nat) (l2 : List UInt8) (w : World) (hs : Src w ao m c l) (hs2 : Src w ao2 m2 c2 l2) :
    Calls Tryz.prog 312 #[.slice ao m c, .slice ao2 m2 c2] w fun e w' => e = .returned (.int .i64 (Lib.compareBytes l l2)) ∧ w' = w := by
  have hc := run_compare hs hs2
  clear hs hs2
  go_enter Tryz.func312, Tryz.ntmps312
  go_wp2
  rw [run_callFunc_extern Tryz.func341 (by kernel_rfl) (by kernel_rfl) (by kernel_rfl) (e := Extern.BytealgCompare.compare) (by kernel_rfl), hc]
  simp only [Result.andThen]
  rw [Oper.upon_value]
  go_wp2
  go_ret
  exact ⟨rfl, rfl⟩

set_option maxHeartbeats 1000000 in
set_option maxRecDepth 100000 in
theorem less_any (ao : Option Addr) (m c : Nat) (l : List UInt8) (ao2 : Option Addr) (m2 c2 : Nat) (l2 : List UInt8) (w : World) (hs : Src w ao m c l) (hs2 : Src w ao2 m2 c2 l2) :
    Calls Tryz.prog 264 #[.slice ao m c, .slice ao2 m2 c2] w fun e w' => e = .returned (.bool (less l l2)) ∧ w' = w := by
  have hl := keep (compare_less l l2)
  have HS := keep hs
  have HS2 := keep hs2
  clear hs hs2
  go_enter Tryz.func264, Tryz.ntmps264
  go_wp2_with fail
  refine (compare_any ao m c l ao2 m2 c2 l2 _ HS.out HS2.out).mono ?_
  rintro e w1 ⟨rfl, rfl⟩
  obtain ⟨x, hx⟩ : ∃ x, Lib.compareBytes l l2 = x := ⟨_, rfl⟩
  rw [hx] at hl ⊢
  clear hx
  go_wp2
  go_ret
  exact ⟨by rw [← hl.out]; rfl, rfl⟩
end Go.Proofs.YtogphpejdnhnjaaGreatDoor
namespace Go.Proofs.YtogphpejdnhnjaaGreatDoor
open Go.RowKit
open Sk (Ent)

/-- An entry as it lies in memory: where its bytes are, besides. -/
structure EV where
  kp : Option Addr
  kc : Nat
  vp : Option Addr
  vc : Nat
  e : Ent
def entKind : Kind EV where
  size := 4
  vals x := [.slice x.kp x.e.key.length x.kc, .int .i64 x.e.seq, .bool x.e.gone, .slice x.vp x.e.val.length x.vc]
  held w x := Src w x.kp x.e.key.length x.kc x.e.key ∧ Src w x.vp x.e.val.length x.vc x.e.val
theorem entKind_ok : entKind.Ok :=
  ⟨by decide, fun _ => rfl, fun e u hu => by
    simp only [entKind, List.mem_cons, List.not_mem_nil, or_false] at hu
    rcases hu with rfl | rfl | rfl | rfl <;> rfl, fun h hb => ⟨h.1.below hb, h.2.below hb⟩⟩
def ev (x : EV) : Value := .agg #[.slice x.kp x.e.key.length x.kc, .int .i64 x.e.seq, .bool x.e.gone, .slice x.vp x.e.val.length x.vc]
theorem below_cell {w w' : World} (h : Below w.heap.size w w') {p : Addr} {v : Value} (hc : w.cell? p = some v) : w'.cell? p = some v := by rw [h.cell (World.block_lt_of_cell? w _ hc)]; exact hc

set_option maxHeartbeats 1000000 in
set_option maxRecDepth 100000 in
theorem equal_any (ao : Option Addr) (m c : Nat) (l : List UInt8) (ao2 : Option Addr) (m2 c2 : Nat) (l2 : List UInt8) (w : World) (hs : Src w ao m c l) (hs2 : Src w ao2 m2 c2 l2) :
    Calls Tryz.prog 84 #[.slice ao m c, .slice ao2 m2 c2] w fun e w' => e = .returned (.bool (decide (l = l2))) ∧ w' = w := by
  have h1 := conv_src hs
  have h2 := conv_src hs2
  clear hs hs2
  go_enter Tryz.func84, Tryz.ntmps84
  go_wp2
  go_ret
  exact ⟨by rw [← list_beq]; rfl, rfl⟩
set_option maxHeartbeats 1000000 in
set_option maxRecDepth 100000 in
theorem within_any (n a b : Int) (w : World) : Calls Tryz.prog 238 #[.int .i64 n, .int .i64 a, .int .i64 b] w fun e w' => e = .returned (.bool (decide (a ≤ n) && decide (n ≤ b))) ∧ w' = w := by
  by_cases h : a ≤ n
  · go_enter Tryz.func238, Tryz.ntmps238
    go_wp2
    go_ret
    exact ⟨by rw [decide_eq_true h, Bool.true_and]; rfl, rfl⟩
  · have h' : decide (a ≤ n) = false := decide_eq_false h
    go_enter Tryz.func238, Tryz.ntmps238
    go_wp2
    go_ret
    exact ⟨rfl, rfl⟩
/-- Check's answer. -/
def chk (e : Ent) : Int := if Sk.may e then 0 else 1
set_option maxHeartbeats 2000000 in
set_option maxRecDepth 100000 in
theorem check_any (x : EV) (w : World) (hk : x.e.key.length ≤ 9223372036854775807) (hv : x.e.val.length ≤ 9223372036854775807) : Calls Tryz.prog 237 #[ev x] w fun e w' => e = .returned (.int .i64 (chk x.e)) ∧ Below w.heap.size w w' := by
  obtain ⟨kp, kc, vp, vc, key, seq, gone, val⟩ := x
  simp only at hk hv
  unfold ev
  simp only
  have hal := keep ((Below.refl w.heap.size w).alloc (Nat.le_refl _) (.cells #[.slice kp key.length kc, .int .i64 seq, .bool gone, .slice vp val.length vc] 131))
  have W1 := fun w => within_any (key.length : Int) 1 64 w
  have W2 := fun w => within_any seq 0 1099511627776 w
  obtain ⟨K, hK⟩ : ∃ K, key.length = K := ⟨_, rfl⟩
  obtain ⟨V, hV⟩ : ∃ V, val.length = V := ⟨_, rfl⟩
  rw [hK] at W1 hk hal ⊢
  rw [hV] at hv hal ⊢
  have e1 : (decide ((1 : Int) ≤ (K : Int)) && decide ((K : Int) ≤ 64)) = (decide (1 ≤ K) && decide (K ≤ 64)) := by
    congr 1 <;> (rw [decide_eq_decide]; omega)
  have hch : chk ⟨key, seq, gone, val⟩ = if ((decide (1 ≤ K) && decide (K ≤ 64)) && (decide (0 ≤ seq) && decide (seq ≤ 1099511627776)) && decide (V ≤ (if gone then 0 else 1024))) = true then 0 else 1 := by
    unfold chk Sk.may
    simp only [hK, hV]
    congr 1
    cases gone
    · simp [and_assoc]
    · simp only [Bool.and_eq_true, decide_eq_true_eq, Bool.true_and, if_true, Bool.not_eq_true', decide_eq_false_iff_not, eq_iff_iff]
      omega
  rw [e1] at W1
  have HCH := keep hch
  have w1 := keep W1
  have w2 := keep W2
  clear hK hV hch e1 W1 W2
  cases hb1 : (decide (1 ≤ K) && decide (K ≤ 64)) with
  | false =>
    rw [hb1] at w1 HCH
    clear hb1
    go_enter Tryz.func237, Tryz.ntmps237
    cases gone
    all_goals
      go_wp2_with fail
      refine (w1.out _).mono ?_
      rintro e w3 ⟨rfl, rfl⟩
      go_wp2
      go_ret
      exact ⟨by rw [HCH.out]; rfl, hal.out⟩
  | true =>
    cases hb2 : (decide (0 ≤ seq) && decide (seq ≤ 1099511627776)) with
    | false =>
      rw [hb1, hb2] at HCH
      rw [hb1] at w1
      rw [hb2] at w2
      clear hb1 hb2
      go_enter Tryz.func237, Tryz.ntmps237
      cases gone
      all_goals
        go_wp2_with fail
        refine (w1.out _).mono ?_
        rintro e w3 ⟨rfl, rfl⟩
        go_wp2_with fail
        refine (w2.out _).mono ?_
        rintro e w4 ⟨rfl, rfl⟩
        go_wp2
        go_ret
        exact ⟨by rw [HCH.out]; rfl, hal.out⟩
    | true =>
      rw [hb1, hb2] at HCH
      rw [hb1] at w1
      rw [hb2] at w2
      clear hb1 hb2
      obtain ⟨M, hM⟩ : ∃ M : Nat, M = if gone then 0 else 1024 := ⟨_, rfl⟩
      by_cases hvm : V ≤ M
      · rw [← hM, decide_eq_true hvm] at HCH
        go_enter Tryz.func237, Tryz.ntmps237
        cases gone
        all_goals
          simp only [Bool.false_eq_true, if_false, if_true] at hM
          subst hM
          have hvi : ¬ _ < (V : Int) := Int.not_lt.2 (Int.ofNat_le.2 hvm)
          go_wp2_with fail
          refine (w1.out _).mono ?_
          rintro e w3 ⟨rfl, rfl⟩
          go_wp2_with fail
          refine (w2.out _).mono ?_
          rintro e w4 ⟨rfl, rfl⟩
          go_wp2
          go_ret
          exact ⟨by rw [HCH.out]; rfl, hal.out⟩
      · rw [← hM, decide_eq_false hvm] at HCH
        go_enter Tryz.func237, Tryz.ntmps237
        cases gone
        all_goals
          simp only [Bool.false_eq_true, if_false, if_true] at hM
          subst hM
          have hvi : _ < (V : Int) := Int.ofNat_lt.2 (Nat.lt_of_not_le hvm)
          go_wp2_with fail
          refine (w1.out _).mono ?_
          rintro e w3 ⟨rfl, rfl⟩
          go_wp2_with fail
          refine (w2.out _).mono ?_
          rintro e w4 ⟨rfl, rfl⟩
          go_wp2
          go_ret
          exact ⟨by rw [HCH.out]; rfl, hal.out⟩
end Go.Proofs.YtogphpejdnhnjaaGreatDoor
