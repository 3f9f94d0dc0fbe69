/- The walks of bytes.Compare and of key.Less. -/
import Derived.Test.YtbgdkkcobcmpoaaGreatDoorJoinMp
import Derived.Lib.BytesEntry
namespace Go.Proofs.YtbgdkkcobcmpoaaGreatDoor
open Go.RowKit

theorem run_bytesOf {w : World} {ao : Option Addr} {m c : Nat} {l : List UInt8} (h : Src w ao m c l) : (Extern.Bytes.bytesOf (.slice ao m c)).run Tryz.prog w = .ok ⟨l.toArray⟩ w := by
  cases ao with
  | none =>
    have hl : l = [] := List.length_eq_zero_iff.1 (by rw [h.len]; exact (h.nil rfl).1)
    subst hl
    rfl
  | some ad =>
    have h1 := Lib.run_loadBytesX (P := Tryz.prog) w (l.map fun b => (b.toNat : Int)) ad .empty (fun j x hx => by
      apply h.cells ad rfl
      rw [List.getElem?_map] at hx
      unfold bv
      rw [List.getElem?_map]
      cases hj : l[j]? with
      | none => rw [hj] at hx; cases hx
      | some b => rw [hj] at hx; cases hx; rfl)
    have e : Lib.bytesOf (l.map fun b => (b.toNat : Int)) = l := by
      unfold Lib.bytesOf
      rw [List.map_map]
      conv => rhs; rw [← List.map_id l]
      apply List.map_congr_left
      intro a _
      simp
    rw [e, List.length_map, h.len] at h1
    have e2 : (⟨ByteArray.empty.data ++ l.toArray⟩ : ByteArray) = ⟨l.toArray⟩ := by
      apply ByteArray.ext
      show (#[] : Array UInt8) ++ l.toArray = l.toArray
      simp
    rw [e2] at h1
    exact h1
theorem run_compare {w : World} {ao : Option Addr} {m c : Nat} {l : List UInt8} {ao2 : Option Addr} {m2 c2 : Nat} {l2 : List UInt8} (h : Src w ao m c l) (h2 : Src w ao2 m2 c2 l2) :
    (Extern.BytealgCompare.compare #[.slice ao m c, .slice ao2 m2 c2]).run Tryz.prog w = .ok (.int .i64 (Lib.compareBytes l l2)) w := by
  change Sem.run Tryz.prog (do pure (goInt (Extern.BytealgCompare.cmp (← Extern.Bytes.bytesOf (.slice ao m c)) (← Extern.Bytes.bytesOf (.slice ao2 m2 c2))))) w = _
  simp only [Sem.run_bind, Sem.run_pure, run_bytesOf h, run_bytesOf h2, Result.andThen]
  rw [Lib.cmp_eq]
  rfl
theorem compare_less : ∀ (l l2 : List UInt8), decide (Lib.compareBytes l l2 < 0) = less l l2
  | [], [] => rfl
  | [], _ :: _ => rfl
  | _ :: _, [] => rfl
  | a :: x, b :: y => by
    have ih := compare_less x y
    simp only [Lib.compareBytes, less]
    by_cases h : a < b
    · simp [h]
    · by_cases h2 : b < a
      · have hne : ¬ a = b := fun e => by subst e; exact h h2
        simp [h, h2, hne]
      · have e : a = b := UInt8.toNat_inj.1 (by rw [UInt8.lt_iff_toNat_lt] at h h2; omega)
        subst e
        simp [h, ih]

set_option maxHeartbeats 1000000 in
set_option maxRecDepth 100000 in
theorem compare_any (ao : Option Addr) (m c : Nat) (l : List UInt8) (ao2 : Option Addr) (m2 c2 : Nat) (l2 : List UInt8) (w : World) (hs : Src w ao m c l) (hs2 : Src w ao2 m2 c2 l2) :
    Calls Tryz.prog 341 #[.slice ao m c, .slice ao2 m2 c2] w fun e w' => e = .returned (.int .i64 (Lib.compareBytes l l2)) ∧ w' = w := by
  have hc := run_compare hs hs2
  clear hs hs2
  go_enter Tryz.func341, Tryz.ntmps341
  go_wp2
  rw [run_callFunc_extern Tryz.func370 (by kernel_rfl) (by kernel_rfl) (by kernel_rfl) (e := Extern.BytealgCompare.compare) (by kernel_rfl), hc]
  simp only [Result.andThen]
  rw [Oper.upon_value]
  go_wp2
  go_ret
  exact ⟨rfl, rfl⟩

set_option maxHeartbeats 1000000 in
set_option maxRecDepth 100000 in
theorem less_any (ao : Option Addr) (m c : Nat) (l : List UInt8) (ao2 : Option Addr) (m2 c2 : Nat) (l2 : List UInt8) (w : World) (hs : Src w ao m c l) (hs2 : Src w ao2 m2 c2 l2) :
    Calls Tryz.prog 293 #[.slice ao m c, .slice ao2 m2 c2] w fun e w' => e = .returned (.bool (less l l2)) ∧ w' = w := by
  have hl := keep (compare_less l l2)
  have HS := keep hs
  have HS2 := keep hs2
  clear hs hs2
  go_enter Tryz.func293, Tryz.ntmps293
  go_wp2_with fail
  refine (compare_any ao m c l ao2 m2 c2 l2 _ HS.out HS2.out).mono ?_
  rintro e w1 ⟨rfl, rfl⟩
  obtain ⟨x, hx⟩ : ∃ x, Lib.compareBytes l l2 = x := ⟨_, rfl⟩
  rw [hx] at hl ⊢
  clear hx
  go_wp2
  go_ret
  exact ⟨by rw [← hl.out]; rfl, rfl⟩
end Go.Proofs.YtbgdkkcobcmpoaaGreatDoor
