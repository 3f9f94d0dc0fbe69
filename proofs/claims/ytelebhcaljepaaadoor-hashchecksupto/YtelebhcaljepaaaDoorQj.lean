/- The walk of HashChecks. -/
import Derived.Test.YtelebhcaljepaaaDoorPn
import Derived.Test.YtelebhcaljepaaaDoorJoinKn
namespace Go.Proofs.YtelebhcaljepaaaDoor
open Go.RowKit

set_option maxHeartbeats 4000000 in
set_option maxRecDepth 100000 in
theorem hashChecks_walk (leaf : List UInt8) (i n : Int) (pp : Option Addr) (pm pc : Nat) (ps : List (List UInt8)) (rt : List UInt8) (m : Int) (w : World) (hL : Ld w) (hs : RSrc strKind w pp pm pc ps) (hz : ∀ ad, pp = some ad → ad.block < w.heap.size) (hsh : ∀ e ∈ ps, e.length ≤ 1048576) (hpm : pm ≤ 1048576) (hlf : leaf.length ≤ 1048576) :
    Calls Tryd.prog 5 #[.string ⟨leaf.toArray⟩, .int .i64 i, .int .i64 n, .slice pp pm pc, .string ⟨rt.toArray⟩, .int .i64 m] w fun e w' => e = .returned (.bool true) ∧ Below w.heap.size w w' := by
  have HLd := keep hL
  have AW : Hid (∀ w', Below w.heap.size w w' → Calls Tryd.prog 9 #[] w' fun e w'' => e = .returned (.bool true) ∧ Below w'.heap.size w' w'') := fun w' hb => awake_any w' (HLd.out.below hb)
  have P1 : Hid (∀ w', Below w.heap.size w w' → Calls Tryd.prog 21 #[.string ⟨leaf.toArray⟩, .int .i64 i, .int .i64 n, .slice pp pm pc, .string ⟨rt.toArray⟩] w' fun e w'' => e = .returned (.int .i64 (checkP leaf i n ps rt)) ∧ Below w'.heap.size w' w'') := fun w' hb => checkPath_any leaf i n pp pm pc ps rt w' (HLd.out.below hb) (hs.below strKind_ok hb) (by omega)
  have P2 : Hid (∀ w', Below w.heap.size w w' → Calls Tryd.prog 22 #[.string ⟨leaf.toArray⟩, .int .i64 i, .int .i64 n, .slice pp pm pc, .string ⟨rt.toArray⟩] w' fun e w'' => e = .returned (.int .i64 (checkP leaf i n ps rt)) ∧ Below w'.heap.size w' w'') := fun w' hb => rcheckPath_any leaf i n pp pm pc ps rt w' (hs.below strKind_ok hb) (by omega)
  have F1 : Hid (∀ w', Below w.heap.size w w' → Calls Tryd.prog 23 #[.int .i64 m, .int .i64 n, .slice pp pm pc, .string ⟨leaf.toArray⟩, .string ⟨rt.toArray⟩] w' fun e w'' => e = .returned (.int .i64 (checkF m n ps leaf rt)) ∧ Below w'.heap.size w' w'') := fun w' hb => checkProof_any m n pp pm pc ps leaf rt w' (HLd.out.below hb) (hs.below strKind_ok hb) (by omega)
  have F2 : Hid (∀ w', Below w.heap.size w w' → Calls Tryd.prog 24 #[.int .i64 m, .int .i64 n, .slice pp pm pc, .string ⟨leaf.toArray⟩, .string ⟨rt.toArray⟩] w' fun e w'' => e = .returned (.int .i64 (checkF m n ps leaf rt)) ∧ Below w'.heap.size w' w'') := fun w' hb => rcheckProof_any m n pp pm pc ps leaf rt w' (hs.below strKind_ok hb) (fun ad e => Nat.lt_of_lt_of_le (hz ad e) hb.size) (by omega) (fun e he => by have := hsh e he; omega) (by omega)
  obtain ⟨A, hA⟩ : ∃ A, checkP leaf i n ps rt = A := ⟨_, rfl⟩
  obtain ⟨B, hB⟩ : ∃ B, checkF m n ps leaf rt = B := ⟨_, rfl⟩
  rw [hA] at P1 P2
  rw [hB] at F1 F2
  clear hL hs hsh hz hA hB hlf
  go_enter Tryd.func5, Tryd.ntmps5
  go_wp2_with fail
  refine (AW.out w (Below.refl _ _)).mono ?_
  rintro e w1 ⟨rfl, hb1⟩
  have B1 := keep ((Below.refl w.heap.size w).trans (hb1.mono (Below.refl w.heap.size w).size))
  clear hb1
  go_wp2_with fail
  refine (P1.out w1 B1.out).mono ?_
  rintro e w2 ⟨rfl, hb2⟩
  have B2 := keep (B1.out.trans (hb2.mono B1.out.size))
  clear hb2
  go_wp2_with fail
  refine (P2.out w2 B2.out).mono ?_
  rintro e w3 ⟨rfl, hb3⟩
  have B3 := keep (B2.out.trans (hb3.mono B2.out.size))
  clear hb3
  go_wp2_with fail
  refine (F1.out w3 B3.out).mono ?_
  rintro e w4 ⟨rfl, hb4⟩
  have B4 := keep (B3.out.trans (hb4.mono B3.out.size))
  clear hb4
  go_wp2_with fail
  refine (F2.out w4 B4.out).mono ?_
  rintro e w5 ⟨rfl, hb5⟩
  have B5 := keep (B4.out.trans (hb5.mono B4.out.size))
  clear hb5
  go_wp2
  go_ret
  exact ⟨rfl, B5.out⟩
end Go.Proofs.YtelebhcaljepaaaDoor
