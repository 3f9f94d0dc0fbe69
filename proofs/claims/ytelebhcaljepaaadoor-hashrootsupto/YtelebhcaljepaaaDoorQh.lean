/- The walk of HashRoots. -/
import Derived.Test.YtelebhcaljepaaaDoorPn
import Derived.Test.YtelebhcaljepaaaDoorKb
namespace Go.Proofs.YtelebhcaljepaaaDoor
open Go.RowKit

set_option maxHeartbeats 4000000 in
set_option maxRecDepth 100000 in
theorem hashRoots_walk (lp : Option Addr) (ln lc : Nat) (ls : List (List UInt8)) (bp : Option Addr) (bm bc : Nat) (bl x y : List UInt8) (w : World) (hL : Ld w) (hsl : RSrc strKind w lp ln lc ls) (hsb : Src w bp bm bc bl) (hsh : ∀ e ∈ ls, e.length ≤ 1048576) (hln : ln ≤ 1048576) (hbm : bm ≤ 1048576) (hx : x.length ≤ 1048576) (hy : y.length ≤ 1048576) :
    Calls Tryd.prog 3 #[.slice lp ln lc, .slice bp bm bc, .string ⟨x.toArray⟩, .string ⟨y.toArray⟩] w fun e w' => e = .returned (.bool true) ∧ Below w.heap.size w w' := by
  have HLd := keep hL
  have AW : Hid (∀ w', Below w.heap.size w w' → Calls Tryd.prog 9 #[] w' fun e w'' => e = .returned (.bool true) ∧ Below w'.heap.size w' w'') := fun w' hb => awake_any w' (HLd.out.below hb)
  have L1 : Hid (∀ w', Below w.heap.size w w' → Calls Tryd.prog 10 #[.slice bp bm bc] w' fun e w'' => e = .returned (.string ⟨(leafL bl).toArray⟩) ∧ Below w'.heap.size w' w'') := fun w' hb => leaf_any bp bm bc bl w' (by omega) (HLd.out.below hb) (hsb.below hb)
  have L2 : Hid (∀ w', Below w.heap.size w w' → Calls Tryd.prog 11 #[.slice bp bm bc] w' fun e w'' => e = .returned (.string ⟨(leafL bl).toArray⟩) ∧ Below w'.heap.size w' w'') := fun w' hb => rleaf_any bp bm bc bl w' (by omega) (hsb.below hb)
  have N1 : Hid (∀ w', Below w.heap.size w w' → Calls Tryd.prog 12 #[.string ⟨x.toArray⟩, .string ⟨y.toArray⟩] w' fun e w'' => e = .returned (.string ⟨(nodeL x y).toArray⟩) ∧ Below w'.heap.size w' w'') := fun w' hb => node_any x y w' (by omega) (HLd.out.below hb)
  have N2 : Hid (∀ w', Below w.heap.size w w' → Calls Tryd.prog 13 #[.string ⟨x.toArray⟩, .string ⟨y.toArray⟩] w' fun e w'' => e = .returned (.string ⟨(nodeL x y).toArray⟩) ∧ Below w'.heap.size w' w'') := fun w' hb => rnode_any x y w' (by omega)
  have R1 : Hid (∀ w', Below w.heap.size w w' → Calls Tryd.prog 14 #[.slice lp ln lc] w' fun e w'' => e = .returned (.string ⟨(rootL ls).toArray⟩) ∧ Below w'.heap.size w' w'') := fun w' hb => root_any ln ls hsl.len lp lc w' (HLd.out.below hb) (hsl.below strKind_ok hb) (fun e he => by have := hsh e he; omega) (by omega)
  have R2 : Hid (∀ w', Below w.heap.size w w' → Calls Tryd.prog 15 #[.slice lp ln lc] w' fun e w'' => e = .returned (.string ⟨(rootL ls).toArray⟩) ∧ Below w'.heap.size w' w'') := fun w' hb => rroot_any ln ls hsl.len lp lc w' (hsl.below strKind_ok hb) (fun e he => by have := hsh e he; omega) (by omega)
  obtain ⟨A, hA⟩ : ∃ A, leafL bl = A := ⟨_, rfl⟩
  obtain ⟨B, hB⟩ : ∃ B, nodeL x y = B := ⟨_, rfl⟩
  obtain ⟨D, hD⟩ : ∃ D, rootL ls = D := ⟨_, rfl⟩
  rw [hA] at L1 L2
  rw [hB] at N1 N2
  rw [hD] at R1 R2
  clear hL hsl hsb hsh hbm hx hy hA hB hD
  by_cases h2 : (200 : Int) < (ln : Int)
  · go_enter Tryd.func3, Tryd.ntmps3
    go_wp2_with fail
    refine (AW.out w (Below.refl _ _)).mono ?_
    rintro e w1 ⟨rfl, hb1⟩
    have B1 := keep ((Below.refl w.heap.size w).trans (hb1.mono (Below.refl w.heap.size w).size))
    clear hb1
    go_wp2
    go_ret
    exact ⟨rfl, B1.out⟩
  · go_enter Tryd.func3, Tryd.ntmps3
    go_wp2_with fail
    refine (AW.out w (Below.refl _ _)).mono ?_
    rintro e w1 ⟨rfl, hb1⟩
    have B1 := keep ((Below.refl w.heap.size w).trans (hb1.mono (Below.refl w.heap.size w).size))
    clear hb1
    go_wp2_with fail
    refine (L1.out w1 B1.out).mono ?_
    rintro e w2 ⟨rfl, hb2⟩
    have B2 := keep (B1.out.trans (hb2.mono B1.out.size))
    clear hb2
    go_wp2_with fail
    refine (L2.out w2 B2.out).mono ?_
    rintro e w3 ⟨rfl, hb3⟩
    have B3 := keep (B2.out.trans (hb3.mono B2.out.size))
    clear hb3
    go_wp2_with fail
    refine (N1.out w3 B3.out).mono ?_
    rintro e w4 ⟨rfl, hb4⟩
    have B4 := keep (B3.out.trans (hb4.mono B3.out.size))
    clear hb4
    go_wp2_with fail
    refine (N2.out w4 B4.out).mono ?_
    rintro e w5 ⟨rfl, hb5⟩
    have B5 := keep (B4.out.trans (hb5.mono B4.out.size))
    clear hb5
    go_wp2_with fail
    refine (R1.out w5 B5.out).mono ?_
    rintro e w6 ⟨rfl, hb6⟩
    have B6 := keep (B5.out.trans (hb6.mono B5.out.size))
    clear hb6
    go_wp2_with fail
    refine (R2.out w6 B6.out).mono ?_
    rintro e w7 ⟨rfl, hb7⟩
    have B7 := keep (B6.out.trans (hb7.mono B6.out.size))
    clear hb7
    go_wp2
    go_ret
    exact ⟨rfl, B7.out⟩
end Go.Proofs.YtelebhcaljepaaaDoor
