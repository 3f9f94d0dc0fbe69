/- The walk of HashProves. -/
import Derived.Test.YtelebhcaljepaaaDoorPn
import Derived.Test.YtelebhcaljepaaaDoorKd
import Derived.Test.YtelebhcaljepaaaDoorKs
namespace Go.Proofs.YtelebhcaljepaaaDoor
open Go.RowKit

/-- A row of texts and a number, as Path and Proof answer them. -/
def RowZ (w : World) (ps : List (List UInt8)) (z : Int) (e : Ending) (w' : World) : Prop := ∃ v, e = .returned (.tuple #[v, .int .i64 z]) ∧ w'.ownsRow w.heap.size 9 1 v ps.length (rv strKind ps) ∧ Below w.heap.size w w'
theorem RowZ.yes {w w' : World} {ps : List (List UInt8)} {e : Ending} (h : RowA w ps e w') : RowZ w ps 0 e w' := h
theorem RowZ.no {w w' : World} {e : Ending} (h : e = .returned (.tuple #[.slice none 0 0, .int .i64 8]) ∧ Below w.heap.size w w') : RowZ w [] 8 e w' := ⟨_, h.1, World.ownsRow_nil _ _ _ _, h.2⟩
theorem RowZ.src {w w' : World} {ps : List (List UInt8)} {z : Int} {e : Ending} (h : RowZ w ps z e w') : ∃ ao c, e = .returned (.tuple #[.slice ao ps.length c, .int .i64 z]) ∧ RSrc strKind w' ao ps.length c ps ∧ Below w.heap.size w w' := by
  obtain ⟨v, h1, h2, h3⟩ := h
  obtain ⟨ao, c, rfl, hs, _⟩ := RSrc.own strKind_ok h2 (fun _ _ => trivial)
  exact ⟨ao, c, h1, hs, h3⟩
set_option maxHeartbeats 4000000 in
set_option maxRecDepth 100000 in
theorem proves_core (lp : Option Addr) (ln lc : Nat) (i m : Int) (ps qs : List (List UInt8)) (z y : Int) (w : World) (hL : Ld w) (h2 : ¬ (200 : Int) < (ln : Int)) (hpl : ps.length ≤ 1000) (hql : qs.length ≤ 1000)
    (K1 : Hid (∀ w', Below w.heap.size w w' → Calls Tryd.prog 16 #[.slice lp ln lc, .int .i64 i] w' (RowZ w' ps z)))
    (K2 : Hid (∀ w', Below w.heap.size w w' → Calls Tryd.prog 17 #[.slice lp ln lc, .int .i64 i] w' (RowZ w' ps z)))
    (K3 : Hid (∀ w', Below w.heap.size w w' → Calls Tryd.prog 18 #[.slice lp ln lc, .int .i64 m] w' (RowZ w' qs y)))
    (K4 : Hid (∀ w', Below w.heap.size w w' → Calls Tryd.prog 19 #[.slice lp ln lc, .int .i64 m] w' (RowZ w' qs y))) :
    Calls Tryd.prog 4 #[.slice lp ln lc, .int .i64 i, .int .i64 m] w fun e w' => e = .returned (.bool true) ∧ Below w.heap.size w w' := by
  have AW := keep (awake_any w hL)
  clear hL
  go_enter Tryd.func4, Tryd.ntmps4
  go_wp2_with fail
  refine AW.out.mono ?_
  rintro e w1 ⟨rfl, hb1⟩
  have B1 := keep hb1
  clear hb1 AW
  go_wp2_with fail
  refine (K1.out w1 B1.out).mono ?_
  rintro e w2 hA
  obtain ⟨a2, c2, rfl, hs2, hb2⟩ := hA.src
  have B2 := keep (B1.out.trans (hb2.mono B1.out.size))
  have S2 := keep hs2
  clear hA hs2 hb2 K1
  go_wp2_with fail
  refine (K2.out w2 B2.out).mono ?_
  rintro e w3 hA
  obtain ⟨a3, c3, rfl, hs3, hb3⟩ := hA.src
  have B3 := keep (B2.out.trans (hb3.mono B2.out.size))
  have S23 := keep (S2.out.below strKind_ok hb3)
  have S3 := keep hs3
  clear hA hs3 hb3 K2 S2
  go_wp2_with fail
  refine (K3.out w3 B3.out).mono ?_
  rintro e w4 hA
  obtain ⟨a4, c4, rfl, hs4, hb4⟩ := hA.src
  have B4 := keep (B3.out.trans (hb4.mono B3.out.size))
  have S24 := keep (S23.out.below strKind_ok hb4)
  have S34 := keep (S3.out.below strKind_ok hb4)
  have S4 := keep hs4
  clear hA hs4 hb4 K3 S23 S3
  go_wp2_with fail
  refine (K4.out w4 B4.out).mono ?_
  rintro e w5 hA
  obtain ⟨a5, c5, rfl, hs5, hb5⟩ := hA.src
  have B5 := keep (B4.out.trans (hb5.mono B4.out.size))
  have S25 := keep (S24.out.below strKind_ok hb5)
  have S35 := keep (S34.out.below strKind_ok hb5)
  have S45 := keep (S4.out.below strKind_ok hb5)
  have S5 := keep hs5
  clear hA hs5 hb5 K4 S24 S34 S4
  obtain ⟨P, hP⟩ : ∃ P, ps.length = P := ⟨_, rfl⟩
  obtain ⟨Q, hQ⟩ : ∃ Q, qs.length = Q := ⟨_, rfl⟩
  rw [hP] at S25 S35 hpl
  rw [hQ] at S45 S5 hql
  rw [hP, hQ]
  clear hP hQ
  go_wp2_with fail
  refine (rsameS_yes a2 P c2 ps a3 c3 w5 S25.out S35.out (by omega)).mono ?_
  rintro e w6 ⟨rfl, hb6⟩
  have b6 := keep hb6
  clear hb6
  go_wp2_with fail
  refine (rsameS_yes a4 Q c4 qs a5 c5 w6 (S45.out.below strKind_ok b6.out) (S5.out.below strKind_ok b6.out) (by omega)).mono ?_
  rintro e w7 ⟨rfl, hb7⟩
  have b7 := keep (b6.out.trans (hb7.mono b6.out.size))
  clear hb7
  go_wp2
  go_ret
  exact ⟨rfl, B5.out.trans (b7.out.mono B5.out.size)⟩
set_option maxHeartbeats 4000000 in
set_option maxRecDepth 100000 in
theorem hashProves_walk (lp : Option Addr) (ln lc : Nat) (ls : List (List UInt8)) (i m : Int) (w : World) (hL : Ld w) (hsl : RSrc strKind w lp ln lc ls) (hsh : ∀ e ∈ ls, e.length ≤ 1048576) (hln : ln ≤ 1048576) :
    Calls Tryd.prog 4 #[.slice lp ln lc, .int .i64 i, .int .i64 m] w fun e w' => e = .returned (.bool true) ∧ Below w.heap.size w w' := by
  by_cases h2 : (200 : Int) < (ln : Int)
  · have AW := keep (awake_any w hL)
    clear hL hsl hsh
    go_enter Tryd.func4, Tryd.ntmps4
    go_wp2_with fail
    refine AW.out.mono ?_
    rintro e w1 ⟨rfl, hb1⟩
    have B1 := keep hb1
    clear hb1 AW
    go_wp2
    go_ret
    exact ⟨rfl, B1.out⟩
  have hlen := hsl.len
  have sh : ∀ e ∈ ls, e.length ≤ 1099511627776 := fun e he => by have := hsh e he; omega
  obtain ⟨ps, z, hpl, K1, K2⟩ : ∃ ps z, ps.length ≤ 1000 ∧ Hid (∀ w', Below w.heap.size w w' → Calls Tryd.prog 16 #[.slice lp ln lc, .int .i64 i] w' (RowZ w' ps z)) ∧ Hid (∀ w', Below w.heap.size w w' → Calls Tryd.prog 17 #[.slice lp ln lc, .int .i64 i] w' (RowZ w' ps z)) := by
    by_cases hi : 0 ≤ i ∧ i < (ln : Int)
    · obtain ⟨I, rfl⟩ : ∃ I : Nat, i = (I : Int) := ⟨i.toNat, by omega⟩
      refine ⟨pathL ls I, 0, Nat.le_trans (pathL_len (by omega) (by omega)) (by decide), fun w' hb => (path_any ln ls hlen I (by omega) lp lc w' (hL.below hb) (hsl.below strKind_ok hb) sh (by omega)).mono (fun e w'' h => RowZ.yes h), fun w' hb => (rpath_any ln ls hlen I (by omega) lp lc w' (hsl.below strKind_ok hb) sh (by omega)).mono (fun e w'' h => RowZ.yes h)⟩
    · exact ⟨[], 8, by decide, fun w' _ => (path_bad ln i lp lc w' (by omega)).mono (fun e w'' h => RowZ.no h), fun w' _ => (rpath_bad ln i lp lc w' (by omega)).mono (fun e w'' h => RowZ.no h)⟩
  obtain ⟨qs, y, hql, K3, K4⟩ : ∃ qs y, qs.length ≤ 1000 ∧ Hid (∀ w', Below w.heap.size w w' → Calls Tryd.prog 18 #[.slice lp ln lc, .int .i64 m] w' (RowZ w' qs y)) ∧ Hid (∀ w', Below w.heap.size w w' → Calls Tryd.prog 19 #[.slice lp ln lc, .int .i64 m] w' (RowZ w' qs y)) := by
    by_cases hi : 1 ≤ m ∧ m ≤ (ln : Int)
    · obtain ⟨M, rfl⟩ : ∃ M : Nat, m = (M : Int) := ⟨m.toNat, by omega⟩
      refine ⟨proofL ls M, 0, Nat.le_trans (subL_len (by omega) (by omega) (by omega)) (by decide), fun w' hb => (proof_any ln ls hlen M (by omega) (by omega) lp lc w' (hL.below hb) (hsl.below strKind_ok hb) sh (by omega)).mono (fun e w'' h => RowZ.yes h), fun w' hb => ?_⟩
      have := rproof_any ls M (by omega) (by omega) lp lc w' (by rw [hlen]; exact hsl.below strKind_ok hb) sh (by omega)
      rw [hlen] at this
      exact this.mono (fun e w'' h => RowZ.yes h)
    · exact ⟨[], 8, by decide, fun w' _ => (proof_bad ln m lp lc w' (by omega)).mono (fun e w'' h => RowZ.no h), fun w' _ => (rproof_bad ln m lp lc w' (by omega)).mono (fun e w'' h => RowZ.no h)⟩
  exact proves_core lp ln lc i m ps qs z y w hL h2 hpl hql K1 K2 K3 K4
end Go.Proofs.YtelebhcaljepaaaDoor
