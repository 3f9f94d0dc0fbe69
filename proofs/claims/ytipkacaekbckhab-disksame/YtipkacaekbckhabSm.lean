/- The walk of DiskSame. -/
import Derived.Test.YtipkacaekbckhabPz
namespace Go.Proofs.Ytipkacaekbckhab
open Go.RowKit
open Dk (File Disk)

set_option maxHeartbeats 2000000 in
set_option maxRecDepth 100000 in
theorem diskSame_walk (ao : Option Addr) (m c : Nat) (es : List OpE) (w : World) (hs : RSrc opKind w ao m c es) (hc : c ≤ maxLen) (hf : ∀ e ∈ es, Fine e) :
    Calls Try.prog 4 #[.slice ao m c] w fun e w' => e = .returned (.bool true) ∧ Below w.heap.size w w' := by
  have ha := keep (awake_any w)
  have HP0 : Hid (∀ w1, Below w.heap.size w w1 → Calls Try.prog 6 #[.slice ao m c] w1 fun e w' => ∃ S b, e = .returned (.pointer (some ⟨b, 0, none⟩)) ∧ Own w1 S w' b (runs (es.take 100) ⟨1048575, [], 0, none, false⟩) ∧ (runs (es.take 100) ⟨1048575, [], 0, none, false⟩).cap = 1048575 ∧ (runs (es.take 100) ⟨1048575, [], 0, none, false⟩).done ≤ 100) := fun w1 hb => played_is ao m c es w1 (hs.below opKind_ok hb) hc hf
  obtain ⟨D, hD⟩ : ∃ D, runs (es.take 100) ⟨1048575, [], 0, none, false⟩ = D := ⟨_, rfl⟩
  rw [hD] at HP0
  have HP := HP0
  clear hs hf hc hD HP0
  go_enter Try.func4, Try.ntmps4
  go_wp2_with fail
  refine ha.out.mono ?_
  rintro e w1 ⟨rfl, hb1⟩
  have B1 := keep hb1
  clear hb1 ha
  go_wp2_with fail
  refine (HP.out w1 B1.out).mono ?_
  rintro e w2 ⟨Sa, ba, rfl, hO, hcap, hdn⟩
  have O2 := keep hO
  have B2 : Hid (Below w.heap.size w w2) := B1.out.trans (hO.bel.mono B1.out.size)
  clear hO hcap hdn B1
  go_wp2_with fail
  refine (HP.out w2 B2.out).mono ?_
  rintro e w3 ⟨Sb, bb, rfl, hO, hcap, hdn⟩
  have OA : Hid (∀ w', Below w3.heap.size w3 w' → Mem Sa w' ba D) := fun w' hb' => ((O2.out.next hO.bel).next hb').mem
  have OB : Hid (∀ w', Below w3.heap.size w3 w' → Mem Sb w' bb D) := fun w' hb' => (hO.next hb').mem
  have B3 : Hid (Below w.heap.size w w3) := B2.out.trans (hO.bel.mono B2.out.size)
  have HG : Hid (Dk.Good D) := by obtain ⟨_, _, _, h⟩ := hO.mem; exact h.good
  have HC := keep hcap
  obtain ⟨N, hN⟩ : ∃ N, D.files.length = N := ⟨_, rfl⟩
  have HN := keep hN
  have hNs : N ≤ 1048575 := by
    have h1 := used_ge D.files
    have h2 := HG.out.room
    omega
  clear hO hcap hdn B2 O2 HP hN
  go_wp2_with fail
  have X0 : Hid (Below w3.heap.size w3 w3) := Below.refl _ _
  refine (ops_mem Sa ba D _ (OA.out _ X0.out)).mono ?_
  rintro e x1 ⟨rfl, hb⟩
  have X1 : Hid (Below w3.heap.size w3 x1) := X0.out.trans (hb.mono X0.out.size)
  clear hb X0
  go_wp2_with fail
  refine (ops_mem Sb bb D _ (OB.out _ X1.out)).mono ?_
  rintro e x2 ⟨rfl, hb⟩
  have X2 : Hid (Below w3.heap.size w3 x2) := X1.out.trans (hb.mono X1.out.size)
  clear hb X1
  go_wp2_with fail
  refine (free_mem Sa ba D _ (OA.out _ X2.out)).mono ?_
  rintro e x3 ⟨rfl, hb⟩
  have X3 : Hid (Below w3.heap.size w3 x3) := X2.out.trans (hb.mono X2.out.size)
  clear hb X2
  go_wp2_with fail
  refine (free_mem Sb bb D _ (OB.out _ X3.out)).mono ?_
  rintro e x4 ⟨rfl, hb⟩
  have X4 : Hid (Below w3.heap.size w3 x4) := X3.out.trans (hb.mono X3.out.size)
  clear hb X3
  go_wp2_with fail
  refine (off_mem Sa ba D _ (OA.out _ X4.out)).mono ?_
  rintro e x5 ⟨rfl, hb⟩
  have X5 : Hid (Below w3.heap.size w3 x5) := X4.out.trans (hb.mono X4.out.size)
  clear hb X4
  go_wp2_with fail
  refine (off_mem Sb bb D _ (OB.out _ X5.out)).mono ?_
  rintro e x6 ⟨rfl, hb⟩
  have X6 : Hid (Below w3.heap.size w3 x6) := X5.out.trans (hb.mono X5.out.size)
  clear hb X5
  go_wp2_with fail
  refine (dump_mem Sa ba D _ (OA.out _ X6.out)).mono ?_
  rintro e x7 ⟨a1, c1, f1, rfl, _, hst, hpl, hb⟩
  rw [HN.out] at hst ⊢
  have R1 : Hid (Rows4 (Old x6.heap.size) x7 a1 N c1 f1 D.files) := ⟨hst, hpl, HN.out.symm⟩
  have s1 := keep hb.size
  have X7 : Hid (Below w3.heap.size w3 x7) := X6.out.trans (hb.mono X6.out.size)
  clear hb X6 hst hpl
  go_wp2_with fail
  refine (theirs_any _ a1 N c1 f1 _ _ R1.out (by omega) (fun g hg => Nat.lt_of_lt_of_le hg s1.out)).mono ?_
  rintro e x8 ⟨d1, n1, g1, rfl, hr, hb⟩
  have T1 := keep hr
  have X8 : Hid (Below w3.heap.size w3 x8) := X7.out.trans (hb.mono X7.out.size)
  clear hr hb X7
  go_wp2_with fail
  refine (dump_mem Sb bb D _ (OB.out _ X8.out)).mono ?_
  rintro e x9 ⟨a2, c2, f2, rfl, _, hst, hpl, hb⟩
  rw [HN.out] at hst ⊢
  have R2 : Hid (Rows4 (Old x8.heap.size) x9 a2 N c2 f2 D.files) := ⟨hst, hpl, HN.out.symm⟩
  have s2 := keep hb.size
  have X9 : Hid (Below w3.heap.size w3 x9) := X8.out.trans (hb.mono X8.out.size)
  have T1' := keep (T1.out.below hb)
  clear hb X8 hst hpl
  go_wp2_with fail
  refine (theirs_any _ a2 N c2 f2 _ _ R2.out (by omega) (fun g hg => Nat.lt_of_lt_of_le hg s2.out)).mono ?_
  rintro e x10 ⟨d2, n2, g2, rfl, hr, hb⟩
  have T2 := keep hr
  have X10 : Hid (Below w3.heap.size w3 x10) := X9.out.trans (hb.mono X9.out.size)
  have T1'' := keep (T1'.out.below hb)
  clear hr hb X9
  go_wp2_with fail
  refine (same_files d1 N n1 g1 _ _ d2 N n2 g2 _ _ _ T1''.out T2.out (by omega)).mono ?_
  rintro e x11 ⟨⟨x, rfl, hx⟩, hb⟩
  obtain rfl : x = true := hx.2 rfl
  have X11 : Hid (Below w3.heap.size w3 x11) := X10.out.trans (hb.mono X10.out.size)
  clear hx hb
  go_wp2
  go_ret
  exact ⟨rfl, B3.out.trans (X11.out.mono B3.out.size)⟩
end Go.Proofs.Ytipkacaekbckhab
