/- The walk of HashGrows. -/
import Derived.Test.YtelebhcaljepaaaDoorQq
namespace Go.Proofs.YtelebhcaljepaaaDoor
open Go.RowKit

theorem proof_all {h : List (List UInt8)} : proofL h h.length = [] := by
  unfold proofL subL
  rw [Mt.sub_all nodeL nilL rfl]
  rfl
set_option maxHeartbeats 4000000 in
set_option maxRecDepth 100000 in
theorem hashGrows_walk (ao : Option Addr) (m c : Nat) (es : List ByteE) (i : Int) (w : World) (hL : Ld w) (hs : RSrc byteKind w ao m c es) (hm : m ≤ 5864062014634) (hg : ∀ e ∈ es, e.bytes.length ≤ 140737488351232) :
    Calls Tryd.prog 7 #[.slice ao m c, .int .i64 i] w fun e w' => e = .returned (.bool true) ∧ Below w.heap.size w w' := by
  have HLd := keep hL
  have HS := keep hs
  have HG := keep hg
  have HSL := keep hs.len
  have AW := keep (awake_any w hL)
  have LV : Hid (∀ w', Below w.heap.size w w' → Calls Tryd.prog 25 #[.slice ao m c] w' (RowR w' (leavesL es))) := fun w' h => leaves_any ao m c es w' (hs.below byteKind_ok h) (fun e he => by have := HG.out e he; omega) (by omega)
  have hlen := leaves_len es
  have H32 := keep (leaves_32 es)
  have HSH := keep (leaves_short es)
  have LAT := keep (fun k hk => leaves_at (es := es) (k := k) hk)
  rw [hs.len] at hlen
  obtain ⟨h, hh⟩ : ∃ h, leavesL es = h := ⟨_, rfl⟩
  rw [hh] at LV H32 HSH LAT hlen
  obtain ⟨H, hH⟩ : ∃ H, h.length = H := ⟨_, rfl⟩
  have HHL := keep hH
  rw [hH] at hlen LAT
  clear hL hs hg hh
  by_cases h0 : H = 0
  · go_enter Tryd.func7, Tryd.ntmps7
    go_wp2_with fail
    refine AW.out.mono ?_
    rintro e w1 ⟨rfl, hb1⟩
    have B1 := keep hb1
    clear hb1 AW
    go_wp2_with fail
    refine (LV.out w1 B1.out).mono ?_
    rintro e w2 ⟨v2, rfl, ho2, hb2⟩
    have B2 := keep (B1.out.trans (hb2.mono B1.out.size))
    rw [hH, h0] at ho2
    obtain ⟨a2, c2, rfl⟩ := own_is ho2
    clear ho2 hb2 LV h0 hH
    go_wp2
    go_ret
    exact ⟨rfl, B2.out⟩
  · obtain ⟨q, k, hq, hq1, hkm, hk⟩ := place_of i H (by omega)
    obtain ⟨M, hM⟩ : ∃ M, 1 + k = M := ⟨_, rfl⟩
    have e1 : (1 : Int) + (k : Int) = (M : Int) := by omega
    have M0 : (0 : Int) ≤ (M : Int) := by omega
    have M1 : (M : Int) ≤ 100 := by omega
    clear LAT
    have n0 : ((H : Int) == 0) = false := by simp; omega
    have n1 : ¬ (H : Int) = 0 := by omega
    have n2 : (H : Int) ≠ 0 := n1
    go_enter Tryd.func7, Tryd.ntmps7
    go_wp2_with fail
    refine AW.out.mono ?_
    rintro e w1 ⟨rfl, hb1⟩
    have B1 := keep hb1
    clear hb1 AW
    go_wp2_with fail
    refine (LV.out w1 B1.out).mono ?_
    rintro e w2 ⟨v2, rfl, ho2, hb2⟩
    have B2 := keep (B1.out.trans (hb2.mono B1.out.size))
    rw [hH] at ho2
    obtain ⟨a2, c2, rfl, hr2, _⟩ := RSrc.own strKind_ok ho2 (fun _ _ => trivial)
    have R2 := keep hr2
    clear ho2 hb2 LV hr2 hH
    obtain ⟨hb, hoff, ha2, _, _⟩ := strs_at R2.out (by omega)
    subst ha2
    have hcap2 := R2.out.cap
    have PC := keep (proof_check H32.out (m := M) (by omega) (by rw [HHL.out]; omega) (by rw [HHL.out]; omega))
    rw [HHL.out] at PC
    have NC : Hid (∀ ps x r, checkF 0 (H : Int) ps x r = 8) := fun ps x r => by
      unfold checkF
      have : inRangeF 0 (H : Int) = false := by unfold inRangeF; simp
      rw [this]
      rfl
    have PALL : Hid (M = H → (proofL h M).length = 0) := fun e => by rw [e, ← HHL.out, proof_all]; rfl
    have PA := keep (proof_any H h HHL.out M (by omega) (by omega) (some ⟨hb, hoff, none⟩) c2 w2 (HLd.out.below B2.out) R2.out HSH.out (by omega))
    have hPL : (proofL h M).length ≤ 41 := subL_len (by omega) (by rw [HHL.out]; omega) (by rw [HHL.out]; omega)
    obtain ⟨R, hR⟩ : ∃ R, rootL h = R := ⟨_, rfl⟩
    obtain ⟨R1, hR1⟩ : ∃ R, rootL (h.take M) = R := ⟨_, rfl⟩
    have RO0 : Hid (∀ w', Below w2.heap.size w2 w' → Calls Tryd.prog 14 #[.slice (some ⟨hb, hoff, none⟩) H c2] w' fun e w'' => e = .returned (.string ⟨R.toArray⟩) ∧ Below w'.heap.size w' w'') := fun w' hb => by rw [← hR]; exact root_any H h HHL.out _ c2 w' (HLd.out.below (B2.out.trans (hb.mono B2.out.size))) (R2.out.below strKind_ok hb) HSH.out (by omega)
    have RO1 : Hid (∀ w', Below w2.heap.size w2 w' → Calls Tryd.prog 14 #[.slice (some ⟨hb, hoff, none⟩) M c2] w' fun e w'' => e = .returned (.string ⟨R1.toArray⟩) ∧ Below w'.heap.size w' w'') := fun w' hb => by rw [← hR1]; exact root_any M (h.take M) (by rw [List.length_take, HHL.out]; omega) _ c2 w' (HLd.out.below (B2.out.trans (hb.mono B2.out.size))) ((R2.out.below strKind_ok hb).head strKind_ok M (by omega)) (fun e he => HSH.out e (List.mem_of_mem_take he)) (by omega)
    rw [hR, hR1] at PC
    have hcM : (M : Int) ≤ (c2 : Int) := by omega
    have hMH2 : M ≤ H := by omega
    clear hR hR1
    go_wp2_with fail
    refine PA.out.mono ?_
    rintro e w3 ⟨v3, rfl, ho3, hb3⟩
    have b3 := keep hb3
    obtain ⟨pp, pc, rfl, hr3, _⟩ := RSrc.own strKind_ok ho3 (fun _ _ => trivial)
    obtain ⟨P, hP⟩ : ∃ P, (proofL h M).length = P := ⟨_, rfl⟩
    rw [hP] at hr3 hPL PALL ⊢
    have R3 := keep hr3
    have B3 := keep (B2.out.trans (b3.out.mono B2.out.size))
    have CK : Hid (∀ w', Below w3.heap.size w3 w' → Calls Tryd.prog 23 #[.int .i64 (M : Int), .int .i64 (H : Int), .slice pp P pc, .string ⟨R1.toArray⟩, .string ⟨R.toArray⟩] w' fun e w'' => e = .returned (.int .i64 0) ∧ Below w'.heap.size w' w'') := fun w' hb => by rw [← PC.out]; exact checkProof_any M H pp P pc (proofL h M) R1 R w' (HLd.out.below (B3.out.trans (hb.mono B3.out.size))) (R3.out.below strKind_ok hb) (by omega)
    have CN : Hid (∀ w', Below w3.heap.size w3 w' → Calls Tryd.prog 23 #[.int .i64 0, .int .i64 (H : Int), .slice pp P pc, .string ⟨#[]⟩, .string ⟨#[]⟩] w' fun e w'' => e = .returned (.int .i64 8) ∧ Below w'.heap.size w' w'') := fun w' hb => by
      have := checkProof_any 0 H pp P pc (proofL h M) [] [] w' (HLd.out.below (B3.out.trans (hb.mono B3.out.size))) (R3.out.below strKind_ok hb) (by omega)
      rw [NC.out] at this
      exact this
    clear ho3 hb3 hr3 hP PA hq hkm e1 hM
    go_wp2_with fail
    refine (RO1.out w3 b3.out).mono ?_
    rintro e w4 ⟨rfl, hb4⟩
    have b4 := keep hb4
    clear hb4 RO1
    go_wp2_with fail
    refine (RO0.out w4 (b3.out.trans (b4.out.mono b3.out.size))).mono ?_
    rintro e w5 ⟨rfl, hb5⟩
    have b5 := keep (b4.out.trans (hb5.mono b4.out.size))
    clear hb5 RO0
    go_wp2_with fail
    refine (CK.out w5 b5.out).mono ?_
    rintro e w6 ⟨rfl, hb6⟩
    have b6 := keep (b5.out.trans (hb6.mono b5.out.size))
    clear hb6 CK
    by_cases hMH : M = H
    · have hP0 := PALL.out hMH
      subst hP0
      subst hMH
      go_wp2_with fail
      refine (CN.out w6 b6.out).mono ?_
      rintro e w7 ⟨rfl, hb7⟩
      have b7 := keep (b6.out.trans (hb7.mono b6.out.size))
      clear hb7 CN
      go_wp2
      go_ret
      exact ⟨rfl, B3.out.trans (b7.out.mono B3.out.size)⟩
    · have hlt : (M : Int) < (H : Int) := by omega
      clear hMH
      go_wp2_with fail
      refine (CN.out w6 b6.out).mono ?_
      rintro e w7 ⟨rfl, hb7⟩
      have b7 := keep (b6.out.trans (hb7.mono b6.out.size))
      clear hb7 CN
      go_wp2
      go_ret
      exact ⟨rfl, B3.out.trans (b7.out.mono B3.out.size)⟩
end Go.Proofs.YtelebhcaljepaaaDoor
