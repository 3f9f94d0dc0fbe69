/- The walk of roots. -/
import Derived.Test.YtelebhcaljepaabDoorPe
namespace Go.Proofs.YtelebhcaljepaabDoor
open Go.RowKit

theorem side_cells {w : World} {b off n c : Nat} {rs : List Mt.Sd} (h : RSrc sideKind w (some ⟨b, off, none⟩) n c rs) {i : Nat} {s : Mt.Sd} (hs : rs[i]? = some s) :
    w.cell? ⟨b, off + i * 3, none⟩ = some (.int .i64 (s.a : Int)) ∧ w.cell? ⟨b, off + i * 3 + 1, none⟩ = some (.int .i64 (s.b : Int)) ∧ w.cell? ⟨b, off + i * 3 + 2, none⟩ = some (.bool s.ah) := by
  have one : ∀ (j : Nat) (u : Value), (sideKind.vals s)[j]? = some u → w.cell? ⟨b, off + i * 3 + j, none⟩ = some u := fun j u hu => by
    have hj : j < 3 := by have := (List.getElem?_eq_some_iff.1 hu).1; simpa [sideKind] using this
    have h1 := h.cells _ rfl (i * 3 + j) u ((rv_at sideKind_ok j hs hj).trans hu)
    rw [Addr.add_mid] at h1
    rw [Nat.add_assoc]
    exact h1
  exact ⟨one 0 _ rfl, one 1 _ rfl, one 2 _ rfl⟩
/-- The roots of what stands beside a way. -/
def rootsL (es : List (List UInt8)) (rs : List Mt.Sd) : List (List UInt8) := rs.map fun s => rootL (Mt.piece es s.a s.b)
set_option maxHeartbeats 4000000 in
set_option maxRecDepth 100000 in
theorem roots_any (wB : World) (C : List (List UInt8)) (v : Value) (ao : Option Addr) (n c : Nat) (es : List (List UInt8)) (rp : Option Addr) (rn rc : Nat) (rs : List Mt.Sd) (w : World) (hL : Ld wB) (hes : RSrc strKind wB ao n c es) (hsh : ∀ e ∈ es, e.length ≤ 1099511627776) (hn : n ≤ 1099511627776) (hrs : RSrc sideKind wB rp rn rc rs) (hin : ∀ s ∈ rs, s.a < s.b ∧ s.b ≤ n)
    (hv : w.ownsRow wB.heap.size 9 1 v C.length (rv strKind C)) (hb : Below wB.heap.size wB w) (hrn : C.length + rn ≤ 1000) :
    Calls Tryd.prog 27 #[v, .slice ao n c, .slice rp rn rc] w fun e w' => ∃ v', e = .returned v' ∧ w'.ownsRow wB.heap.size 9 1 v' (C ++ rootsL es rs).length (rv strKind (C ++ rootsL es rs)) ∧ Below wB.heap.size wB w' := by
  obtain ⟨i0, hi0, hz0, hz1, hz2⟩ := info_partsS infoS
  have HLd := keep hL
  have HES := keep hes
  have HSH := keep hsh
  have HRS := keep hrs
  have HRN := keep hrs.len
  have HIN := keep hin
  have hcap := hes.cap
  have HEN := keep hes.len
  obtain ⟨vp0, vc0, hv0⟩ := own_is hv
  subst hv0
  have OV := keep hv
  have BB := keep hb
  clear hL hes hsh hrs hin hv hb
  go_enter Tryd.func27, Tryd.ntmps27
  go_wp2
  go_loopw [0, 11] (fun v i wr => ∃ k : Nat, k ≤ rn ∧ i = .int .i64 (k : Int) ∧ Hid (wr.ownsRow wB.heap.size 9 1 v (C ++ rootsL es (rs.take k)).length (rv strKind (C ++ rootsL es (rs.take k))) ∧ Below wB.heap.size wB wr)) (fun _ i _ => rn - (intOf i).toNat)
  case atStart => exact ⟨0, Nat.zero_le _, rfl, by rw [List.take_zero]; simpa [rootsL] using OV.out, BB.out⟩
  case round =>
    obtain ⟨k, hk, rfl, hI⟩ := hrel
    obtain ⟨vp, vc, hv⟩ := own_is hI.out.1
    subst hv
    have O1 := keep hI.out.1
    have B1 := keep hI.out.2
    clear hI
    by_cases hkn : k < rn
    · obtain ⟨b, off, rfl, _, _⟩ := HRS.out.form sideKind_ok (by omega)
      obtain ⟨s, hsk⟩ : ∃ s, rs[k]? = some s := ⟨rs[k]'(by rw [HRN.out]; exact hkn), List.getElem?_eq_getElem _⟩
      obtain ⟨c0, c1, c2⟩ := side_cells HRS.out hsk
      have d0 := below_cell B1.out c0
      have d1 := below_cell B1.out c1
      have d2 := below_cell B1.out c2
      have hsi := HIN.out s (List.mem_of_getElem? hsk)
      have NXT : Hid (rootsL es (rs.take (k + 1)) = rootsL es (rs.take k) ++ [rootL (Mt.piece es s.a s.b)]) := by show _ = _; unfold rootsL; rw [List.take_add_one, hsk, List.map_append]; rfl
      obtain ⟨sa, sb, sah⟩ := s
      simp only at d0 d1 d2 hsi NXT
      obtain ⟨b1, off1, rfl, _, _⟩ := strs_at HES.out (by omega)
      have k1 : (k : Int) < (rn : Int) := by omega
      have k0 : (0 : Int) ≤ (k : Int) := by omega
      have a1 : (sa : Int) ≤ (sb : Int) := by omega
      have a2 : (sb : Int) ≤ (c : Int) := by omega
      have a3 : ¬ c = sa := by omega
      have PL : Hid ((Mt.piece es sa sb).length = sb - sa) := Mt.piece_len (by rw [HEN.out]; exact hsi.2)
      have BW : Hid (Below wB.heap.size wB (wr.alloc (.cells #[.int .i64 (sa : Int), .int .i64 (sb : Int), .bool sah] 64))) := B1.out.alloc B1.out.size _
      have bw : Hid (Below wr.heap.size wr (wr.alloc (.cells #[.int .i64 (sa : Int), .int .i64 (sb : Int), .bool sah] 64))) := (Below.refl _ _).alloc (Nat.le_refl _) _
      have RT := keep (root_any (sb - sa) (Mt.piece es sa sb) PL.out (some ⟨b1, off1 + sa, none⟩) (c - sa) _ (HLd.out.below BW.out) (strs_tail ((HES.out.below strKind_ok BW.out).head strKind_ok sb hsi.2) sa (by omega)) (fun e he => HSH.out e (List.mem_of_mem_take (List.mem_of_mem_drop he))) (by omega))
      obtain ⟨Y, hY⟩ : ∃ Y, rootL (Mt.piece es sa sb) = Y := ⟨_, rfl⟩
      rw [hY] at RT NXT
      obtain ⟨D, hD⟩ : ∃ D, C ++ rootsL es (rs.take k) = D := ⟨_, rfl⟩
      have hDl : D.length ≤ 999 := by rw [← hD, List.length_append]; unfold rootsL; rw [List.length_map, List.length_take, HRN.out]; omega
      have hND : Hid (C ++ rootsL es (rs.take (k + 1)) = D ++ [Y]) := by show _ = _; rw [NXT.out, ← List.append_assoc, hD]
      rw [hD] at O1 ⊢
      clear c0 c1 c2 hsk hY hD hsi NXT
      go_wp2_with fail
      refine RT.out.mono ?_
      rintro e w2 ⟨rfl, hb2⟩
      have b2 := keep (BW.out.trans (hb2.mono BW.out.size))
      have O2 := keep (own_next (own_next O1.out bw.out) hb2)
      clear hb2 RT d0 d1 d2
      have rc2 := keep (rec_cells (k := strKind) w2 9 Y)
      have b4 := keep (b2.out.alloc b2.out.size (.cells #[.string ⟨Y.toArray⟩] 9))
      have O4 : Hid ((w2.alloc (.cells #[.string ⟨Y.toArray⟩] 9)).ownsRow wB.heap.size 9 1 (.slice vp D.length vc) D.length (rv strKind D)) := own_next O2.out ((Below.refl _ _).alloc (Nat.le_refl _) _)
      go_wp2_with (at_builtin; go_loud (refine wpList_append_rec strKind_ok rfl _ _ 22 9 rfl wB.heap.size i0 _ 16 Tryd.underlying22 hi0 hz0 hz1 hz2 rfl (.slice vp D.length vc) D.length D rfl O4.out _ 1 Y rfl rc2.out (by unfold maxLen; omega) (by omega) b4.out.size ?_); intro v7 w7 ho7 hg7; have O7 := keep ho7; have b7 := keep (b4.out.grown hg7 b4.out.size (fun j hj => (O4.out.lt j hj).1)); clear ho7 hg7)
      go_roundw
      case rel => exact ⟨k + 1, by omega, by go_num, by rw [hND.out, List.length_append]; exact O7.out, b7.out⟩
      case measure => simp [intOf]; omega
    · obtain rfl : k = rn := by omega
      have hall : rs.take k = rs := List.take_of_length_le (by rw [HRN.out]; exact Nat.le_refl _)
      rw [hall] at O1 ⊢
      obtain ⟨D, hD⟩ : ∃ D, C ++ rootsL es rs = D := ⟨_, rfl⟩
      rw [hD] at O1 ⊢
      have HDD := keep hD
      clear hall hD
      go_wp2
      go_ret
      exact ⟨_, rfl, by rw [HDD.out]; exact O1.out, B1.out⟩
end Go.Proofs.YtelebhcaljepaabDoor
