/- The walk of slices.BinarySearch over strings. -/
/- The walks of cat.number, is over a table's names and a segment's. -/
/- The walk of cat's remove, told by Save$2. -/
/- The walk of what Clean tells remove; what it tells, over plain names. -/
/- The walk of cat.names. -/
import Derived.Test.YthnebhddakfadaaGreatDoorJoinFm
import Derived.Test.YthnebhddakfadaaGreatDoorFe
import Derived.Test.YthnebhddakfadaaGreatDoorJoinFr2
import Derived.Test.YthnebhddakfadaaGreatDoorJoinH6
import Derived.Sort.OwnSorted
namespace Go.Proofs.YthnebhddakfadaaGreatDoor
open Go.RowKit

set_option maxHeartbeats 1000000 in
theorem cisNaN_any (x : List UInt8) (w : World) : Calls Tryz.prog 161 #[.string ⟨x.toArray⟩] w fun e w' => e = .returned (.bool false) ∧ w' = w := by
  go_enter Tryz.func161, Tryz.ntmps161
  go_wp2
  go_ret
  exact ⟨by simp, rfl⟩
set_option maxHeartbeats 1000000 in
theorem sisNaN_any (x : List UInt8) (w : World) : Calls Tryz.prog 109 #[.string ⟨x.toArray⟩] w fun e w' => e = .returned (.bool false) ∧ w' = w := by
  go_enter Tryz.func109, Tryz.ntmps109
  go_wp2
  go_ret
  exact ⟨by simp, rfl⟩
theorem bytesLess_less : ∀ x y : List UInt8, Op.bytesLess x y = less x y
  | [], [] => rfl
  | _ :: _, [] => rfl
  | [], _ :: _ => rfl
  | a :: x, b :: y => by
    unfold Op.bytesLess less
    rw [bytesLess_less x y]
set_option maxHeartbeats 2000000 in
theorem cless_any (x y : List UInt8) (w : World) : Calls Tryz.prog 108 #[.string ⟨x.toArray⟩, .string ⟨y.toArray⟩] w fun e w' => e = .returned (.bool (less x y)) ∧ w' = w := by
  have N := keep (cisNaN_any x)
  go_enter Tryz.func108, Tryz.ntmps108
  go_wp2_with fail
  refine (N.out w).mono ?_
  rintro e w' ⟨rfl, rfl⟩
  go_wp2
  go_ret
  exact ⟨by rw [← bytesLess_less]; rfl, rfl⟩
/-- Where a search ends. -/
theorem search_at {ns : List (List UInt8)} {x : List UInt8} {lo : Nat} (h1 : ∀ t, t < lo → less (ns.getD t []) x = true) (h2 : ∀ t, lo ≤ t → t < ns.length → less (ns.getD t []) x = false) (hS : ∀ a b, a ≤ b → b < ns.length → less (ns.getD b []) (ns.getD a []) = false) : decide (x ∈ ns) = decide (lo < ns.length ∧ ns.getD lo [] = x) := by
  refine decide_eq_decide.2 ⟨fun h => ?_, fun ⟨h, e⟩ => ?_⟩
  · obtain ⟨j, hj, e⟩ := List.mem_iff_getElem.1 h
    have ej : ns.getD j [] = x := by rw [List.getD_eq_getElem?_getD, List.getElem?_eq_getElem hj]; exact e
    have hlj : lo ≤ j := by
      rcases Nat.lt_or_ge j lo with hl | hl
      · have := h1 j hl
        rw [ej, less_irrefl] at this
        cases this
      · exact hl
    have a1 := h2 lo (Nat.le_refl _) (by omega)
    have a2 := hS lo j hlj hj
    rw [ej] at a2
    exact ⟨by omega, less_total a1 a2⟩
  · rw [← e, List.getD_eq_getElem?_getD, List.getElem?_eq_getElem h]
    exact List.getElem_mem h
set_option maxHeartbeats 4000000 in
set_option maxRecDepth 100000 in
theorem bsearch_any (ao : Option Addr) (n c : Nat) (ns : List (List UInt8)) (x : List UInt8) (w : World) (hs : RSrc strKind w ao n c ns) (hn : n ≤ 1099511627776) (hS : ∀ a b, a ≤ b → b < ns.length → less (ns.getD b []) (ns.getD a []) = false) :
    Calls Tryz.prog 64 #[.slice ao n c, .string ⟨x.toArray⟩] w fun e w' => (∃ z : Int, e = .returned (.tuple #[.int .i64 z, .bool (decide (x ∈ ns))])) ∧ Below w.heap.size w w' := by
  have HS := keep hS
  have HL := keep hs.len
  have AT : Hid (0 < n → ∃ b off, ao = some ⟨b, off, none⟩ ∧ ∀ w' i, Below w.heap.size w w' → i < n → w'.cell? ⟨b, off + i, none⟩ = some (.string ⟨(ns.getD i []).toArray⟩)) := fun h0 => by
    obtain ⟨b, off, e, _, hat⟩ := strs_at hs h0
    refine ⟨b, off, e, fun w' i hb hi => below_cell hb (hat i _ ?_)⟩
    have hlt : i < ns.length := by have := hs.len; omega
    rw [List.getD_eq_getElem?_getD, List.getElem?_eq_getElem hlt]
    rfl
  have LS := keep cless_any
  have NS := keep sisNaN_any
  clear hS hs
  go_enter Tryz.func64, Tryz.ntmps64
  go_wp2
  go_loopg [7, 8] n (fun kx s7 s8 wr => ∃ (lo hi : Nat), s7 = .int .i64 lo ∧ s8 = .int .i64 hi ∧ lo ≤ hi ∧ hi ≤ n ∧ hi - lo ≤ kx ∧ Hid (Below w.heap.size w wr ∧ (∀ t, t < lo → less (ns.getD t []) x = true) ∧ (∀ t, hi ≤ t → t < n → less (ns.getD t []) x = false)))
  case atStart => exact ⟨0, n, rfl, rfl, Nat.zero_le _, Nat.le_refl _, by omega, Below.refl _ _, fun t ht => absurd ht (Nat.not_lt_zero _), fun t h1 h2 => by omega⟩
  case round =>
    obtain ⟨lo, hi, rfl, rfl, hlh, hin, hg, I⟩ := hrel
    by_cases hlt : lo < hi
    · obtain ⟨b, off, rfl, hat⟩ := AT.out (by omega)
      have cm := hat wr ((lo + hi) / 2) I.out.1 (by omega)
      clear hat
      obtain ⟨y, hy⟩ : ∃ y, ns.getD ((lo + hi) / 2) [] = y := ⟨_, rfl⟩
      rw [hy] at cm
      have Y := keep hy
      clear hy
      have L := keep (LS.out y x wr)
      cases hyx : less y x with
      | true =>
        have YX := keep hyx
        rw [hyx] at L
        clear hyx
        go_wp2_with fail
        refine L.out.mono ?_
        rintro e w2 ⟨rfl, rfl⟩
        go_wp2
        go_roundg (hi - ((lo + hi) / 2 + 1))
        case measure => omega
        case rel =>
          refine ⟨(lo + hi) / 2 + 1, hi, by rw [show ((lo : Int) + (hi : Int)) / 2 + 1 = (((lo + hi) / 2 + 1 : Nat) : Int) by omega], rfl, by omega, hin, Nat.le_refl _, I.out.1, fun t ht => ?_, I.out.2.2⟩
          have h3 := HS.out t ((lo + hi) / 2) (by omega) (by rw [HL.out]; omega)
          rw [Y.out] at h3
          cases h4 : less (ns.getD t []) x with
          | true => rfl
          | false =>
            have h5 : less x (ns.getD t []) = true ∨ ns.getD t [] = x := by
              cases h6 : less x (ns.getD t []) with
              | true => exact .inl rfl
              | false => exact .inr (less_total h4 h6)
            rcases h5 with h5 | h5
            · have := less_trans YX.out h5
              rw [h3] at this
              cases this
            · rw [h5, YX.out] at h3
              cases h3
      | false =>
        have YX := keep hyx
        rw [hyx] at L
        clear hyx
        go_wp2_with fail
        refine L.out.mono ?_
        rintro e w2 ⟨rfl, rfl⟩
        go_wp2
        go_roundg ((lo + hi) / 2 - lo)
        case measure => omega
        case rel =>
          refine ⟨lo, (lo + hi) / 2, rfl, by rw [show ((lo : Int) + (hi : Int)) / 2 = (((lo + hi) / 2 : Nat) : Int) by omega], by omega, by omega, Nat.le_refl _, I.out.1, I.out.2.1, fun t ht htn => ?_⟩
          have h3 := HS.out ((lo + hi) / 2) t ht (by rw [HL.out]; exact htn)
          rw [Y.out] at h3
          cases h4 : less (ns.getD t []) x with
          | false => rfl
          | true =>
            have h5 : less (ns.getD t []) y = false := h3
            have h6 : less y (ns.getD t []) = true ∨ ns.getD t [] = y := by
              cases h7 : less y (ns.getD t []) with
              | true => exact .inl rfl
              | false => exact .inr (less_total h5 h7)
            rcases h6 with h6 | h6
            · have := less_trans h6 h4
              rw [YX.out] at this
              cases this
            · rw [h6, YX.out] at h4
              cases h4
    · obtain rfl : hi = lo := by omega
      have E := keep (search_at I.out.2.1 (fun t h1 h2 => I.out.2.2 t h1 (by rw [← HL.out]; exact h2)) HS.out)
      rw [HL.out] at E
      by_cases hn : hi < n
      · obtain ⟨b, off, rfl, hat⟩ := AT.out (by omega)
        have cm := hat wr hi I.out.1 hn
        clear hat
        obtain ⟨y, hy⟩ : ∃ y, ns.getD hi [] = y := ⟨_, rfl⟩
        rw [hy] at cm E
        clear hy
        by_cases hyx : y = x
        · subst hyx
          rw [decide_eq_true (show hi < n ∧ y = y from ⟨hn, rfl⟩)] at E
          go_wp2
          go_ret2
          exact ⟨⟨(hi : Int), by rw [E.out]; first | rfl | (rw [hyx2]; rfl)⟩, by first | exact I.out.1 | exact I.out.1.drew⟩
        · have hyx2 : (y == x) = false := beq_eq_false_iff_ne.2 hyx
          rw [decide_eq_false (show ¬ (hi < n ∧ y = x) from fun h => hyx h.2)] at E
          go_wp2_with fail
          refine (NS.out y wr).mono ?_
          rintro e w2 ⟨rfl, rfl⟩
          go_wp2
          go_ret2
          exact ⟨⟨(hi : Int), by rw [E.out]; first | rfl | (rw [hyx2]; rfl)⟩, by first | exact I.out.1 | exact I.out.1.drew⟩
      · rw [decide_eq_false (show ¬ (hi < n ∧ ns.getD hi [] = x) from fun h => hn h.1)] at E
        go_wp2
        go_ret2
        exact ⟨⟨(hi : Int), by rw [E.out]; first | rfl | (rw [hyx2]; rfl)⟩, by first | exact I.out.1 | exact I.out.1.drew⟩
end Go.Proofs.YthnebhddakfadaaGreatDoor
namespace Go.Proofs.YthnebhddakfadaaGreatDoor
open Go.RowKit

set_option maxHeartbeats 1000000 in
set_option maxRecDepth 100000 in
theorem number_tab (fo : List UInt8) (S : List UInt8) (hl : S.length ≤ 1000000) (w : World) (h : Gl w)
    (hN : ∀ n w', Below w.heap.size w w' → Calls Tryz.prog 17 #[.int .i64 n] w' fun e w'' => e = .returned (.string ⟨(calledL fo n).toArray⟩) ∧ Below w'.heap.size w' w'') :
    Calls Tryz.prog 62 #[.func (.func 17) #[] #[], .string ⟨S.toArray⟩] w fun e w' => e = .returned (.tuple #[.int .i64 (numOf S), .bool (backF fo S)]) ∧ Below w.heap.size w w' := by
  have CU := keep (cut_all S (by omega) w)
  have HA : Hid (∀ w', Below w.heap.size w w' → Calls Tryz.prog 105 #[.string ⟨(tailOf S).toArray⟩] w' fun e w'' => (∃ x, e = .returned (.tuple #[.int .i64 (numOf S), x])) ∧ Below w'.heap.size w' w'') := fun w' hb => atoi_any (tailOf S) (by have := tail_len S; omega) w' (h.below hb)
  have HN : Hid (∀ w', Below w.heap.size w w' → Calls Tryz.prog 17 #[.int .i64 (numOf S)] w' fun e w'' => e = .returned (.string ⟨(calledL fo (numOf S)).toArray⟩) ∧ Below w'.heap.size w' w'') := fun w' hb => hN (numOf S) w' hb
  have e1 : backF fo S = (calledL fo (numOf S) == S) := rfl
  rw [e1]
  obtain ⟨z, hz⟩ : ∃ z, numOf S = z := ⟨_, rfl⟩
  rw [hz] at HA HN ⊢
  obtain ⟨c, hc⟩ : ∃ c, calledL fo z = c := ⟨_, rfl⟩
  rw [hc] at HN ⊢
  obtain ⟨t, ht⟩ : ∃ t, tailOf S = t := ⟨_, rfl⟩
  rw [ht] at CU HA
  obtain ⟨y, hy⟩ : ∃ y, decide (0 ≤ Lib.indexByte S 47) = y := ⟨_, rfl⟩
  rw [hy] at CU
  clear hy ht hc hz h hN e1
  go_enter Tryz.func62, Tryz.ntmps62
  go_wp2_with fail
  refine CU.out.mono ?_
  rintro e w1 ⟨⟨x, rfl⟩, hb1⟩
  have B1 := keep hb1
  clear hb1
  go_wp2_with fail
  refine (HA.out w1 B1.out).mono ?_
  rintro e w2 ⟨⟨x2, rfl⟩, hb2⟩
  have B2 := keep (B1.out.trans (hb2.mono B1.out.size))
  clear hb2
  go_wp2_with fail
  refine (HN.out w2 B2.out).mono ?_
  rintro e w3 ⟨rfl, hb3⟩
  have B3 := keep (B2.out.trans (hb3.mono B2.out.size))
  clear hb3
  go_wp2
  go_ret2
  exact ⟨rfl, B3.out⟩
set_option maxHeartbeats 1000000 in
set_option maxRecDepth 100000 in
theorem is_tab (fo : List UInt8) (S : List UInt8) (hl : S.length ≤ 1000000) (w : World) (h : Gl w)
    (hN : ∀ n w', Below w.heap.size w w' → Calls Tryz.prog 17 #[.int .i64 n] w' fun e w'' => e = .returned (.string ⟨(calledL fo n).toArray⟩) ∧ Below w'.heap.size w' w'') :
    Calls Tryz.prog 59 #[.func (.func 17) #[] #[], .string ⟨S.toArray⟩] w fun e w' => e = .returned (.bool (backF fo S)) ∧ Below w.heap.size w w' := by
  have NU := keep (number_tab fo S hl w h hN)
  obtain ⟨z, hz⟩ : ∃ z, numOf S = z := ⟨_, rfl⟩
  obtain ⟨y, hy⟩ : ∃ y, backF fo S = y := ⟨_, rfl⟩
  rw [hz, hy] at NU
  rw [hy]
  clear hz hy h hN
  go_enter Tryz.func59, Tryz.ntmps59
  go_wp2_with fail
  refine NU.out.mono ?_
  rintro e w1 ⟨rfl, hb1⟩
  have B1 := keep hb1
  clear hb1
  go_wp2
  go_ret
  exact ⟨rfl, B1.out⟩
set_option maxHeartbeats 1000000 in
set_option maxRecDepth 100000 in
theorem number_wal (fo : List UInt8) (S : List UInt8) (hl : S.length ≤ 1000000) (w : World) (h : Gl w)
    (hN : ∀ n w', Below w.heap.size w w' → Calls Tryz.prog 63 #[.int .i64 n] w' fun e w'' => e = .returned (.string ⟨(calledL fo n).toArray⟩) ∧ Below w'.heap.size w' w'') :
    Calls Tryz.prog 62 #[.func (.func 63) #[] #[], .string ⟨S.toArray⟩] w fun e w' => e = .returned (.tuple #[.int .i64 (numOf S), .bool (backF fo S)]) ∧ Below w.heap.size w w' := by
  have CU := keep (cut_all S (by omega) w)
  have HA : Hid (∀ w', Below w.heap.size w w' → Calls Tryz.prog 105 #[.string ⟨(tailOf S).toArray⟩] w' fun e w'' => (∃ x, e = .returned (.tuple #[.int .i64 (numOf S), x])) ∧ Below w'.heap.size w' w'') := fun w' hb => atoi_any (tailOf S) (by have := tail_len S; omega) w' (h.below hb)
  have HN : Hid (∀ w', Below w.heap.size w w' → Calls Tryz.prog 63 #[.int .i64 (numOf S)] w' fun e w'' => e = .returned (.string ⟨(calledL fo (numOf S)).toArray⟩) ∧ Below w'.heap.size w' w'') := fun w' hb => hN (numOf S) w' hb
  have e1 : backF fo S = (calledL fo (numOf S) == S) := rfl
  rw [e1]
  obtain ⟨z, hz⟩ : ∃ z, numOf S = z := ⟨_, rfl⟩
  rw [hz] at HA HN ⊢
  obtain ⟨c, hc⟩ : ∃ c, calledL fo z = c := ⟨_, rfl⟩
  rw [hc] at HN ⊢
  obtain ⟨t, ht⟩ : ∃ t, tailOf S = t := ⟨_, rfl⟩
  rw [ht] at CU HA
  obtain ⟨y, hy⟩ : ∃ y, decide (0 ≤ Lib.indexByte S 47) = y := ⟨_, rfl⟩
  rw [hy] at CU
  clear hy ht hc hz h hN e1
  go_enter Tryz.func62, Tryz.ntmps62
  go_wp2_with fail
  refine CU.out.mono ?_
  rintro e w1 ⟨⟨x, rfl⟩, hb1⟩
  have B1 := keep hb1
  clear hb1
  go_wp2_with fail
  refine (HA.out w1 B1.out).mono ?_
  rintro e w2 ⟨⟨x2, rfl⟩, hb2⟩
  have B2 := keep (B1.out.trans (hb2.mono B1.out.size))
  clear hb2
  go_wp2_with fail
  refine (HN.out w2 B2.out).mono ?_
  rintro e w3 ⟨rfl, hb3⟩
  have B3 := keep (B2.out.trans (hb3.mono B2.out.size))
  clear hb3
  go_wp2
  go_ret2
  exact ⟨rfl, B3.out⟩
end Go.Proofs.YthnebhddakfadaaGreatDoor
namespace Go.Proofs.YthnebhddakfadaaGreatDoor
open Go.RowKit
open Dk (File Disk)

set_option maxHeartbeats 2000000 in
set_option maxRecDepth 100000 in
theorem remove_three (S : Nat → Prop) (w : World) (b : Nat) (d : Disk) (bx bz : Nat) (p : List UInt8 → Bool) (hM : Mem S w b d) (hdn : d.done ≤ 4611680000000000000)
    (hT : ∀ n W, Dk.named n = true → Kept (Go.Proofs.YthnebhddakfadaaGreatDoor.mine S b) w W → Calls Tryz.prog 61 #[.string ⟨n.toArray⟩, .pointer (some ⟨bx, 0, none⟩), .pointer (some ⟨bz, 0, none⟩)] W fun e W' => e = .returned (.bool (p n)) ∧ Below W.heap.size W W') :
    Calls Tryz.prog 54 #[.pointer (some ⟨b, 0, none⟩), .func (.func 61) #[] #[.pointer (some ⟨bx, 0, none⟩), .pointer (some ⟨bz, 0, none⟩)]] w fun e w' => ∃ S', e = .returned (.int .i64 ((rmvAll p d).1 : Int)) ∧ Own (Go.Proofs.YthnebhddakfadaaGreatDoor.mine S b) w S' w' b (rmvAll p d).2 := by
  have HM := keep hM
  have hgood := hM.good
  have hlen : d.files.length ≤ 1099511627776 := by
    have h1 := files_cap hgood
    obtain ⟨_, _, _, h2⟩ := hM
    have := h2.capb
    omega
  have HNM : Hid (∀ f ∈ d.files, Dk.named f.name = true) := hgood.names
  have HT := keep hT
  have NM : Hid (Calls Tryz.prog 28 #[.pointer (some ⟨b, 0, none⟩)] w fun e w' => ∃ ao c, e = .returned (.slice ao d.files.length c) ∧ w'.ownsRow w.heap.size 9 1 (.slice ao d.files.length c) d.files.length (rv strKind (namesOf d)) ∧ RSrc strKind w' ao d.files.length c (namesOf d) ∧ Below w.heap.size w w') := by
    obtain ⟨m, l, left, h2⟩ := hM
    exact names_mem S b m l left d w h2
  have HG := keep hgood
  clear hM hT hgood
  have HNL : Hid ((namesOf d).length = d.files.length) := by show _ = _; unfold namesOf; rw [List.length_map]
  have HND : Hid (∀ n ∈ namesOf d, Dk.named n = true) := fun n hn => by
    unfold namesOf at hn
    obtain ⟨f, h1, rfl⟩ := List.mem_map.1 hn
    exact HNM.out f h1
  have HR : Hid (rmvAll p d = rmv p d (namesOf d)) := rfl
  rw [HR.out]
  obtain ⟨ns, hns⟩ : ∃ ns, namesOf d = ns := ⟨_, rfl⟩
  rw [hns] at NM HNL HND ⊢
  obtain ⟨n, hn⟩ : ∃ n, d.files.length = n := ⟨_, rfl⟩
  rw [hn] at NM HNL hlen
  clear HR hns hn HNM
  go_enter Tryz.func54, Tryz.ntmps54
  go_wp2_with fail
  refine NM.out.mono ?_
  rintro e w1 ⟨ao, c, rfl, ho, hs, hb1⟩
  have I1 : Hid (RmI w S b (.slice ao n c) ns w1.heap.size w1 d) := by
    refine ⟨⟨S, (Own.start HM.out).next hb1, fun g hg => ?_⟩, by rw [HNL.out]; exact ho, fun g hg => own_size ho hg, Nat.le_refl _⟩
    rcases hg with hg | hg
    · exact .inl (HM.out.lt.1 g hg)
    · exact .inl (by rw [hg]; exact HM.out.lt.2.1)
  clear ho hs hb1 NM HM
  obtain ⟨B, hB⟩ : ∃ B, w1.heap.size = B := ⟨_, rfl⟩
  rw [hB] at I1
  clear hB
  go_wp2
  go_loopw [11] (fun i wr => ∃ (k : Nat) (D : Disk), k ≤ n ∧ i = .int .i64 (k : Int) ∧ Hid (rmv p d (ns.take k) = (0, D) ∧ RmI w S b (.slice ao n c) ns B wr D)) (fun i _ => n - (intOf i).toNat)
  case atStart => exact ⟨0, d, Nat.zero_le _, rfl, rfl, I1.out⟩
  case round =>
    clear I1
    obtain ⟨k, D, hk, rfl, hI⟩ := hrel
    by_cases hlt : k < n
    · obtain ⟨s, hs⟩ : ∃ s, ns[k]? = some s := ⟨ns[k]'(by rw [HNL.out]; exact hlt), List.getElem?_eq_getElem _⟩
      obtain ⟨a2, c2, e2, hsrc, _⟩ := RSrc.own strKind_ok hI.out.2.row (fun _ _ => trivial)
      rw [HNL.out] at e2 hsrc
      cases e2
      obtain ⟨g, off, rfl, hgw, hcell⟩ := strs_at hsrc (by omega)
      have hc1 := hcell k s hs
      have SN := keep (HND.out s (List.mem_of_getElem? hs))
      have TK : Hid (ns.take (k + 1) = ns.take k ++ [s]) := by show _ = _; rw [List.take_add_one, hs]; rfl
      have DN : Hid (D.done ≤ 4611686018427387904) := by
        have h1 := (rmv_far p (ns.take k) d HG.out).done
        rw [hI.out.1, List.length_take] at h1
        show _ ≤ _
        simp only at h1
        omega
      have FULL : Hid (∀ E D2, E ≠ 0 → rmv p d (ns.take (k + 1)) = (E, D2) → rmv p d ns = (E, D2)) := fun E D2 hE h1 => by
        have h2 := rmv_stop p (ns.drop (k + 1)) (ns.take (k + 1)) d (by rw [h1]; exact hE)
        rw [List.take_append_drop] at h2
        rw [h2, h1]
      have hlt1 : (k : Int) < (n : Int) := by omega
      have hk0 : (0 : Int) ≤ (k : Int) := by omega
      have KW : Hid (Kept (Go.Proofs.YthnebhddakfadaaGreatDoor.mine S b) w wr) := by obtain ⟨S1, h1, _⟩ := hI.out.2.own; exact h1.bel
      have CT := keep (HT.out s wr SN.out KW.out)
      clear hs hcell hsrc
      cases hp : p s with
      | true =>
        rw [hp] at CT
        have HP := keep hp
        clear hp
        go_wp2_with fail
        refine CT.out.mono ?_
        rintro e w2 ⟨rfl, hb2⟩
        obtain ⟨S1, O1, G1⟩ := (hI.out.2.next hb2).own
        have I2 := keep (hI.out.2.next hb2)
        have RM := keep (remove_raw S1 b D s w2 O1.mem (by have := named_len SN.out; unfold maxLen; omega) DN.out [] [])
        have OO := keep O1
        have GG := keep G1
        clear hb2 O1 G1 CT hc1
        go_wp2_with fail
        refine RM.out.mono ?_
        rintro e w3 hr
        obtain ⟨rfl, hI3⟩ := I2.out.raw OO.out GG.out hr
        have SN1 : Hid (rmv p d (ns.take (k + 1)) = Dk.raw D 3 s [] []) := by
          show _ = _
          rw [TK.out, rmv_snoc p s _ d (by rw [hI.out.1]), hI.out.1, HP.out, if_pos rfl]
        have I3 := keep hI3
        obtain ⟨X, hX⟩ : ∃ X, Dk.raw D 3 s [] [] = X := ⟨_, rfl⟩
        rw [hX] at SN1 I3 ⊢
        obtain ⟨E, D2⟩ := X
        simp only at I3 ⊢
        clear hr hI3 hX RM
        by_cases hE : E = 0
        · subst hE
          go_wp2
          go_roundw
          case rel => exact ⟨k + 1, D2, by omega, by go_num, SN1.out, I3.out⟩
          case measure => simp [intOf]; omega
        · have hE1 : ((E : Int) == 0) = false := by rw [beq_eq_false_iff_ne]; omega
          have HE := keep hE
          clear hE
          go_wp2
          go_ret
          rw [FULL.out E D2 HE.out SN1.out]
          obtain ⟨S1, O1, _⟩ := I3.out.own
          first | exact ⟨S1, rfl, O1⟩ | exact ⟨rfl, S1, O1⟩
      | false =>
        rw [hp] at CT
        have HP := keep hp
        clear hp
        go_wp2_with fail
        refine CT.out.mono ?_
        rintro e w2 ⟨rfl, hb2⟩
        have I2 := keep (hI.out.2.next hb2)
        have SN1 : Hid (rmv p d (ns.take (k + 1)) = (0, D)) := by
          show _ = _
          rw [TK.out, rmv_snoc p s _ d (by rw [hI.out.1]), hI.out.1, HP.out, if_neg (by decide)]
        clear hb2 CT hc1
        go_wp2
        go_roundw
        case rel => exact ⟨k + 1, D, by omega, by go_num, SN1.out, I2.out⟩
        case measure => simp [intOf]; omega
    · obtain rfl : k = n := by omega
      have hlt1 : ¬ (k : Int) < (k : Int) := by omega
      have h1 := hI.out.1
      rw [List.take_of_length_le (by rw [HNL.out]; exact Nat.le_refl _)] at h1
      have H1 := keep h1
      clear h1
      go_wp2
      go_ret
      rw [H1.out]
      obtain ⟨S1, O1, _⟩ := hI.out.2.own
      first | exact ⟨S1, rfl, O1⟩ | exact ⟨rfl, S1, O1⟩
end Go.Proofs.YthnebhddakfadaaGreatDoor
namespace Go.Proofs.YthnebhddakfadaaGreatDoor
open Go.RowKit

def walF : List UInt8 := [119, 97, 108, 47]
def tabF : List UInt8 := [116, 97, 98, 47]
/-- Is a file to go, where a version's segments begin at log and its files are called ns? -/
def clnP (log : Int) (ns : List (List UInt8)) (n : List UInt8) : Bool := if inF walF n then decide (numOf n < log) else !(decide (n ∈ ns)) && (n == tmpN || isMan n || inF tabF n)
theorem seg_called (n : Int) : segName n = calledL walF n := by
  unfold calledL
  cases h : isSeg n with
  | true => rw [if_pos rfl, seg_digs h]; rfl
  | false => rw [if_neg (by decide), segName_none h]
set_option maxHeartbeats 2000000 in
set_option maxRecDepth 100000 in
theorem clean1_any (n : List UInt8) (bx bz : Nat) (log : Int) (ao : Option Addr) (m c : Nat) (ns : List (List UInt8)) (w : World) (hx : w.cell? ⟨bx, 2, none⟩ = some (.int .i64 log)) (hz : w.cell? ⟨bz, 0, none⟩ = some (.slice ao m c)) (hs : RSrc strKind w ao m c ns) (hm : m ≤ 1099511627776) (hS : ∀ a b, a ≤ b → b < ns.length → less (ns.getD b []) (ns.getD a []) = false) (h : Gl w) (hn : n ≠ []) (hl : n.length ≤ 1000000) :
    Calls Tryz.prog 61 #[.string ⟨n.toArray⟩, .pointer (some ⟨bx, 0, none⟩), .pointer (some ⟨bz, 0, none⟩)] w fun e w' => e = .returned (.bool (clnP log ns n)) ∧ Below w.heap.size w w' := by
  have NU := keep (number_wal walF n hl w h (fun z w' hb => by rw [← seg_called]; exact name_any z w' (h.below hb).tab))
  rw [back_in hn] at NU
  have BS : Hid (∀ w', Below w.heap.size w w' → _) := fun w' hb => bsearch_any ao m c ns n w' (hs.below strKind_ok hb) hm hS
  have VI : Hid (∀ w', Below w.heap.size w w' → Calls Tryz.prog 59 #[.func (.func 53) #[] #[], .string ⟨n.toArray⟩] w' fun e w'' => e = .returned (.bool (isMan n)) ∧ Below w'.heap.size w' w'') := fun w' hb => by
    have := is_ver [109, 97, 110, 47] n hl w' (h.below hb) (fun z w'' hb2 => version_any z w'' ((h.below hb).below hb2).tab)
    rw [back_in hn] at this
    exact this
  have TI : Hid (∀ w', Below w.heap.size w w' → Calls Tryz.prog 59 #[.func (.func 17) #[] #[], .string ⟨n.toArray⟩] w' fun e w'' => e = .returned (.bool (inF tabF n)) ∧ Below w'.heap.size w' w'') := fun w' hb => by
    have := is_tab tabF n hl w' (h.below hb) (fun z w'' hb2 => table_any z w'' ((h.below hb).below hb2).tab)
    rw [back_in hn] at this
    exact this
  have HX : Hid (∀ w', Below w.heap.size w w' → w'.cell? ⟨bx, 2, none⟩ = some (.int .i64 log)) := fun w' hb => below_cell hb hx
  have HZ : Hid (∀ w', Below w.heap.size w w' → w'.cell? ⟨bz, 0, none⟩ = some (.slice ao m c)) := fun w' hb => below_cell hb hz
  unfold clnP tmpN
  obtain ⟨y1, h1⟩ : ∃ y, inF walF n = y := ⟨_, rfl⟩
  obtain ⟨y2, h2⟩ : ∃ y, decide (n ∈ ns) = y := ⟨_, rfl⟩
  obtain ⟨y3, h3⟩ : ∃ y, isMan n = y := ⟨_, rfl⟩
  obtain ⟨y4, h4⟩ : ∃ y, inF tabF n = y := ⟨_, rfl⟩
  obtain ⟨z, hz9⟩ : ∃ z, numOf n = z := ⟨_, rfl⟩
  rw [h1, hz9] at NU
  rw [h2] at BS
  rw [h3] at VI
  rw [h4] at TI
  rw [h1, h2, h3, h4, hz9]
  clear h1 h2 h3 h4 hz9 hx hz hs hS h hn hl hm
  cases y1 with
  | true =>
    rw [if_pos rfl]
    go_enter Tryz.func61, Tryz.ntmps61
    go_wp2_with fail
    refine NU.out.mono ?_
    rintro e w1 ⟨rfl, hb1⟩
    have B1 := keep hb1
    have cx := HX.out w1 hb1
    clear hb1
    go_wp2
    go_ret
    exact ⟨rfl, B1.out⟩
  | false =>
    rw [if_neg (by decide)]
    cases y2 with
    | true =>
      go_enter Tryz.func61, Tryz.ntmps61
      go_wp2_with fail
      refine NU.out.mono ?_
      rintro e w1 ⟨rfl, hb1⟩
      have B1 := keep hb1
      have cz := HZ.out w1 hb1
      clear hb1
      go_wp2_with fail
      refine (BS.out w1 B1.out).mono ?_
      rintro e w2 ⟨⟨x2, rfl⟩, hb2⟩
      have B2 := keep (B1.out.trans (hb2.mono B1.out.size))
      clear hb2
      go_wp2
      go_ret
      exact ⟨rfl, B2.out⟩
    | false =>
      cases h5 : (n == [99, 117, 114, 126]) with
      | true =>
        go_enter Tryz.func61, Tryz.ntmps61
        go_wp2_with fail
        refine NU.out.mono ?_
        rintro e w1 ⟨rfl, hb1⟩
        have B1 := keep hb1
        have cz := HZ.out w1 hb1
        clear hb1
        go_wp2_with fail
        refine (BS.out w1 B1.out).mono ?_
        rintro e w2 ⟨⟨x2, rfl⟩, hb2⟩
        have B2 := keep (B1.out.trans (hb2.mono B1.out.size))
        clear hb2
        go_wp2
        go_ret
        exact ⟨rfl, B2.out⟩
      | false =>
        cases y3 with
        | true =>
          go_enter Tryz.func61, Tryz.ntmps61
          go_wp2_with fail
          refine NU.out.mono ?_
          rintro e w1 ⟨rfl, hb1⟩
          have B1 := keep hb1
          have cz := HZ.out w1 hb1
          clear hb1
          go_wp2_with fail
          refine (BS.out w1 B1.out).mono ?_
          rintro e w2 ⟨⟨x2, rfl⟩, hb2⟩
          have B2 := keep (B1.out.trans (hb2.mono B1.out.size))
          clear hb2
          go_wp2_with fail
          refine (VI.out w2 B2.out).mono ?_
          rintro e w3 ⟨rfl, hb3⟩
          have B3 := keep (B2.out.trans (hb3.mono B2.out.size))
          clear hb3
          go_wp2
          go_ret
          exact ⟨rfl, B3.out⟩
        | false =>
          go_enter Tryz.func61, Tryz.ntmps61
          go_wp2_with fail
          refine NU.out.mono ?_
          rintro e w1 ⟨rfl, hb1⟩
          have B1 := keep hb1
          have cz := HZ.out w1 hb1
          clear hb1
          go_wp2_with fail
          refine (BS.out w1 B1.out).mono ?_
          rintro e w2 ⟨⟨x2, rfl⟩, hb2⟩
          have B2 := keep (B1.out.trans (hb2.mono B1.out.size))
          clear hb2
          go_wp2_with fail
          refine (VI.out w2 B2.out).mono ?_
          rintro e w3 ⟨rfl, hb3⟩
          have B3 := keep (B2.out.trans (hb3.mono B2.out.size))
          clear hb3
          go_wp2_with fail
          refine (TI.out w3 B3.out).mono ?_
          rintro e w4 ⟨rfl, hb4⟩
          have B4 := keep (B3.out.trans (hb4.mono B3.out.size))
          clear hb4
          go_wp2
          go_ret
          exact ⟨rfl, B4.out⟩
end Go.Proofs.YthnebhddakfadaaGreatDoor
namespace Go.Proofs.YthnebhddakfadaaGreatDoor
open Go.RowKit Go.Sort
open Ed (Nt)

theorem infoStrC : (Tryz.prog.info? 9).map (fun i => (i.zero, i.size, i.bytes)) = some (some (.string ⟨#[]⟩), 1, 16) := by kernel_rfl
/-- Behind the sort: a row of its own, rising. -/
theorem sortStrs_own (v : Value) (n B : Nat) (ss : List (List UInt8)) (w0 w : World) (ho : w.ownsRow B 9 1 v n (ss.map encStr)) (hb : Below B w0 w) (hB : B ≤ w.heap.size) (hn : n ≤ 1000000) :
    Calls Tryz.prog 104 #[v] w fun e w' => e = .returned (.tuple #[]) ∧ w'.ownsRow B 9 1 v n ((ss.mergeSort fun x y => decide (x ≤ y)).map encStr) ∧ Below B w0 w' := by
  have hl : ss.length = n := by simpa using ho.1
  rcases ho.2 with ⟨rfl, h0⟩ | ⟨g, cap, cur, rfl, hg, hh, hc, hm, hs, ht⟩
  · subst h0
    refine (sh_slices_Sort_string_none none 0 w).mono ?_
    rintro e w' ⟨rfl, rfl⟩
    obtain rfl : ss = [] := List.length_eq_zero_iff.1 hl
    exact ⟨rfl, by rw [List.mergeSort_nil]; exact ho, hb⟩
  · have hlt : g < w.heap.size := (Array.getElem?_eq_some_iff.1 hh).1
    have hH := holds_of_block (w := w) (g := g) (cur := cur) (e := 9) (ss := ss) hh (by rw [hl]; rw [Nat.mul_one] at ht; exact ht)
    subst hl
    refine (sh_slices_Sort_string g 0 cap ss w hH hlt (by omega)).mono ?_
    rintro e w' ⟨rfl, q, os, rfl⟩
    refine ⟨rfl, ownsRow_sorted (List.length_mergeSort _) hg hh hc hm hs, ?_⟩
    exact hb.grown (grownBy_sorted _) hB (fun k hk => by cases hk; exact hg)
def tabsL (l : List Nt) : List (List UInt8) := l.map fun m => calledL tabF m.num
theorem tabs_more {l : List Nt} {k : Nat} {m : Nt} (h : l[k]? = some m) : tabsL (l.take (k + 1)) = tabsL (l.take k) ++ [calledL tabF m.num] := by
  unfold tabsL
  rw [List.take_add_one, h, List.map_append]
  rfl
/-- The files that a version names. -/
def namesL (V : Ed.Ver) : List (List UInt8) := (calledL [109, 97, 110, 47] V.gen :: tabsL V.tabs).mergeSort fun x y => decide (x ≤ y)
theorem own_oneS {w : World} {B : Nat} (h : B ≤ w.heap.size) (s : List UInt8) : (w.alloc (.cells #[.string ⟨s.toArray⟩] 9)).ownsRow B 9 1 (.slice (some ⟨w.heap.size, 0, none⟩) 1 1) 1 ([s].map encStr) :=
  ⟨rfl, .inr ⟨w.heap.size, 1, #[.string ⟨s.toArray⟩], rfl, h, heap_alloc_new w _, Nat.le_refl _, by unfold maxLen; omega, rfl, rfl⟩⟩
set_option maxHeartbeats 4000000 in
set_option maxRecDepth 100000 in
theorem names_any (x : VV) (w : World) (hx : VV.held w x) (hg : Gl w) (hn : x.n ≤ 999999) :
    Calls Tryz.prog 60 #[x.val] w fun e w' => ∃ v, e = .returned v ∧ w'.ownsRow w.heap.size 9 1 v (x.n + 1) ((namesL x.v).map encStr) ∧ Below w.heap.size w w' := by
  obtain ⟨j0, ji, jz0, jz1, jz2⟩ := info_partsM infoStrC
  obtain ⟨p, n, c, gen, next, log, seq, es⟩ := x
  have SRC : Hid (RSrc metaKind w p n c es) := hx
  have HN := keep SRC.out.len
  have HG : Hid (∀ w', Below w.heap.size w w' → Gl w') := fun w' hb => hg.below hb
  have FULL : Hid ((es.map (·.m)).take n = es.map (·.m)) := List.take_of_length_le (by rw [List.length_map, HN.out]; exact Nat.le_refl _)
  have hn2 : n ≤ 999999 := hn
  unfold VV.val namesL VV.v
  simp only
  obtain ⟨w0, hw0⟩ : ∃ w0, w.alloc (.cells #[.int .i64 gen, .int .i64 next, .int .i64 log, .int .i64 seq, .slice p n c] 50) = w0 := ⟨_, rfl⟩
  have b0 : Hid (Below w.heap.size w w0) := by rw [← hw0]; exact (Below.refl _ _).alloc (Nat.le_refl _) _
  have g0 : Hid (w0.heap[w.heap.size]? = some (.cells #[.int .i64 gen, .int .i64 next, .int .i64 log, .int .i64 seq, .slice p n c] 50)) := by rw [← hw0]; exact heap_alloc_new w _
  have VE := keep (version_any gen w0 (HG.out w0 b0.out).tab)
  have c0 : w0.cell? ⟨w.heap.size, 0, none⟩ = some (.int .i64 gen) := cell_of_row _ _ _ _ _ _ g0.out
  obtain ⟨vs, hvs⟩ : ∃ vs, calledL [109, 97, 110, 47] gen = vs := ⟨_, rfl⟩
  rw [hvs] at VE ⊢
  clear hvs hx hg hn
  go_enter Tryz.func60, Tryz.ntmps60
  go_wp2_with fail
  refine VE.out.mono ?_
  rintro e w1 ⟨rfl, hb1⟩
  have B1 := keep (b0.out.trans (hb1.mono b0.out.size))
  have g1 := below_row g0.out hb1
  obtain ⟨w2, hw2⟩ : ∃ w2, w1.alloc (.cells #[.string ⟨vs.toArray⟩] 9) = w2 := ⟨_, rfl⟩
  have b2 : Hid (Below w1.heap.size w1 w2) := by rw [← hw2]; exact (Below.refl _ _).alloc (Nat.le_refl _) _
  have O2 : Hid (w2.ownsRow w.heap.size 9 1 (.slice (some ⟨w1.heap.size, 0, none⟩) 1 1) 1 ([vs].map encStr)) := by rw [← hw2]; exact own_oneS B1.out.size vs
  have B2 := keep (B1.out.trans (b2.out.mono B1.out.size))
  have d4 : w2.cell? ⟨w.heap.size, 4, none⟩ = some (.slice p n c) := cell_of_row _ _ _ _ _ _ (below_row g1 b2.out)
  clear hb1 g1
  go_wp2
  go_loopw [3, 13] (fun v i wr => ∃ k : Nat, k ≤ n ∧ i = .int .i64 (k : Int) ∧ Hid (wr.ownsRow w.heap.size 9 1 v (k + 1) ((vs :: tabsL ((es.map (·.m)).take k)).map encStr) ∧ Below w.heap.size w wr)) (fun _ i _ => n - (intOf i).toNat)
  case atStart => exact ⟨0, Nat.zero_le _, rfl, O2.out, B2.out⟩
  case round =>
    clear O2 B2 b2 b0 g0 c0 d4 hw2 VE B1
    obtain ⟨k, hk, rfl, hI⟩ := hrel
    have HB := keep hI.out.2
    by_cases hkn : k < n
    · obtain ⟨b, off, rfl, _, _⟩ := SRC.out.form metaKind_ok (by omega)
      obtain ⟨y, hy⟩ : ∃ y, es[k]? = some y := ⟨es[k]'(by rw [HN.out]; exact hkn), List.getElem?_eq_getElem _⟩
      obtain ⟨p0, p1, p2, p3, p4⟩ := meta_cells (SRC.out.below metaKind_ok HB.out) hy
      have HY : Hid (tabsL ((es.map (·.m)).take (k + 1)) = tabsL ((es.map (·.m)).take k) ++ [calledL tabF y.m.num]) := tabs_more (by rw [List.getElem?_map, hy]; rfl)
      clear hy
      obtain ⟨yfp, yfc, ylp, ylc, ⟨ynum, ylevel, ycount, yfirst, ylast⟩⟩ := y
      simp only at p0 p1 p2 p3 p4 HY
      have ll : (k : Int) < (n : Int) := by omega
      have l0 : (0 : Int) ≤ (k : Int) := by omega
      obtain ⟨W2, hW2⟩ : ∃ W2, wr.alloc (.cells #[.int .i64 ynum, .int .i64 ylevel, .int .i64 ycount, .slice yfp yfirst.length yfc, .slice ylp ylast.length ylc] 113) = W2 := ⟨_, rfl⟩
      have b2 : Hid (Below wr.heap.size wr W2) := by rw [← hW2]; exact (Below.refl _ _).alloc (Nat.le_refl _) _
      have B2 := keep (HB.out.trans (b2.out.mono HB.out.size))
      have c0 : W2.cell? ⟨wr.heap.size, 0, none⟩ = some (.int .i64 ynum) := by rw [← hW2]; exact cell_of_row _ _ _ _ _ _ (heap_alloc_new wr _)
      have TB := keep (table_any ynum W2 (HG.out W2 B2.out).tab)
      rw [show ([116, 97, 98, 47] : List UInt8) = tabF from rfl] at TB
      obtain ⟨ts, hts⟩ : ∃ ts, calledL tabF ynum = ts := ⟨_, rfl⟩
      rw [hts] at TB HY
      clear hts
      go_wp2_with fail
      refine TB.out.mono ?_
      rintro e w3 ⟨rfl, hb3⟩
      have b3 := keep (b2.out.trans (hb3.mono b2.out.size))
      have B3 := keep (HB.out.trans (b3.out.mono HB.out.size))
      have o3 := keep (own_block hI.out.1 (fun g hg => b3.out.block g (own_size hI.out.1 hg)))
      clear hb3 TB
      go_wp2_with (at_builtin; refine wpList_append_own _ rfl _ _ 63 rfl w.heap.size 9 j0 (.string ⟨#[]⟩) 1 16 Tryz.underlying63 ji jz0 jz1 jz2 rfl (by decide) _ (k + 1) _ rfl (o3.out.alloc _) ⟨w3.heap.size, 0, none⟩ 1 1 [.string ⟨ts.toArray⟩] rfl rfl (cell_one_new _ _ _) (by simp [Value.oneCell']) (by unfold maxLen; omega) (by omega) (le_alloc B3.out.size _) ?_; intro v4 w4 ho4 hg4 hn4; have O4 := keep ho4; have B4 := keep ((B3.out.alloc B3.out.size _).grown hg4 (le_alloc B3.out.size _) (fun j hj => (o3.out.lt j hj).1)); clear ho4 hg4 hn4)
      go_roundw
      case rel => exact ⟨k + 1, by omega, by go_num, by rw [HY.out]; simpa [encStr] using O4.out, B4.out⟩
      case measure => simp [intOf]; omega
    · obtain rfl : k = n := by omega
      have O1 := keep hI.out.1
      rw [FULL.out] at O1
      have ll : ¬ (k : Int) < (k : Int) := by omega
      clear hI
      go_wp2_with fail
      refine (sortStrs_own _ (k + 1) w.heap.size _ w wr O1.out HB.out HB.out.size (by omega)).mono ?_
      rintro e w4 ⟨rfl, ho4, hb4⟩
      have O4 := keep ho4
      have B4 := keep hb4
      clear ho4 hb4 O1
      go_wp2
      go_ret
      exact ⟨_, rfl, O4.out, B4.out⟩
end Go.Proofs.YthnebhddakfadaaGreatDoor
