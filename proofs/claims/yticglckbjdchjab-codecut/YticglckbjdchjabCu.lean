/- The walk of the statement that what is cut off, or turned, is none. -/
import Derived.Test.YticglckbjdchjabTj
namespace Go.Proofs.Yticglckbjdchjab
open Go.RowKit

theorem and_mask (n : Int) (k : Nat) (hk : k < 4611686018427387904) : ∃ q : Nat, q ≤ k ∧ bits .and .i64 n (k : Int) = (q : Int) := by
  have hb : (BitVec.ofInt 64 (k : Int)).toNat = k := ofInt_u64 k (by omega)
  have h : ((BitVec.ofInt 64 n) &&& (BitVec.ofInt 64 (k : Int))).toNat ≤ k := by
    rw [BitVec.toNat_and, hb]
    exact Nat.and_le_right
  refine ⟨((BitVec.ofInt 64 n) &&& (BitVec.ofInt 64 (k : Int))).toNat, h, ?_⟩
  show IntKind.i64.wrap (((BitVec.ofInt 64 n) &&& (BitVec.ofInt 64 (k : Int))).toNat : Int) = _
  exact wrap_small _ (by omega) (by omega)
theorem turn_bit (y : UInt8) (D : Nat) (hD : D ≤ 7) : ∃ z : UInt8, z ≠ y ∧ bits .xor .u8 (y.toNat : Int) (2 ^ D % 256) = (z.toNat : Int) := by
  have hp : 2 ^ D % 256 < 256 := Nat.mod_lt _ (by omega)
  have h0 : ∀ d : Fin 8, 2 ^ d.val % 256 ≠ 0 := by decide
  have hne := h0 ⟨D, by omega⟩
  simp only at hne
  have e : (UInt8.ofNat (2 ^ D)).toNat = 2 ^ D % 256 := by rw [UInt8.toNat_ofNat']
  refine ⟨y ^^^ UInt8.ofNat (2 ^ D), ?_, ?_⟩
  · intro h
    have h2 : y ^^^ (y ^^^ UInt8.ofNat (2 ^ D)) = y ^^^ y := by rw [h]
    rw [← UInt8.xor_assoc, UInt8.xor_self, UInt8.zero_xor] at h2
    rw [h2] at e
    exact hne e.symm
  · rw [← u8_xor, e]
    congr 1
theorem putFrame_nil (ao2 : Option Addr) (m2 c2 : Nat) (body : List UInt8) (w : World) (hm : m2 + 13 ≤ 140737488355328) (hs2 : Src w ao2 m2 c2 body) :
    Calls Try.prog 14 #[.slice none 0 0, .slice ao2 m2 c2] w fun e w' => ∃ g c, e = .returned (.slice (some ⟨g, 0, none⟩) (frame body).length c) ∧ New w w' (.slice (some ⟨g, 0, none⟩) (frame body).length c) (frame body).length (frame body) :=
  (putFrame_any none 0 0 [] ao2 m2 c2 body w (by omega) (src_nil w) hs2).mono fun e w' ⟨v, he, h⟩ => by
    simp only [Nat.zero_add, List.nil_append] at h
    obtain ⟨g, c, rfl, _, _⟩ := h.1.form (by rw [frame_length]; omega)
    exact ⟨g, c, he, h⟩
theorem New.cells {w w' : World} {g n c : Nat} {l : List UInt8} (h : New w w' (.slice (some ⟨g, 0, none⟩) n c) n l) : ∃ cur, w.heap.size ≤ g ∧ w'.heap[g]? = some (.cells cur 5 (0, 0)) ∧ n ≤ c ∧ ∀ i, i < n → cur[i]? = some (.int .u8 ((fn l i).toNat : Int)) := by
  have hl := h.len
  rcases h.1.2 with ⟨h0, _⟩ | ⟨g', cap, cur, e, hg, hh, hc, _, hs, ht⟩
  · cases h0
  · cases e
    refine ⟨cur, hg, hh, hc, fun i hi => ?_⟩
    have := bv_at l i (by omega)
    rw [← ht, List.getElem?_take, if_pos (by omega), Array.getElem?_toList] at this
    exact this
theorem src_set {w : World} {g n c : Nat} {cur : Array Value} {l : List UInt8} {fr : Nat × Nat} (hh : w.heap[g]? = some (.cells cur 5 fr)) (hl : l.length = n) (hc : n ≤ c) (hcur : ∀ i, i < n → cur[i]? = some (.int .u8 ((fn l i).toNat : Int))) (k : Nat) (hk : k < n) (z : UInt8) : Src (w.setCell ⟨g, k, none⟩ (.int .u8 (z.toNat : Int))) (some ⟨g, 0, none⟩) n c (l.set k z) := by
  refine Src.mk_bytes (by rw [List.length_set]; exact hl) hc (fun i hi => ?_)
  rw [Nat.zero_add]
  by_cases e : i = k
  · subst e
    have hcell : w.cell? ⟨g, i, none⟩ = some (.int .u8 ((fn l i).toNat : Int)) := by rw [cell_of_row _ _ _ _ _ _ hh]; exact hcur i hi
    rw [World.cell?_setCell_same' w ⟨g, i, none⟩ _ (by rw [hcell]; rfl)]
    congr 3
    unfold fn
    rw [List.getD_eq_getElem?_getD, List.getElem?_set_self (by omega)]
    rfl
  · rw [World.cell?_setCell_other _ _ _ _ (fun e2 => e (by cases e2; rfl)), cell_of_row _ _ _ _ _ _ hh, hcur i hi]
    congr 3
    unfold fn
    rw [List.getD_eq_getElem?_getD, List.getD_eq_getElem?_getD, List.getElem?_set_ne (fun h => e h.symm)]

set_option maxHeartbeats 1000000 in
set_option maxRecDepth 100000 in
theorem cut_great (ao : Option Addr) (m c : Nat) (body : List UInt8) (at_ bit : Int) (w : World) (hm : m ≤ 140737488351232) (hs : Src w ao m c body) (h1 : 1000 < m) :
    Calls Try.prog 4 #[.slice ao m c, .int .i64 at_, .int .i64 bit] w fun e w' => e = .returned (.bool true) ∧ Below w.heap.size w w' := by
  have KP := keep (putFrame_nil ao m c body w (by omega) hs)
  have hfl := frame_length body
  rw [hs.len] at hfl
  obtain ⟨L, hL⟩ : ∃ L, (frame body).length = L := ⟨_, rfl⟩
  rw [hL] at hfl KP
  clear hL hs
  have h5 : ¬ ((L : Int) < 5) := by omega
  have h1' : (1000 : Int) < (m : Int) := by omega
  clear hfl
  go_enter Try.func4, Try.ntmps4
  go_wp2_with fail
  go_fit KP.out
  rintro e w1 ⟨g, c1, rfl, hn1⟩
  have b1 := keep hn1.2
  clear hn1 KP
  go_wp2
  go_ret
  exact ⟨rfl, b1.out⟩

set_option maxHeartbeats 2000000 in
set_option maxRecDepth 100000 in
theorem cut_small (ao : Option Addr) (m c : Nat) (body : List UInt8) (at_ bit : Int) (w : World) (hs : Src w ao m c body) (h1 : m ≤ 1000) :
    Calls Try.prog 4 #[.slice ao m c, .int .i64 at_, .int .i64 bit] w fun e w' => e = .returned (.bool true) ∧ Below w.heap.size w w' := by
  have KP := keep (putFrame_nil ao m c body w (by omega) hs)
  have hfl := frame_length body
  have hbl := hs.len
  have HS := keep hs
  obtain ⟨h, hh⟩ : ∃ h, (num body.length).length = h := ⟨_, rfl⟩
  rw [hh, hbl] at hfl
  have hh9 := num_le body.length (by omega)
  have hh1 := num_pos body.length
  rw [hh] at hh9 hh1
  obtain ⟨A, hA, hand⟩ := and_mask at_ 65535 (by omega)
  obtain ⟨D, hD, hand2⟩ := and_mask bit 7 (by omega)
  have hand' : bits .and .i64 at_ (65535 : Int) = (A : Int) := hand
  have hand2' : bits .and .i64 bit (7 : Int) = (D : Int) := hand2
  clear hand hand2
  have TC := keep (fun j (hj : j < (frame body).length) => tfr_cut (B := body) (most := (m : Int)) j hj)
  have TT := keep (fun q (hq : q < 4 + m) (y : UInt8) (hy : y ≠ fn (frame body) (h + q)) => by
    have := tfr_turned (B := body) (most := (m : Int)) q (by rw [hbl]; exact hq) y
    rw [hh] at this
    exact this hy)
  obtain ⟨L, hL⟩ : ∃ L, (frame body).length = L := ⟨_, rfl⟩
  have HL := keep hL
  rw [hL] at KP TC hfl
  clear hL hs hh
  generalize frame body = FB at KP TC TT HL
  have h5 : ¬ ((L : Int) < 5) := by omega
  have h1' : ¬ ((1000 : Int) < (m : Int)) := by omega
  have HFL := keep hfl
  have hLh : (L : Int) - (m : Int) - 4 = (h : Int) := by omega
  have hL4 : (L : Int) - (h : Int) = ((4 + m : Nat) : Int) := by omega
  have hh0 : ¬ ((h : Int) < 1) := by omega
  have hL0 : 0 < L := by omega
  clear hfl
  go_enter Try.func4, Try.ntmps4
  go_wp2_with fail
  go_fit KP.out
  rintro e w1 ⟨g, c1, rfl, hn1⟩
  have N1 := keep hn1
  have S1 := keep (Src.owns hn1.1)
  have hc1 := S1.out.cap
  have b1 := keep hn1.2
  clear hn1 KP
  obtain ⟨j, hj⟩ : ∃ j, A % L = j := ⟨_, rfl⟩
  have hjL : j < L := by rw [← hj]; exact Nat.mod_lt _ hL0
  have hmod : (A : Int).tmod (L : Int) = (j : Int) := by rw [Int.tmod_eq_emod_of_nonneg (by omega), ← hj]; rfl
  obtain ⟨q, hq⟩ : ∃ q, A % (4 + m) = q := ⟨_, rfl⟩
  have hqm : q < 4 + m := by rw [← hq]; exact Nat.mod_lt _ (by omega)
  have hmod2 : (A : Int) % (4 + (m : Int)) = (q : Int) := by rw [← hq]; rfl
  clear hj hq
  have KT := keep (takeFrame_any (some ⟨g, 0, none⟩) j c1 (FB.take j) (m : Int) w1 (by omega) (S1.out.head j (by omega)))
  rw [TC.out j hjL] at KT
  have hj0 : (0 : Int) ≤ (j : Int) := by omega
  have hjc : (j : Int) ≤ (c1 : Int) := by omega
  go_wp2_with fail
  go_fit KT.out
  rintro e w2 (⟨_, _, _, _, _, _, hx, _⟩ | ⟨_, rfl, hb2⟩)
  · cases hx
  have b2 := keep (b1.out.trans (hb2.mono b1.out.size))
  obtain ⟨cur, hg, hhp, _, hcur⟩ := N1.out.cells
  have hhp2 : w2.heap[g]? = some (.cells cur 5 (0, 0)) := (hb2.block g (Array.getElem?_eq_some_iff.1 hhp).1).trans hhp
  have HH := keep hhp2
  have HC := keep hcur
  have hcell : w2.drew.cell? ⟨g, h + q, none⟩ = some (.int .u8 ((fn FB (h + q)).toNat : Int)) := by
    rw [cell_of_row _ _ _ _ _ _ (show w2.drew.heap[g]? = _ from hhp2)]; exact hcur (h + q) (by have := HFL.out; omega)
  have hfro : w2.drew.frozen? ⟨g, h + q, none⟩ = false := frozen_of_row _ _ _ _ _ (show w2.drew.heap[g]? = _ from hhp2)
  clear hb2 hhp hhp2 hcur KT b1
  have hi0 : (0 : Int) ≤ (h : Int) + (q : Int) := by omega
  have hiL : (h : Int) + (q : Int) < (L : Int) := by have := HFL.out; omega
  have hit : ((h : Int) + (q : Int)).toNat = h + q := by omega
  obtain ⟨z, hzy, hz⟩ := turn_bit (fn FB (h + q)) D hD
  have T2 := keep (TT.out q hqm z hzy)
  have S3 := keep (src_set HH.out HL.out hc1 HC.out (h + q) (by have := HFL.out; omega) z)
  have b3 : Hid (Below w.heap.size w (w2.setCell ⟨g, h + q, none⟩ (.int .u8 (z.toNat : Int)))) := b2.out.setCell hg _
  clear HH HC hzy
  go_wp2_with fail
  go_region
  generalize hw3 : (w2.setCell ⟨g, h + q, none⟩ (.int .u8 (z.toNat : Int))) = w3 at S3 b3 ⊢
  clear hw3 hcell hfro hz b2
  have KT := keep (takeFrame_any (some ⟨g, 0, none⟩) L c1 (FB.set (h + q) z) (m : Int) w3.drew (by have := HFL.out; omega) (S3.out.below (Below.refl _ _).drew))
  rw [T2.out] at KT
  clear S3 T2 TT TC
  go_wp2_with fail
  go_fit KT.out
  rintro e w4 (⟨_, _, _, _, _, _, hx, _⟩ | ⟨_, rfl, hb4⟩)
  · cases hx
  have b4 := keep (b3.out.drew.trans (hb4.mono b3.out.drew.size))
  clear hb4 b3 KT
  go_wp2
  go_ret
  exact ⟨rfl, b4.out⟩
theorem cut_walk (ao : Option Addr) (m c : Nat) (body : List UInt8) (at_ bit : Int) (w : World) (hm : m ≤ 140737488351232) (_ha : -9223372036854775808 ≤ at_ ∧ at_ < 9223372036854775808) (_hb : -9223372036854775808 ≤ bit ∧ bit < 9223372036854775808) (hs : Src w ao m c body) :
    Calls Try.prog 4 #[.slice ao m c, .int .i64 at_, .int .i64 bit] w fun e w' => e = .returned (.bool true) ∧ Below w.heap.size w w' := by
  by_cases h1 : 1000 < m
  · exact cut_great ao m c body at_ bit w hm hs h1
  · exact cut_small ao m c body at_ bit w hs (by omega)
end Go.Proofs.Yticglckbjdchjab
