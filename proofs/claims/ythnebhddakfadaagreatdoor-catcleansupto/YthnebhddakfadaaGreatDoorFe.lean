/- The walks of cat's number, is, the closures of Save, and remove. -/
import Derived.Test.YthnebhddakfadaaGreatDoorJoinFd
import Derived.Test.YthnebhddakfadaaGreatDoorJoinOz
import Derived.Test.YthnebhddakfadaaGreatDoorPq
import Derived.Lib.AtoiErrMem
namespace Go.Proofs.YthnebhddakfadaaGreatDoor
open Go.RowKit
open Dk (File Disk)

/-- The library's variables as they were laid. -/
structure Gl (w : World) : Prop where
  tab : Tab w
  syn : ∃ ev, w.cell? ⟨1, 0, none⟩ = some ev ∧ (ev = .nilIface ∨ ∃ te pe, ev = .iface te pe)
  rng : ∃ ev, w.cell? ⟨2, 0, none⟩ = some ev ∧ (ev = .nilIface ∨ ∃ te pe, ev = .iface te pe)
theorem Gl.pos {w : World} (h : Gl w) : 0 < w.heap.size := by
  obtain ⟨ev, h1, _⟩ := h.syn
  exact Nat.lt_of_le_of_lt (Nat.zero_le _) (World.block_lt_of_cell? w _ h1)
theorem Gl.below {w w' : World} (h : Gl w) (hb : Below w.heap.size w w') : Gl w' := by
  obtain ⟨a, a1, a2⟩ := h.syn
  obtain ⟨c, c1, c2⟩ := h.rng
  exact ⟨h.tab.below hb h.pos, ⟨a, below_cell hb a1, a2⟩, ⟨c, below_cell hb c1, c2⟩⟩
/-- Atoi's number, whatever the text. -/
theorem atoi_any (S : List UInt8) (hl : S.length ≤ 281474976710656) (w : World) (h : Gl w) :
    Calls Tryz.prog 105 #[.string ⟨S.toArray⟩] w fun e w' => (∃ x, e = .returned (.tuple #[.int .i64 (saidOf S), x])) ∧ Below w.heap.size w w' := by
  have hs : (⟨S.toArray⟩ : ByteArray).size = S.length := by simp [ByteArray.size]
  have hd : (⟨S.toArray⟩ : ByteArray).data.toList = S := by simp
  cases ha : Lib.atoiAll S with
  | ok v =>
    have e1 : saidOf S = v := by unfold saidOf; rw [ha]
    rw [e1]
    refine (sh_strconv_Atoi_ok ⟨S.toArray⟩ (by omega) v (by rw [hd]; exact ha) w).mono ?_
    rintro e w' ⟨rfl, rfl | ⟨t, rfl⟩⟩
    · exact ⟨⟨_, rfl⟩, Below.refl _ _⟩
    · exact ⟨⟨_, rfl⟩, Lib.bytesWorld_below _ _ _⟩
  | «syntax» =>
    have e1 : saidOf S = 0 := by unfold saidOf; rw [ha]
    rw [e1]
    obtain ⟨ev, h1, h2⟩ := h.syn
    refine (sh_strconv_Atoi_syntax ⟨S.toArray⟩ (by omega) (by rw [hd]; exact ha) ev w h1 h2).mono ?_
    rintro e w' ⟨N, rfl, _, _, hb⟩
    exact ⟨⟨_, rfl⟩, hb⟩
  | range =>
    have e1 : saidOf S = Lib.atoiSat S := by unfold saidOf; rw [ha]
    rw [e1]
    obtain ⟨ev, h1, h2⟩ := h.rng
    refine (sh_strconv_Atoi_range ⟨S.toArray⟩ (by omega) (by rw [hd]; exact ha) ev w h1 h2).mono ?_
    rintro e w' ⟨N, rfl, _, _, hb⟩
    rw [hd]
    exact ⟨⟨_, rfl⟩, hb⟩
theorem tail_len : ∀ (l : List UInt8), (tailOf l).length ≤ l.length
  | [] => Nat.le_refl _
  | c :: t => by
    have := tail_len t
    unfold tailOf
    split
    · simp
    · rw [List.length_cons]; omega
/-- Does the number's name in that folder come back? -/
def backF (fo l : List UInt8) : Bool := calledL fo (numOf l) == l
theorem back_in {fo l : List UInt8} (h : l ≠ []) : backF fo l = inF fo l := by
  unfold backF inF calledL
  cases isSeg (numOf l) with
  | true =>
    rw [if_pos rfl, Bool.true_and]
    rw [Bool.eq_iff_iff, beq_iff_eq, decide_eq_true_eq]
  | false =>
    rw [if_neg (by decide), Bool.false_and, beq_eq_false_iff_ne]
    exact fun e => h e.symm
set_option maxHeartbeats 1000000 in
set_option maxRecDepth 100000 in
theorem number_ver (fo : List UInt8) (S : List UInt8) (hl : S.length ≤ 1000000) (w : World) (h : Gl w)
    (hN : ∀ n w', Below w.heap.size w w' → Calls Tryz.prog 53 #[.int .i64 n] w' fun e w'' => e = .returned (.string ⟨(calledL fo n).toArray⟩) ∧ Below w'.heap.size w' w'') :
    Calls Tryz.prog 62 #[.func (.func 53) #[] #[], .string ⟨S.toArray⟩] w fun e w' => e = .returned (.tuple #[.int .i64 (numOf S), .bool (backF fo S)]) ∧ Below w.heap.size w w' := by
  have CU := keep (cut_all S (by omega) w)
  have HA : Hid (∀ w', Below w.heap.size w w' → Calls Tryz.prog 105 #[.string ⟨(tailOf S).toArray⟩] w' fun e w'' => (∃ x, e = .returned (.tuple #[.int .i64 (numOf S), x])) ∧ Below w'.heap.size w' w'') := fun w' hb => atoi_any (tailOf S) (by have := tail_len S; omega) w' (h.below hb)
  have HN : Hid (∀ w', Below w.heap.size w w' → Calls Tryz.prog 53 #[.int .i64 (numOf S)] w' fun e w'' => e = .returned (.string ⟨(calledL fo (numOf S)).toArray⟩) ∧ Below w'.heap.size w' w'') := fun w' hb => hN (numOf S) w' hb
  have e1 : backF fo S = (calledL fo (numOf S) == S) := rfl
  rw [e1]
  obtain ⟨z, hz⟩ : ∃ z, numOf S = z := ⟨_, rfl⟩
  rw [hz] at HA HN ⊢
  obtain ⟨c, hc⟩ : ∃ c, calledL fo z = c := ⟨_, rfl⟩
  rw [hc] at HN ⊢
  obtain ⟨t, ht⟩ : ∃ t, tailOf S = t := ⟨_, rfl⟩
  rw [ht] at CU HA
  obtain ⟨y, hy⟩ : ∃ y, decide (0 ≤ Lib.indexByte S 47) = y := ⟨_, rfl⟩
  rw [hy] at CU
  clear hy ht hc hz h hN e1
  go_enter Tryz.func62, Tryz.ntmps62
  go_wp2_with fail
  refine CU.out.mono ?_
  rintro e w1 ⟨⟨x, rfl⟩, hb1⟩
  have B1 := keep hb1
  clear hb1
  go_wp2_with fail
  refine (HA.out w1 B1.out).mono ?_
  rintro e w2 ⟨⟨x2, rfl⟩, hb2⟩
  have B2 := keep (B1.out.trans (hb2.mono B1.out.size))
  clear hb2
  go_wp2_with fail
  refine (HN.out w2 B2.out).mono ?_
  rintro e w3 ⟨rfl, hb3⟩
  have B3 := keep (B2.out.trans (hb3.mono B2.out.size))
  clear hb3
  go_wp2
  go_ret2
  exact ⟨rfl, B3.out⟩
set_option maxHeartbeats 1000000 in
set_option maxRecDepth 100000 in
theorem is_ver (fo : List UInt8) (S : List UInt8) (hl : S.length ≤ 1000000) (w : World) (h : Gl w)
    (hN : ∀ n w', Below w.heap.size w w' → Calls Tryz.prog 53 #[.int .i64 n] w' fun e w'' => e = .returned (.string ⟨(calledL fo n).toArray⟩) ∧ Below w'.heap.size w' w'') :
    Calls Tryz.prog 59 #[.func (.func 53) #[] #[], .string ⟨S.toArray⟩] w fun e w' => e = .returned (.bool (backF fo S)) ∧ Below w.heap.size w w' := by
  have NU := keep (number_ver fo S hl w h hN)
  obtain ⟨z, hz⟩ : ∃ z, numOf S = z := ⟨_, rfl⟩
  obtain ⟨y, hy⟩ : ∃ y, backF fo S = y := ⟨_, rfl⟩
  rw [hz, hy] at NU
  rw [hy]
  clear hz hy h hN
  go_enter Tryz.func59, Tryz.ntmps59
  go_wp2_with fail
  refine NU.out.mono ?_
  rintro e w1 ⟨rfl, hb1⟩
  have B1 := keep hb1
  clear hb1
  go_wp2
  go_ret
  exact ⟨rfl, B1.out⟩
set_option maxHeartbeats 1000000 in
set_option maxRecDepth 100000 in
theorem save1_any (n own : List UInt8) (bx : Nat) (w : World) (hb : w.cell? ⟨bx, 0, none⟩ = some (.string ⟨own.toArray⟩)) :
    Calls Tryz.prog 55 #[.string ⟨n.toArray⟩, .pointer (some ⟨bx, 0, none⟩)] w fun e w' => e = .returned (.bool (n == tmpN || n == own)) ∧ w' = w := by
  unfold tmpN
  cases h1 : (n == [99, 117, 114, 126]) with
  | true =>
    go_enter Tryz.func55, Tryz.ntmps55
    go_wp2
    go_ret
    exact ⟨rfl, rfl⟩
  | false =>
    go_enter Tryz.func55, Tryz.ntmps55
    go_wp2
    go_ret
    exact ⟨rfl, rfl⟩
set_option maxHeartbeats 1000000 in
set_option maxRecDepth 100000 in
theorem save2_any (n own : List UInt8) (bx : Nat) (w : World) (hb : w.cell? ⟨bx, 0, none⟩ = some (.string ⟨own.toArray⟩)) (h : Gl w) (hn : n ≠ []) (hl : n.length ≤ 1000000) :
    Calls Tryz.prog 58 #[.string ⟨n.toArray⟩, .pointer (some ⟨bx, 0, none⟩)] w fun e w' => e = .returned (.bool (isMan n && !(n == own))) ∧ Below w.heap.size w w' := by
  have IS := keep (is_ver [109, 97, 110, 47] n hl w h (fun z w' hb => version_any z w' (h.below hb).tab))
  rw [back_in hn] at IS
  have e1 : isMan n = inF [109, 97, 110, 47] n := rfl
  rw [e1]
  obtain ⟨y, hy⟩ : ∃ y, inF [109, 97, 110, 47] n = y := ⟨_, rfl⟩
  rw [hy] at IS ⊢
  have HB : Hid (∀ w', Below w.heap.size w w' → w'.cell? ⟨bx, 0, none⟩ = some (.string ⟨own.toArray⟩)) := fun w' hb' => below_cell hb' hb
  clear hy h hb e1 hn
  cases y with
  | true =>
    go_enter Tryz.func58, Tryz.ntmps58
    go_wp2_with fail
    refine IS.out.mono ?_
    rintro e w1 ⟨rfl, hb1⟩
    have B1 := keep hb1
    have c1 := HB.out w1 hb1
    clear hb1
    go_wp2
    go_ret
    exact ⟨rfl, B1.out⟩
  | false =>
    go_enter Tryz.func58, Tryz.ntmps58
    go_wp2_with fail
    refine IS.out.mono ?_
    rintro e w1 ⟨rfl, hb1⟩
    have B1 := keep hb1
    have c1 := HB.out w1 hb1
    clear hb1
    go_wp2
    go_ret
    exact ⟨rfl, B1.out⟩
theorem rmv_snoc (p : List UInt8 → Bool) (n : List UInt8) : ∀ (ns : List (List UInt8)) (d : Disk), (rmv p d ns).1 = 0 → rmv p d (ns ++ [n]) = if p n then Dk.raw (rmv p d ns).2 3 n [] [] else rmv p d ns
  | [], d, _ => by
    simp only [List.nil_append, rmv]
    split
    · split
      · rename_i h
        cases hr : Dk.raw d 3 n [] [] with
        | mk a b => rw [hr] at h; simp only at h; rw [h]
      · rfl
    · rfl
  | m :: t, d, h => by
    simp only [List.cons_append, rmv] at h ⊢
    split at h
    · rename_i h1
      rw [if_pos h1, if_pos h1]
      split at h
      · rename_i h2
        rw [if_pos h2, if_pos h2]
        exact rmv_snoc p n t _ h
      · rename_i h2
        exact absurd h h2
    · rename_i h1
      rw [if_neg h1, if_neg h1]
      exact rmv_snoc p n t _ h
theorem rmv_stop (p : List UInt8 → Bool) (us : List (List UInt8)) : ∀ (ns : List (List UInt8)) (d : Disk), (rmv p d ns).1 ≠ 0 → rmv p d (ns ++ us) = rmv p d ns
  | [], d, h => absurd rfl h
  | m :: t, d, h => by
    simp only [List.cons_append, rmv] at h ⊢
    split
    · rename_i h1
      rw [if_pos h1] at h
      split
      · rename_i h2
        rw [if_pos h2] at h
        exact rmv_stop p us t _ h
      · rfl
    · rename_i h1
      rw [if_neg h1] at h
      exact rmv_stop p us t _ h
theorem named_len {n : List UInt8} (h : Dk.named n = true) : 1 ≤ n.length ∧ n.length ≤ 100 := by
  unfold Dk.named at h
  simp only [Bool.and_eq_true, decide_eq_true_eq] at h
  exact h.1
/-- How far remove has come. -/
structure RmI (w : World) (S0 : Nat → Prop) (b : Nat) (v : Value) (ns : List (List UInt8)) (B : Nat) (W : World) (D : Disk) : Prop where
  own : ∃ S, Own (Go.Proofs.YthnebhddakfadaaGreatDoor.mine S0 b) w S W b D ∧ ∀ g, Go.Proofs.YthnebhddakfadaaGreatDoor.mine S b g → g < w.heap.size ∨ B ≤ g
  row : W.ownsRow w.heap.size 9 1 v ns.length (rv strKind ns)
  rlt : ∀ g, v.ownBlock = some g → g < B
  size : B ≤ W.heap.size
section
variable {w : World} {S0 : Nat → Prop} {b : Nat} {v : Value} {ns : List (List UInt8)} {B : Nat} {W W' : World} {D : Disk}
theorem RmI.next (h : RmI w S0 b v ns B W D) (hb : Below W.heap.size W W') : RmI w S0 b v ns B W' D := by
  obtain ⟨S, h1, h2⟩ := h.own
  exact ⟨⟨S, h1.next hb, h2⟩, own_block h.row (fun g hg => hb.block g (own_size h.row hg)), h.rlt, Nat.le_trans h.size hb.size⟩
theorem RmI.raw (h : RmI w S0 b v ns B W D) {S : Nat → Prop} (h1 : Own (Go.Proofs.YthnebhddakfadaaGreatDoor.mine S0 b) w S W b D) (h2 : ∀ g, Go.Proofs.YthnebhddakfadaaGreatDoor.mine S b g → g < w.heap.size ∨ B ≤ g) {r : Nat × Disk} {e : Ending} (hr : RawPost S W b r e W') : e = .returned (.int .i64 (r.1 : Int)) ∧ RmI w S0 b v ns B W' r.2 := by
  obtain ⟨h3, h4⟩ := h1.raw hr
  refine ⟨h3, ⟨_, h4, fun g hg => ?_⟩, own_block h.row (fun g hg => hr.2.2.block g (own_size h.row hg) (fun e => ?_)), h.rlt, Nat.le_trans h.size hr.2.2.size⟩
  · have hs := h.size
    rcases hg with (hg | hg) | hg
    · exact h2 g (.inl hg)
    · exact .inr (by omega)
    · exact h2 g (.inr hg)
  · have h5 := h2 g e
    have h6 := (h.row.lt g hg).1
    have h7 := h.rlt g hg
    omega
end
end Go.Proofs.YthnebhddakfadaaGreatDoor
