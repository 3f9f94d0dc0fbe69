/- The walk of disk's Append: a new file; all its cases. -/
import Derived.Test.YtfjhfecjbheipaaD8
namespace Go.Proofs.Ytfjhfecjbheipaa
open Go.RowKit
open Dk (File Disk)

set_option maxHeartbeats 1000000 in
set_option maxRecDepth 100000 in
theorem append_go_new (S : Nat → Prop) (b : Nat) (d : Disk) (n t : List UInt8) (ao2 : Option Addr) (c2 : Nat) (w : World) (h : Mem S w b d) (hn : n.length ≤ maxLen) (htl : (t.length : Int) ≤ 4096) (hsrc : Steady (Go.Proofs.Ytfjhfecjbheipaa.mine S b) w fun w => Src w ao2 t.length c2 t) (hz : ahead d.dark [n] = 0) (hd : d.dark = false) (ho0 : d.done ≤ 4611686018427387904) (hx : Dk.look d.files n = none) (hroom : ¬ ((d.cap : Int) - (Dk.used d.files : Int)) < (16 + (n.length : Int) + (t.length : Int))) (ht : (Dk.tick d).1 = true) :
    Calls Try.prog 19 #[.pointer (some ⟨b, 0, none⟩), .string ⟨n.toArray⟩, .slice ao2 t.length c2] w fun e w' => RawPost S w b (0, { (Dk.tick d).2 with files := Dk.put d.files ⟨n, 0, t⟩ }) e w' := by
  obtain ⟨m, l, left, h⟩ := h
  have HM := keep h
  clear h
  have HZ := keep hz
  have HX := keep hx
  have HD := keep hd
  have HS := keep hsrc
  have hnl : n.length ≤ 100 := by
    have := HZ.out
    unfold ahead at this
    simp only [List.all_cons, List.all_nil, Bool.and_true] at this
    cases hh : Dk.named n with
    | true => exact (named_true hh).2.1
    | false => rw [hh] at this; simp at this
  clear hz hx hd hsrc
  have HT := keep ht
  clear ht
  obtain ⟨F, hF, F0, F1⟩ : ∃ F : Int, (d.cap : Int) - (Dk.used d.files : Int) = F ∧ 0 ≤ F ∧ F ≤ 1099511627776 := ⟨_, rfl, by have := HM.out.good.room; omega, by have := HM.out.capb; omega⟩
  rw [hF] at hroom
  have HF := keep hF
  clear hF
  go_enter Try.func19, Try.ntmps19
  go_wp2_with fail
  have hm1 := HM.out.below ((Below.refl _ w).alloc (Nat.le_refl _) (.cells #[.string ⟨n.toArray⟩] 9))
  refine (ready_box b m _ left d.dark _ _ 1 1 [n] _ hm1.box (one_name w n 9) (by omega)).mono ?_
  rintro e w2 ⟨rfl, hb2⟩
  have hb3 := keep (((Below.refl _ w).alloc (Nat.le_refl _) (.cells #[.string ⟨n.toArray⟩] 9)).trans (hb2.mono (by simp)))
  clear hb2 hm1
  rw [HZ.out]
  have hm2 := HM.out.below hb3.out
  have c02 := hm2.box.c0
  have c12 : ∀ o : Obj, (w2.alloc o).cell? ⟨b, 1, none⟩ = some (.int .i64 F) := fun o => by
    have := (hm2.below ((Below.refl _ _).alloc (Nat.le_refl _) o)).box.c1
    rw [HF.out] at this
    exact this
  have HL := keep (look_absent hm2.map hm2.rel hn HX.out)
  have HM2 := keep hm2
  clear hm2
  go_wp2_with (first | (at_lookup; refine wpList_look rfl _ _ _ _ rfl _ _ _ rfl rfl HL.out ?_) | fail)
  refine (cost_any n ao2 t.length c2 _ (by omega) (by omega)).mono ?_
  rintro e w9 ⟨rfl, rfl⟩
  go_wp2_with fail
  refine (count_mem S b m l left d _ (HM2.out.below ((Below.refl _ _).alloc (Nat.le_refl _) _)) HD.out ho0).mono ?_
  rintro e w3 ⟨left', rfl, hm3, hk3⟩
  rw [HT.out]
  have hk4 := keep (((Kept.of_below (U := Go.Proofs.Ytfjhfecjbheipaa.mine S b) hb3.out).alloc (.cells #[.int .i64 0, .slice none 0 0] 58)).trans (hk3.wide (fun g _ e => .inr e)))
  have hm4 := keep hm3
  have hw2 : b < w2.heap.size := Nat.lt_of_lt_of_le HM.out.box.lt hb3.out.size
  have k0 : w3.cell? ⟨w2.heap.size, 0, none⟩ = some (.int .i64 0) := local_cell hk3 hw2 (cell_of_row _ _ _ _ _ _ (heap_alloc_new w2 _))
  have k1 : w3.cell? ⟨w2.heap.size, 1, none⟩ = some (.slice none 0 0) := local_cell hk3 hw2 (cell_of_row _ _ _ _ _ _ (heap_alloc_new w2 _))
  have c03 := hm3.box.c0
  have hfl : (Dk.tick d).2.files = d.files := (Dk.tick_files d).1
  have hcp : (Dk.tick d).2.cap = d.cap := (Dk.tick_files d).2
  have hO3 : Hid (w3.drew.ownsRow 0 5 1 (.slice none 0 0) 0 (bv [])) := World.ownsRow_nil _ _ _ _
  have hS3 : Hid (Src w3.drew ao2 t.length c2 t) := HS.out _ hk4.out.drew
  have hgood : Dk.Good { (Dk.tick d).2 with files := Dk.put d.files ⟨n, 0, t⟩ } := by
    have h1 := Dk.raw_good 0 n [] t HM.out.good
    have hok : Dk.okay 0 n [] t = true := by
      have := HZ.out
      unfold ahead at this
      simp only [List.all_cons, List.all_nil, Bool.and_true] at this
      show (Dk.named n && decide (t.length ≤ 4096)) = true
      cases hh : Dk.named n with
      | true => simp; omega
      | false => rw [hh] at this; simp at this
    rw [Dk.raw_do hok HD.out (l := Dk.put d.files ⟨n, 0, t⟩) (by
      have hF2 := HF.out
      simp only [Dk.planOf, Dk.planAppend, HX.out]
      rw [if_neg (by omega)]), Dk.write_go HT.out] at h1
    exact h1
  have KEY0 := append_key (t := t) (fb := []) (sf := 0) (ao := none) (c := 0) (L := w2.heap.size) (F := F) (mo := 16 + (n.length : Int) + (t.length : Int)) (fs := Dk.put d.files ⟨n, 0, t⟩) (n := n) hm3 hk4.out HM.out.box.lt HM.out.lt hn hb3.out.size
    (fun g hg => by cases hg) k0 k1
    (by rw [hfl]; rfl) hgood (by rw [hcp, hfl]; exact HF.out) (by
      have h1 := Dk.used_put_new (f := ⟨n, 0, t⟩) HX.out
      have h2 := HF.out
      simp only [Dk.cost] at h1
      rw [hcp]
      omega)
  simp only [List.length_nil, Nat.zero_add, List.nil_append, Int.natCast_zero] at KEY0
  have KEY := keep KEY0
  clear KEY0
  have hwr : IntKind.i64.wrap (F - (16 + (n.length : Int) + (t.length : Int))) = F - (16 + (n.length : Int) + (t.length : Int)) := wrap_small _ (by omega) (by omega)
  obtain ⟨i0, hi, hz0, hz1, hz2⟩ := info_parts info5
  clear hm3 hk3 c02 c12 hfl hcp hgood
  go_wp2_with fail
  go_region_law (refine step_append_at rfl _ _ 35 rfl i0 _ Try.underlying35 hi hz0 hz1 hz2 rfl _ 0 [] rfl hO3.out _ t.length c2 t rfl hS3.out (by omega) ?_; intro v4 w4 q1 q2 q3; simp only [Nat.zero_add, List.nil_append] at q1; obtain ⟨ao4, c4, rfl, c04, k04, k14, w5, hrun5, c15, f5, fin⟩ := KEY.out v4 w4 q1 q2 q3; clear q1 q2 q3)
  all_goals go_wp2
  all_goals (first | go_ret | (go_outline; trace_state))
  all_goals (first | exact fin.out | exact fin.out.drew)
theorem append_raw (S : Nat → Prop) (b : Nat) (d : Disk) (n t : List UInt8) (ao2 : Option Addr) (c2 : Nat) (w : World) (h : Mem S w b d) (hn : n.length ≤ maxLen) (hsrc : Steady (Go.Proofs.Ytfjhfecjbheipaa.mine S b) w fun w => Src w ao2 t.length c2 t) (ho : d.done ≤ 4611686018427387904) (x : List UInt8) :
    Calls Try.prog 19 #[.pointer (some ⟨b, 0, none⟩), .string ⟨n.toArray⟩, .slice ao2 t.length c2] w fun e w' => RawPost S w b (Dk.raw d 0 n x t) e w' := by
  have stay : ∀ w', Below w.heap.size w w' → Mem (more S w w') w' b d ∧ Kept (Go.Proofs.Ytfjhfecjbheipaa.mine S b) w w' := fun w' hb => by
    obtain ⟨m, l, left, h⟩ := h
    exact h.stay hb
  rcases Nat.lt_or_ge 4096 t.length with hl | hl
  · rw [Dk.raw_arg (by show (Dk.named n && decide (t.length ≤ 4096)) = false; rw [decide_eq_false (by omega), Bool.and_false])]
    refine (append_long b n t ao2 c2 w (by omega)).mono ?_
    rintro e w' ⟨rfl, hb⟩
    exact ⟨rfl, stay w' hb⟩
  have htl : (t.length : Int) ≤ 4096 := by omega
  have hdt : decide (t.length ≤ 4096) = true := decide_eq_true hl
  cases hna : Dk.named n with
  | false =>
    rw [Dk.raw_arg (by show (Dk.named n && decide (t.length ≤ 4096)) = false; rw [hna]; rfl)]
    refine (append_ahead S b d n t ao2 c2 w h htl 1 (ahead_arg hna) rfl).mono ?_
    rintro e w' ⟨rfl, hb⟩
    exact ⟨rfl, stay w' hb⟩
  | true =>
    have hok : Dk.okay 0 n x t = true := by show (Dk.named n && decide (t.length ≤ 4096)) = true; rw [hna, hdt]; rfl
    cases hd : d.dark with
    | true =>
      rw [Dk.raw_dark hok hd]
      refine (append_ahead S b d n t ao2 c2 w h htl 5 (by rw [hd]; exact ahead_dark hna) rfl).mono ?_
      rintro e w' ⟨rfl, hb⟩
      exact ⟨rfl, stay w' hb⟩
    | false =>
      have hz : ahead d.dark [n] = 0 := by rw [hd]; exact ahead_ok hna
      cases hx : Dk.look d.files n with
      | none =>
        by_cases hf : ((d.cap : Int) - (Dk.used d.files : Int)) < (16 + (n.length : Int) + (t.length : Int))
        · rw [Dk.raw_own (e := 4) hok hd (by simp only [Dk.planOf, Dk.planAppend, hx]; rw [if_pos (by omega)])]
          refine (append_full_new S b d n t ao2 c2 w h hn htl hsrc hz hd hx hf).mono ?_
          rintro e w' ⟨rfl, hb⟩
          exact ⟨rfl, stay w' hb⟩
        · rw [Dk.raw_do (l := Dk.put d.files ⟨n, 0, t⟩) hok hd (by simp only [Dk.planOf, Dk.planAppend, hx]; rw [if_neg (by omega)])]
          cases ht : (Dk.tick d).1 with
          | false => rw [Dk.write_cut ht]; exact append_cut_new S b d n t ao2 c2 w h hn htl hsrc hz hd ho hx hf ht
          | true => rw [Dk.write_go ht]; exact append_go_new S b d n t ao2 c2 w h hn htl hsrc hz hd ho hx hf ht
      | some f =>
        obtain ⟨nm, sf, fb⟩ := f
        by_cases hf : ((d.cap : Int) - (Dk.used d.files : Int)) < (t.length : Int)
        · rw [Dk.raw_own (e := 4) hok hd (by simp only [Dk.planOf, Dk.planAppend, hx]; rw [if_pos (by omega)])]
          refine (append_full_there S b d n nm t sf fb ao2 c2 w h hn htl hsrc hz hd hx hf).mono ?_
          rintro e w' ⟨rfl, hb⟩
          exact ⟨rfl, stay w' hb⟩
        · rw [Dk.raw_do (l := Dk.put d.files ⟨nm, sf, fb ++ t⟩) hok hd (by simp only [Dk.planOf, Dk.planAppend, hx]; rw [if_neg (by omega)])]
          cases ht : (Dk.tick d).1 with
          | false => rw [Dk.write_cut ht]; exact append_cut_there S b d n nm t sf fb ao2 c2 w h hn htl hsrc hz hd ho hx hf ht
          | true => rw [Dk.write_go ht]; exact append_go_there S b d n nm t sf fb ao2 c2 w h hn htl hsrc hz hd ho hx hf ht
end Go.Proofs.Ytfjhfecjbheipaa
