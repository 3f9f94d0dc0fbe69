/- The walk of disk's Remove. -/
/- The walk of cat's remove, told by Save$1. -/
/- The walk of cat's remove, told by Save$2. -/
import Derived.Test.YthnebhddakfadaaGreatDoorJoinOz
import Derived.Test.YthnebhddakfadaaGreatDoorFe
namespace Go.Proofs.YthnebhddakfadaaGreatDoor
open Go.RowKit
open Dk (File Disk)

set_option maxHeartbeats 1000000 in
set_option maxRecDepth 100000 in
theorem remove_ahead (S : Nat → Prop) (b : Nat) (d : Disk) (n : List UInt8) (w : World) (h : Mem S w b d) (z : Int) (hz : ahead d.dark [n] = z) (h0 : (z == 0) = false) :
    Calls Tryz.prog 101 #[.pointer (some ⟨b, 0, none⟩), .string ⟨n.toArray⟩] w fun e w' => e = .returned (.int .i64 z) ∧ Below w.heap.size w w' := by
  obtain ⟨m, l, left, h⟩ := h
  have HM := keep h
  clear h
  have HZ := keep hz
  clear hz
  go_enter Tryz.func101, Tryz.ntmps101
  go_wp2_with fail
  have hm1 := HM.out.below ((Below.refl _ w).alloc (Nat.le_refl _) (.cells #[.string ⟨n.toArray⟩] 9))
  refine (ready_box b m _ left d.dark _ _ 1 1 [n] _ hm1.box (one_name w n 9) (by omega)).mono ?_
  rintro e w2 ⟨rfl, hb2⟩
  have hb3 := keep (((Below.refl _ w).alloc (Nat.le_refl _) (.cells #[.string ⟨n.toArray⟩] 9)).trans (hb2.mono (by simp)))
  clear hb2 hm1
  rw [HZ.out]
  go_wp2
  go_ret
  exact ⟨rfl, hb3.out⟩
set_option maxHeartbeats 1000000 in
set_option maxRecDepth 100000 in
theorem remove_none (S : Nat → Prop) (b : Nat) (d : Disk) (n : List UInt8) (w : World) (h : Mem S w b d) (hn : n.length ≤ maxLen) (hz : ahead d.dark [n] = 0) (hx : Dk.look d.files n = none) :
    Calls Tryz.prog 101 #[.pointer (some ⟨b, 0, none⟩), .string ⟨n.toArray⟩] w fun e w' => e = .returned (.int .i64 3) ∧ Below w.heap.size w w' := by
  obtain ⟨m, l, left, h⟩ := h
  have HM := keep h
  clear h
  have HZ := keep hz
  have HX := keep hx
  clear hz hx
  go_enter Tryz.func101, Tryz.ntmps101
  go_wp2_with fail
  have hm1 := HM.out.below ((Below.refl _ w).alloc (Nat.le_refl _) (.cells #[.string ⟨n.toArray⟩] 9))
  refine (ready_box b m _ left d.dark _ _ 1 1 [n] _ hm1.box (one_name w n 9) (by omega)).mono ?_
  rintro e w2 ⟨rfl, hb2⟩
  have hb3 := keep (((Below.refl _ w).alloc (Nat.le_refl _) (.cells #[.string ⟨n.toArray⟩] 9)).trans (hb2.mono (by simp)))
  clear hb2 hm1
  rw [HZ.out]
  have hm2 := HM.out.below hb3.out
  have c02 := hm2.box.c0
  have HL := keep (look_absent hm2.map hm2.rel hn HX.out)
  clear hm2
  go_wp2_with (at_lookup; refine wpList_look rfl _ _ _ _ rfl _ _ _ rfl rfl HL.out ?_)
  go_ret
  exact ⟨rfl, by first | exact hb3.out | exact hb3.out.alloc hb3.out.size _⟩
theorem remove_used {d : Disk} {n nm : List UInt8} {sf : Nat} {fb : List UInt8} (hg : Dk.Good d) (hx : Dk.look d.files n = some ⟨nm, sf, fb⟩) : (d.cap : Int) - (Dk.used (Dk.drop d.files n) : Int) = (d.cap : Int) - (Dk.used d.files : Int) + (16 + (n.length : Int) + (fb.length : Int)) := by
  have hn := (Dk.look_some hx).2
  have := Dk.used_drop hg.rising hx
  simp only [Dk.cost] at this
  rw [show nm = n from hn] at this
  omega
set_option maxHeartbeats 1000000 in
set_option maxRecDepth 100000 in
theorem remove_cut (S : Nat → Prop) (b : Nat) (d : Disk) (n nm : List UInt8) (sf : Nat) (fb : List UInt8) (w : World) (h : Mem S w b d) (hn : n.length ≤ maxLen) (hz : ahead d.dark [n] = 0) (hd : d.dark = false) (ho0 : d.done ≤ 4611686018427387904) (hx : Dk.look d.files n = some ⟨nm, sf, fb⟩) (ht : (Dk.tick d).1 = false) :
    Calls Tryz.prog 101 #[.pointer (some ⟨b, 0, none⟩), .string ⟨n.toArray⟩] w fun e w' => RawPost S w b (5, (Dk.tick d).2) e w' := by
  obtain ⟨m, l, left, h⟩ := h
  have HM := keep h
  clear h
  have HZ := keep hz
  have HX := keep hx
  have HD := keep hd
  have HT := keep ht
  clear hz hx hd ht
  go_enter Tryz.func101, Tryz.ntmps101
  go_wp2_with fail
  have hm1 := HM.out.below ((Below.refl _ w).alloc (Nat.le_refl _) (.cells #[.string ⟨n.toArray⟩] 9))
  refine (ready_box b m _ left d.dark _ _ 1 1 [n] _ hm1.box (one_name w n 9) (by omega)).mono ?_
  rintro e w2 ⟨rfl, hb2⟩
  have hb3 := keep (((Below.refl _ w).alloc (Nat.le_refl _) (.cells #[.string ⟨n.toArray⟩] 9)).trans (hb2.mono (by simp)))
  clear hb2 hm1
  rw [HZ.out]
  have hm2 := HM.out.below hb3.out
  have c02 := hm2.box.c0
  obtain ⟨ao, c, hl, ho, hs, hin⟩ := look_there hm2.map hm2.rel hn HX.out
  have HL := keep hl
  have HO := keep ho
  have HIN := keep hin
  have HM2 := keep hm2
  clear hl ho hs hin hm2
  go_wp2_with (first | (at_lookup; refine wpList_look rfl _ _ _ _ rfl _ _ _ rfl rfl HL.out ?_) | fail)
  refine (count_mem S b m l left d _ (HM2.out.below ((Below.refl _ _).alloc (Nat.le_refl _) _)) HD.out ho0).mono ?_
  rintro e w3 ⟨left', rfl, hm3, hk3⟩
  rw [HT.out]
  have hm4 := keep hm3
  have hk4 := keep (((Kept.of_below (U := Go.Proofs.YthnebhddakfadaaGreatDoor.mine S b) hb3.out).alloc (.cells #[.int .i64 (sf : Int), .slice ao fb.length c] 95)).trans (hk3.wide (fun g _ e => .inr e)))
  clear hm3 hk3
  go_wp2
  go_ret
  have hout := HM.out.out
  have hlt := HM.out.box.lt
  exact ⟨rfl, MemAt.grow hlt hout hm4.out.lt hm4.out hk4.out (Kept.refl _ _)⟩
set_option maxHeartbeats 1000000 in
set_option maxRecDepth 100000 in
theorem remove_go (S : Nat → Prop) (b : Nat) (d : Disk) (n nm : List UInt8) (sf : Nat) (fb : List UInt8) (w : World) (h : Mem S w b d) (hn : n.length ≤ maxLen) (hz : ahead d.dark [n] = 0) (hd : d.dark = false) (ho0 : d.done ≤ 4611686018427387904) (hx : Dk.look d.files n = some ⟨nm, sf, fb⟩) (ht : (Dk.tick d).1 = true) :
    Calls Tryz.prog 101 #[.pointer (some ⟨b, 0, none⟩), .string ⟨n.toArray⟩] w fun e w' => RawPost S w b (0, { (Dk.tick d).2 with files := Dk.drop d.files n }) e w' := by
  obtain ⟨m, l, left, h⟩ := h
  have HM := keep h
  clear h
  have HZ := keep hz
  have HX := keep hx
  have HD := keep hd
  have HT := keep ht
  clear hz hx hd ht
  go_enter Tryz.func101, Tryz.ntmps101
  go_wp2_with fail
  have hm1 := HM.out.below ((Below.refl _ w).alloc (Nat.le_refl _) (.cells #[.string ⟨n.toArray⟩] 9))
  refine (ready_box b m _ left d.dark _ _ 1 1 [n] _ hm1.box (one_name w n 9) (by omega)).mono ?_
  rintro e w2 ⟨rfl, hb2⟩
  have hb3 := keep (((Below.refl _ w).alloc (Nat.le_refl _) (.cells #[.string ⟨n.toArray⟩] 9)).trans (hb2.mono (by simp)))
  clear hb2 hm1
  rw [HZ.out]
  have hm2 := HM.out.below hb3.out
  have c02 := hm2.box.c0
  obtain ⟨ao, c, hl, ho, hs, hin⟩ := look_there hm2.map hm2.rel hn HX.out
  have HL := keep hl
  have HO := keep ho
  have HIN := keep hin
  have HM2 := keep hm2
  clear hl ho hs hin hm2
  go_wp2_with (first | (at_lookup; refine wpList_look rfl _ _ _ _ rfl _ _ _ rfl rfl HL.out ?_) | fail)
  refine (count_mem S b m l left d _ (HM2.out.below ((Below.refl _ _).alloc (Nat.le_refl _) _)) HD.out ho0).mono ?_
  rintro e w3 ⟨left', rfl, hm3, hk3⟩
  rw [HT.out]
  have hw2 : b < w2.heap.size := Nat.lt_of_lt_of_le HM.out.box.lt hb3.out.size
  have k0 : w3.cell? ⟨w2.heap.size, 0, none⟩ = some (.int .i64 (sf : Int)) := local_cell hk3 hw2 (cell_of_row _ _ _ _ _ _ (heap_alloc_new w2 _))
  have k1 : w3.cell? ⟨w2.heap.size, 1, none⟩ = some (.slice ao fb.length c) := local_cell hk3 hw2 (cell_of_row _ _ _ _ _ _ (heap_alloc_new w2 _))
  have c03 := hm3.box.c0
  have hm4 := keep hm3
  have hfew := keep hm3.few
  have hk4 := keep (((Kept.of_below (U := Go.Proofs.YthnebhddakfadaaGreatDoor.mine S b) hb3.out).alloc (.cells #[.int .i64 (sf : Int), .slice ao fb.length c] 95)).trans (hk3.wide (fun g _ e => .inr e)))
  have ho3 : Hid (w3.ownsRow 0 5 1 (.slice ao fb.length c) fb.length (bv fb)) := own_block HO.out (fun g hg => by
    have hS := (HM.out.foot.arrs _ HIN.out g hg).1
    have hlt := (HM2.out.lt g hS)
    rw [hk3.block g (by simp; omega) (fun e => HM.out.out (by rw [← (show g = b from e)]; exact hS)), Below.heap_alloc _ _ g hlt])
  clear hm3 hk3 c02
  have c13 := hm4.out.box.c1
  have f3 := hm4.out.box.warm
  go_wp2_with (at_delete; refine wpList_strike rfl _ _ _ _ rfl 95 Tryz.underlying9 Tryz.underlying85 m l n rfl rfl hm4.out.map hn ?_; intro w5 hmap5 hg5; have hmap6 := keep hmap5; have hg6 := keep hg5; clear hmap5 hg5)
  have hbm : ¬ b = m := fun e => hm4.out.out (by rw [e]; exact hm4.out.foot.mine)
  have hbox5 := hm4.out.box.same (w' := w5) (hg6.out.block b hm4.out.box.lt (fun e => hbm (Option.some.inj e)))
  have hsz3 : w2.heap.size < w3.heap.size := World.block_lt_of_cell? w3 _ k1
  have hne5 : some w2.heap.size ≠ some m := fun e => by
    have h1 := HM2.out.lt m HM2.out.foot.mine
    have := Option.some.inj e
    omega
  have k15 : w5.cell? ⟨w2.heap.size, 1, none⟩ = some (.slice ao fb.length c) := hg6.out.cell k1 hne5
  have c15 := hbox5.c1
  have f5 := hbox5.warm
  have HB5 := keep hbox5
  obtain ⟨F, hF, F0, F1⟩ : ∃ F : Int, ((Dk.tick d).2.cap : Int) - (Dk.used (Dk.tick d).2.files : Int) = F ∧ 0 ≤ F ∧ F ≤ 1099511627776 := ⟨_, rfl, by have := hm4.out.good.room; omega, by have := hm4.out.capb; omega⟩
  have hfbl : fb.length ≤ 1099511627776 := by
    have h1 := used_mem (Dk.look_some HX.out).1
    have h2 := HM.out.good.room
    have h3 := HM.out.capb
    simp only [Dk.cost] at h1
    omega
  have hnl : n.length ≤ 100 := by
    have := HM.out.good.names _ (Dk.look_some HX.out).1
    rw [(Dk.look_some HX.out).2] at this
    exact (named_true this).2.1
  rw [hF] at c15 HB5
  have HF := keep hF
  have hwr : IntKind.i64.wrap (F + (16 + (n.length : Int) + (fb.length : Int))) = F + (16 + (n.length : Int) + (fb.length : Int)) := wrap_small _ (by omega) (by omega)
  have fin : Hid (RawPost S w b (0, { (Dk.tick d).2 with files := Dk.drop d.files n }) (.returned (.int .i64 0)) ((w5.setCell ⟨b, 1, none⟩ (.int .i64 (F + (16 + (n.length : Int) + (fb.length : Int))))).drew)) := by
    have hM := hm4.out
    have hgood : Dk.Good { (Dk.tick d).2 with files := Dk.drop d.files n } := by
      have h1 := Dk.raw_good 3 n [] [] HM.out.good
      have hok : Dk.okay 3 n [] [] = true := by
        have := HZ.out
        unfold ahead at this
        simp only [List.all_cons, List.all_nil, Bool.and_true] at this
        show Dk.named n = true
        cases hh : Dk.named n with
        | true => rfl
        | false => rw [hh] at this; simp at this
      rw [Dk.raw_do hok HD.out (l := Dk.drop d.files n) (by simp only [Dk.planOf, Dk.planRemove, HX.out]), Dk.write_go HT.out] at h1
      exact h1
    have hfl : (Dk.tick d).2.files = d.files := (Dk.tick_files d).1
    have hcp : (Dk.tick d).2.cap = d.cap := (Dk.tick_files d).2
    have hblk : ∀ g, g ≠ b → ((w5.setCell ⟨b, 1, none⟩ (.int .i64 (F + (16 + (n.length : Int) + (fb.length : Int))))).drew).heap[g]? = w5.heap[g]? := fun g hg => Below.heap_setCell w5 ⟨b, 1, none⟩ _ g hg
    have hst := hM.struck (n := n) (fs := Dk.drop d.files n) (w' := ((w5.setCell ⟨b, 1, none⟩ (.int .i64 (F + (16 + (n.length : Int) + (fb.length : Int))))).drew)) (hmap6.out.same (hblk m (fun e => hbm e.symm))) (by rw [hfl])
      (fun x hx hne g hg => (hblk g (fun e => hM.out (by rw [← e]; exact (hM.foot.arrs x hx g hg).1))).trans (hg6.out.block g (hM.lt g (hM.foot.arrs x hx g hg).1) (fun e => (hM.foot.arrs x hx g hg).2 (Option.some.inj e))))
      (by
        have e1 : ((Dk.tick d).2.cap : Int) - (Dk.used (Dk.drop d.files n) : Int) = F + (16 + (n.length : Int) + (fb.length : Int)) := by
          rw [← hF, hcp, hfl]
          exact remove_used HM.out.good HX.out
        rw [e1]
        exact HB5.out.set1 _)
      (by show w3.heap.size ≤ (w5.setCell _ _).heap.size; simp only [World.setCell, Array.size_modify]; exact hg6.out.size) hgood
    refine ⟨rfl, MemAt.grow HM.out.box.lt HM.out.out hst.lt hst hk4.out ?_⟩
    exact (((Kept.refl _ _).grown hg6.out (fun k e => .inl (.inl (by cases e; exact hM.foot.mine)))).setCell (p := ⟨b, 1, none⟩) (.inl (.inr rfl)) _).drew
  clear hbox5 k0 k1 c03 c13 f3 hF
  go_wp2_with fail
  go_region_with (go_at_call 70; refine (cost_any n ao fb.length c _ (by omega) (by omega)).mono ?_; rintro e w6 ⟨rfl, rfl⟩)
  all_goals go_wp2
  all_goals go_ret
  all_goals exact fin.out
theorem remove_raw (S : Nat → Prop) (b : Nat) (d : Disk) (n : List UInt8) (w : World) (h : Mem S w b d) (hn : n.length ≤ maxLen) (ho : d.done ≤ 4611686018427387904) (x y : List UInt8) :
    Calls Tryz.prog 101 #[.pointer (some ⟨b, 0, none⟩), .string ⟨n.toArray⟩] w fun e w' => RawPost S w b (Dk.raw d 3 n x y) e w' := by
  have stay : ∀ w', Below w.heap.size w w' → Mem (more S w w') w' b d ∧ Kept (Go.Proofs.YthnebhddakfadaaGreatDoor.mine S b) w w' := fun w' hb => by
    obtain ⟨m, l, left, h⟩ := h
    exact h.stay hb
  cases hna : Dk.named n with
  | false =>
    rw [Dk.raw_arg (by exact hna)]
    refine (remove_ahead S b d n w h 1 (ahead_arg hna) rfl).mono ?_
    rintro e w' ⟨rfl, hb⟩
    exact ⟨rfl, stay w' hb⟩
  | true =>
    cases hd : d.dark with
    | true =>
      rw [Dk.raw_dark (by exact hna) hd]
      refine (remove_ahead S b d n w h 5 (by rw [hd]; exact ahead_dark hna) rfl).mono ?_
      rintro e w' ⟨rfl, hb⟩
      exact ⟨rfl, stay w' hb⟩
    | false =>
      have hz : ahead d.dark [n] = 0 := by rw [hd]; exact ahead_ok hna
      cases hx : Dk.look d.files n with
      | none =>
        rw [Dk.raw_own (e := 3) (by exact hna) hd (by simp only [Dk.planOf, Dk.planRemove, hx])]
        refine (remove_none S b d n w h hn hz hx).mono ?_
        rintro e w' ⟨rfl, hb⟩
        exact ⟨rfl, stay w' hb⟩
      | some f =>
        obtain ⟨nm, sf, fb⟩ := f
        rw [Dk.raw_do (l := Dk.drop d.files n) (by exact hna) hd (by simp only [Dk.planOf, Dk.planRemove, hx])]
        cases ht : (Dk.tick d).1 with
        | false => rw [Dk.write_cut ht]; exact remove_cut S b d n nm sf fb w h hn hz hd ho hx ht
        | true => rw [Dk.write_go ht]; exact remove_go S b d n nm sf fb w h hn hz hd ho hx ht
end Go.Proofs.YthnebhddakfadaaGreatDoor
namespace Go.Proofs.YthnebhddakfadaaGreatDoor
open Go.RowKit
open Dk (File Disk)

set_option maxHeartbeats 2000000 in
set_option maxRecDepth 100000 in
theorem remove_one (S : Nat → Prop) (w : World) (b : Nat) (d : Disk) (bx : Nat) (p : List UInt8 → Bool) (hM : Mem S w b d) (hdn : d.done ≤ 4611680000000000000)
    (hT : ∀ n W, Dk.named n = true → Kept (Go.Proofs.YthnebhddakfadaaGreatDoor.mine S b) w W → Calls Tryz.prog 55 #[.string ⟨n.toArray⟩, .pointer (some ⟨bx, 0, none⟩)] W fun e W' => e = .returned (.bool (p n)) ∧ Below W.heap.size W W') :
    Calls Tryz.prog 54 #[.pointer (some ⟨b, 0, none⟩), .func (.func 55) #[] #[.pointer (some ⟨bx, 0, none⟩)]] w fun e w' => ∃ S', e = .returned (.int .i64 ((rmvAll p d).1 : Int)) ∧ Own (Go.Proofs.YthnebhddakfadaaGreatDoor.mine S b) w S' w' b (rmvAll p d).2 := by
  have HM := keep hM
  have hgood := hM.good
  have hlen : d.files.length ≤ 1099511627776 := by
    have h1 := files_cap hgood
    obtain ⟨_, _, _, h2⟩ := hM
    have := h2.capb
    omega
  have HNM : Hid (∀ f ∈ d.files, Dk.named f.name = true) := hgood.names
  have HT := keep hT
  have NM : Hid (Calls Tryz.prog 28 #[.pointer (some ⟨b, 0, none⟩)] w fun e w' => ∃ ao c, e = .returned (.slice ao d.files.length c) ∧ w'.ownsRow w.heap.size 9 1 (.slice ao d.files.length c) d.files.length (rv strKind (namesOf d)) ∧ RSrc strKind w' ao d.files.length c (namesOf d) ∧ Below w.heap.size w w') := by
    obtain ⟨m, l, left, h2⟩ := hM
    exact names_mem S b m l left d w h2
  have HG := keep hgood
  clear hM hT hgood
  have HNL : Hid ((namesOf d).length = d.files.length) := by show _ = _; unfold namesOf; rw [List.length_map]
  have HND : Hid (∀ n ∈ namesOf d, Dk.named n = true) := fun n hn => by
    unfold namesOf at hn
    obtain ⟨f, h1, rfl⟩ := List.mem_map.1 hn
    exact HNM.out f h1
  have HR : Hid (rmvAll p d = rmv p d (namesOf d)) := rfl
  rw [HR.out]
  obtain ⟨ns, hns⟩ : ∃ ns, namesOf d = ns := ⟨_, rfl⟩
  rw [hns] at NM HNL HND ⊢
  obtain ⟨n, hn⟩ : ∃ n, d.files.length = n := ⟨_, rfl⟩
  rw [hn] at NM HNL hlen
  clear HR hns hn HNM
  go_enter Tryz.func54, Tryz.ntmps54
  go_wp2_with fail
  refine NM.out.mono ?_
  rintro e w1 ⟨ao, c, rfl, ho, hs, hb1⟩
  have I1 : Hid (RmI w S b (.slice ao n c) ns w1.heap.size w1 d) := by
    refine ⟨⟨S, (Own.start HM.out).next hb1, fun g hg => ?_⟩, by rw [HNL.out]; exact ho, fun g hg => own_size ho hg, Nat.le_refl _⟩
    rcases hg with hg | hg
    · exact .inl (HM.out.lt.1 g hg)
    · exact .inl (by rw [hg]; exact HM.out.lt.2.1)
  clear ho hs hb1 NM HM
  obtain ⟨B, hB⟩ : ∃ B, w1.heap.size = B := ⟨_, rfl⟩
  rw [hB] at I1
  clear hB
  go_wp2
  go_loopw [11] (fun i wr => ∃ (k : Nat) (D : Disk), k ≤ n ∧ i = .int .i64 (k : Int) ∧ Hid (rmv p d (ns.take k) = (0, D) ∧ RmI w S b (.slice ao n c) ns B wr D)) (fun i _ => n - (intOf i).toNat)
  case atStart => exact ⟨0, d, Nat.zero_le _, rfl, rfl, I1.out⟩
  case round =>
    clear I1
    obtain ⟨k, D, hk, rfl, hI⟩ := hrel
    by_cases hlt : k < n
    · obtain ⟨s, hs⟩ : ∃ s, ns[k]? = some s := ⟨ns[k]'(by rw [HNL.out]; exact hlt), List.getElem?_eq_getElem _⟩
      obtain ⟨a2, c2, e2, hsrc, _⟩ := RSrc.own strKind_ok hI.out.2.row (fun _ _ => trivial)
      rw [HNL.out] at e2 hsrc
      cases e2
      obtain ⟨g, off, rfl, hgw, hcell⟩ := strs_at hsrc (by omega)
      have hc1 := hcell k s hs
      have SN := keep (HND.out s (List.mem_of_getElem? hs))
      have TK : Hid (ns.take (k + 1) = ns.take k ++ [s]) := by show _ = _; rw [List.take_add_one, hs]; rfl
      have DN : Hid (D.done ≤ 4611686018427387904) := by
        have h1 := (rmv_far p (ns.take k) d HG.out).done
        rw [hI.out.1, List.length_take] at h1
        show _ ≤ _
        simp only at h1
        omega
      have FULL : Hid (∀ E D2, E ≠ 0 → rmv p d (ns.take (k + 1)) = (E, D2) → rmv p d ns = (E, D2)) := fun E D2 hE h1 => by
        have h2 := rmv_stop p (ns.drop (k + 1)) (ns.take (k + 1)) d (by rw [h1]; exact hE)
        rw [List.take_append_drop] at h2
        rw [h2, h1]
      have hlt1 : (k : Int) < (n : Int) := by omega
      have hk0 : (0 : Int) ≤ (k : Int) := by omega
      have KW : Hid (Kept (Go.Proofs.YthnebhddakfadaaGreatDoor.mine S b) w wr) := by obtain ⟨S1, h1, _⟩ := hI.out.2.own; exact h1.bel
      have CT := keep (HT.out s wr SN.out KW.out)
      clear hs hcell hsrc
      cases hp : p s with
      | true =>
        rw [hp] at CT
        have HP := keep hp
        clear hp
        go_wp2_with fail
        refine CT.out.mono ?_
        rintro e w2 ⟨rfl, hb2⟩
        obtain ⟨S1, O1, G1⟩ := (hI.out.2.next hb2).own
        have I2 := keep (hI.out.2.next hb2)
        have RM := keep (remove_raw S1 b D s w2 O1.mem (by have := named_len SN.out; unfold maxLen; omega) DN.out [] [])
        have OO := keep O1
        have GG := keep G1
        clear hb2 O1 G1 CT hc1
        go_wp2_with fail
        refine RM.out.mono ?_
        rintro e w3 hr
        obtain ⟨rfl, hI3⟩ := I2.out.raw OO.out GG.out hr
        have SN1 : Hid (rmv p d (ns.take (k + 1)) = Dk.raw D 3 s [] []) := by
          show _ = _
          rw [TK.out, rmv_snoc p s _ d (by rw [hI.out.1]), hI.out.1, HP.out, if_pos rfl]
        have I3 := keep hI3
        obtain ⟨X, hX⟩ : ∃ X, Dk.raw D 3 s [] [] = X := ⟨_, rfl⟩
        rw [hX] at SN1 I3 ⊢
        obtain ⟨E, D2⟩ := X
        simp only at I3 ⊢
        clear hr hI3 hX RM
        by_cases hE : E = 0
        · subst hE
          go_wp2
          go_roundw
          case rel => exact ⟨k + 1, D2, by omega, by go_num, SN1.out, I3.out⟩
          case measure => simp [intOf]; omega
        · have hE1 : ((E : Int) == 0) = false := by rw [beq_eq_false_iff_ne]; omega
          have HE := keep hE
          clear hE
          go_wp2
          go_ret
          rw [FULL.out E D2 HE.out SN1.out]
          obtain ⟨S1, O1, _⟩ := I3.out.own
          first | exact ⟨S1, rfl, O1⟩ | exact ⟨rfl, S1, O1⟩
      | false =>
        rw [hp] at CT
        have HP := keep hp
        clear hp
        go_wp2_with fail
        refine CT.out.mono ?_
        rintro e w2 ⟨rfl, hb2⟩
        have I2 := keep (hI.out.2.next hb2)
        have SN1 : Hid (rmv p d (ns.take (k + 1)) = (0, D)) := by
          show _ = _
          rw [TK.out, rmv_snoc p s _ d (by rw [hI.out.1]), hI.out.1, HP.out, if_neg (by decide)]
        clear hb2 CT hc1
        go_wp2
        go_roundw
        case rel => exact ⟨k + 1, D, by omega, by go_num, SN1.out, I2.out⟩
        case measure => simp [intOf]; omega
    · obtain rfl : k = n := by omega
      have hlt1 : ¬ (k : Int) < (k : Int) := by omega
      have h1 := hI.out.1
      rw [List.take_of_length_le (by rw [HNL.out]; exact Nat.le_refl _)] at h1
      have H1 := keep h1
      clear h1
      go_wp2
      go_ret
      rw [H1.out]
      obtain ⟨S1, O1, _⟩ := hI.out.2.own
      first | exact ⟨S1, rfl, O1⟩ | exact ⟨rfl, S1, O1⟩
end Go.Proofs.YthnebhddakfadaaGreatDoor
namespace Go.Proofs.YthnebhddakfadaaGreatDoor
open Go.RowKit
open Dk (File Disk)

set_option maxHeartbeats 2000000 in
set_option maxRecDepth 100000 in
theorem remove_two (S : Nat → Prop) (w : World) (b : Nat) (d : Disk) (bx : Nat) (p : List UInt8 → Bool) (hM : Mem S w b d) (hdn : d.done ≤ 4611680000000000000)
    (hT : ∀ n W, Dk.named n = true → Kept (Go.Proofs.YthnebhddakfadaaGreatDoor.mine S b) w W → Calls Tryz.prog 58 #[.string ⟨n.toArray⟩, .pointer (some ⟨bx, 0, none⟩)] W fun e W' => e = .returned (.bool (p n)) ∧ Below W.heap.size W W') :
    Calls Tryz.prog 54 #[.pointer (some ⟨b, 0, none⟩), .func (.func 58) #[] #[.pointer (some ⟨bx, 0, none⟩)]] w fun e w' => ∃ S', e = .returned (.int .i64 ((rmvAll p d).1 : Int)) ∧ Own (Go.Proofs.YthnebhddakfadaaGreatDoor.mine S b) w S' w' b (rmvAll p d).2 := by
  have HM := keep hM
  have hgood := hM.good
  have hlen : d.files.length ≤ 1099511627776 := by
    have h1 := files_cap hgood
    obtain ⟨_, _, _, h2⟩ := hM
    have := h2.capb
    omega
  have HNM : Hid (∀ f ∈ d.files, Dk.named f.name = true) := hgood.names
  have HT := keep hT
  have NM : Hid (Calls Tryz.prog 28 #[.pointer (some ⟨b, 0, none⟩)] w fun e w' => ∃ ao c, e = .returned (.slice ao d.files.length c) ∧ w'.ownsRow w.heap.size 9 1 (.slice ao d.files.length c) d.files.length (rv strKind (namesOf d)) ∧ RSrc strKind w' ao d.files.length c (namesOf d) ∧ Below w.heap.size w w') := by
    obtain ⟨m, l, left, h2⟩ := hM
    exact names_mem S b m l left d w h2
  have HG := keep hgood
  clear hM hT hgood
  have HNL : Hid ((namesOf d).length = d.files.length) := by show _ = _; unfold namesOf; rw [List.length_map]
  have HND : Hid (∀ n ∈ namesOf d, Dk.named n = true) := fun n hn => by
    unfold namesOf at hn
    obtain ⟨f, h1, rfl⟩ := List.mem_map.1 hn
    exact HNM.out f h1
  have HR : Hid (rmvAll p d = rmv p d (namesOf d)) := rfl
  rw [HR.out]
  obtain ⟨ns, hns⟩ : ∃ ns, namesOf d = ns := ⟨_, rfl⟩
  rw [hns] at NM HNL HND ⊢
  obtain ⟨n, hn⟩ : ∃ n, d.files.length = n := ⟨_, rfl⟩
  rw [hn] at NM HNL hlen
  clear HR hns hn HNM
  go_enter Tryz.func54, Tryz.ntmps54
  go_wp2_with fail
  refine NM.out.mono ?_
  rintro e w1 ⟨ao, c, rfl, ho, hs, hb1⟩
  have I1 : Hid (RmI w S b (.slice ao n c) ns w1.heap.size w1 d) := by
    refine ⟨⟨S, (Own.start HM.out).next hb1, fun g hg => ?_⟩, by rw [HNL.out]; exact ho, fun g hg => own_size ho hg, Nat.le_refl _⟩
    rcases hg with hg | hg
    · exact .inl (HM.out.lt.1 g hg)
    · exact .inl (by rw [hg]; exact HM.out.lt.2.1)
  clear ho hs hb1 NM HM
  obtain ⟨B, hB⟩ : ∃ B, w1.heap.size = B := ⟨_, rfl⟩
  rw [hB] at I1
  clear hB
  go_wp2
  go_loopw [11] (fun i wr => ∃ (k : Nat) (D : Disk), k ≤ n ∧ i = .int .i64 (k : Int) ∧ Hid (rmv p d (ns.take k) = (0, D) ∧ RmI w S b (.slice ao n c) ns B wr D)) (fun i _ => n - (intOf i).toNat)
  case atStart => exact ⟨0, d, Nat.zero_le _, rfl, rfl, I1.out⟩
  case round =>
    clear I1
    obtain ⟨k, D, hk, rfl, hI⟩ := hrel
    by_cases hlt : k < n
    · obtain ⟨s, hs⟩ : ∃ s, ns[k]? = some s := ⟨ns[k]'(by rw [HNL.out]; exact hlt), List.getElem?_eq_getElem _⟩
      obtain ⟨a2, c2, e2, hsrc, _⟩ := RSrc.own strKind_ok hI.out.2.row (fun _ _ => trivial)
      rw [HNL.out] at e2 hsrc
      cases e2
      obtain ⟨g, off, rfl, hgw, hcell⟩ := strs_at hsrc (by omega)
      have hc1 := hcell k s hs
      have SN := keep (HND.out s (List.mem_of_getElem? hs))
      have TK : Hid (ns.take (k + 1) = ns.take k ++ [s]) := by show _ = _; rw [List.take_add_one, hs]; rfl
      have DN : Hid (D.done ≤ 4611686018427387904) := by
        have h1 := (rmv_far p (ns.take k) d HG.out).done
        rw [hI.out.1, List.length_take] at h1
        show _ ≤ _
        simp only at h1
        omega
      have FULL : Hid (∀ E D2, E ≠ 0 → rmv p d (ns.take (k + 1)) = (E, D2) → rmv p d ns = (E, D2)) := fun E D2 hE h1 => by
        have h2 := rmv_stop p (ns.drop (k + 1)) (ns.take (k + 1)) d (by rw [h1]; exact hE)
        rw [List.take_append_drop] at h2
        rw [h2, h1]
      have hlt1 : (k : Int) < (n : Int) := by omega
      have hk0 : (0 : Int) ≤ (k : Int) := by omega
      have KW : Hid (Kept (Go.Proofs.YthnebhddakfadaaGreatDoor.mine S b) w wr) := by obtain ⟨S1, h1, _⟩ := hI.out.2.own; exact h1.bel
      have CT := keep (HT.out s wr SN.out KW.out)
      clear hs hcell hsrc
      cases hp : p s with
      | true =>
        rw [hp] at CT
        have HP := keep hp
        clear hp
        go_wp2_with fail
        refine CT.out.mono ?_
        rintro e w2 ⟨rfl, hb2⟩
        obtain ⟨S1, O1, G1⟩ := (hI.out.2.next hb2).own
        have I2 := keep (hI.out.2.next hb2)
        have RM := keep (remove_raw S1 b D s w2 O1.mem (by have := named_len SN.out; unfold maxLen; omega) DN.out [] [])
        have OO := keep O1
        have GG := keep G1
        clear hb2 O1 G1 CT hc1
        go_wp2_with fail
        refine RM.out.mono ?_
        rintro e w3 hr
        obtain ⟨rfl, hI3⟩ := I2.out.raw OO.out GG.out hr
        have SN1 : Hid (rmv p d (ns.take (k + 1)) = Dk.raw D 3 s [] []) := by
          show _ = _
          rw [TK.out, rmv_snoc p s _ d (by rw [hI.out.1]), hI.out.1, HP.out, if_pos rfl]
        have I3 := keep hI3
        obtain ⟨X, hX⟩ : ∃ X, Dk.raw D 3 s [] [] = X := ⟨_, rfl⟩
        rw [hX] at SN1 I3 ⊢
        obtain ⟨E, D2⟩ := X
        simp only at I3 ⊢
        clear hr hI3 hX RM
        by_cases hE : E = 0
        · subst hE
          go_wp2
          go_roundw
          case rel => exact ⟨k + 1, D2, by omega, by go_num, SN1.out, I3.out⟩
          case measure => simp [intOf]; omega
        · have hE1 : ((E : Int) == 0) = false := by rw [beq_eq_false_iff_ne]; omega
          have HE := keep hE
          clear hE
          go_wp2
          go_ret
          rw [FULL.out E D2 HE.out SN1.out]
          obtain ⟨S1, O1, _⟩ := I3.out.own
          first | exact ⟨S1, rfl, O1⟩ | exact ⟨rfl, S1, O1⟩
      | false =>
        rw [hp] at CT
        have HP := keep hp
        clear hp
        go_wp2_with fail
        refine CT.out.mono ?_
        rintro e w2 ⟨rfl, hb2⟩
        have I2 := keep (hI.out.2.next hb2)
        have SN1 : Hid (rmv p d (ns.take (k + 1)) = (0, D)) := by
          show _ = _
          rw [TK.out, rmv_snoc p s _ d (by rw [hI.out.1]), hI.out.1, HP.out, if_neg (by decide)]
        clear hb2 CT hc1
        go_wp2
        go_roundw
        case rel => exact ⟨k + 1, D, by omega, by go_num, SN1.out, I2.out⟩
        case measure => simp [intOf]; omega
    · obtain rfl : k = n := by omega
      have hlt1 : ¬ (k : Int) < (k : Int) := by omega
      have h1 := hI.out.1
      rw [List.take_of_length_le (by rw [HNL.out]; exact Nat.le_refl _)] at h1
      have H1 := keep h1
      clear h1
      go_wp2
      go_ret
      rw [H1.out]
      obtain ⟨S1, O1, _⟩ := hI.out.2.own
      first | exact ⟨S1, rfl, O1⟩ | exact ⟨rfl, S1, O1⟩
end Go.Proofs.YthnebhddakfadaaGreatDoor
