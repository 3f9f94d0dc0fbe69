/- The walk of cat.Clean. -/
/- Remove turns no block of bytes; so does remove, told by Clean's closure. -/
/- remove, told by Clean's closure, turns no block of bytes. -/
import Derived.Test.YthnebhddakfadaaGreatDoorJoinFv
import Derived.Test.YthnebhddakfadaaGreatDoorJoinFj
import Derived.Test.YthnebhddakfadaaGreatDoorJoinHz
namespace Go.Proofs.YthnebhddakfadaaGreatDoor
open Go.RowKit
open Dk (File Disk)

theorem lt_of_less : ∀ {a b : List UInt8}, less a b = true → a < b
  | a, [], h => by cases a <;> cases h
  | [], _ :: _, _ => List.nil_lt_cons _ _
  | x :: a, y :: b, h => by
    rcases less_cons.1 h with h1 | ⟨rfl, h1⟩
    · exact List.cons_lt_cons_iff.2 (.inl (UInt8.lt_iff_toNat_lt.2 h1))
    · exact List.cons_lt_cons_iff.2 (.inr ⟨rfl, lt_of_less h1⟩)
theorem le_less {a b : List UInt8} (h : a ≤ b) : less b a = false := by
  cases hx : less b a with
  | false => rfl
  | true => exact absurd (lt_of_less hx) h
theorem sort_rises (l : List (List UInt8)) : ∀ a b, a ≤ b → b < (l.mergeSort fun x y => decide (x ≤ y)).length → less ((l.mergeSort fun x y => decide (x ≤ y)).getD b []) ((l.mergeSort fun x y => decide (x ≤ y)).getD a []) = false := by
  have h := List.pairwise_mergeSort (le := fun x y : List UInt8 => decide (x ≤ y)) (fun a b c h1 h2 => by
    simp only [decide_eq_true_eq] at h1 h2 ⊢
    exact List.le_trans h1 h2) (fun a b => by
    simp only [Bool.or_eq_true, decide_eq_true_eq]
    exact List.le_total a b) l
  intro a b hab hb
  rcases Nat.eq_or_lt_of_le hab with rfl | hlt
  · exact less_irrefl _
  · have h1 := List.pairwise_iff_getElem.1 h a b (by omega) hb hlt
    rw [List.getD_eq_getElem?_getD, List.getElem?_eq_getElem hb, List.getD_eq_getElem?_getD, List.getElem?_eq_getElem (by omega)]
    exact le_less (of_decide_eq_true h1)
theorem rv_str (l : List (List UInt8)) : rv strKind l = l.map encStr := by
  induction l with
  | nil => rfl
  | cons a l ih => show [Value.string ⟨a.toArray⟩] ++ rv strKind l = _; rw [ih]; rfl
/-- Clean, over a plain disk. -/
def cleanOf (d : Disk) (V : Ed.Ver) : Nat × Disk := if Ed.chk V then rmvAll (clnP V.log (namesL V)) d else (1, d)
end Go.Proofs.YthnebhddakfadaaGreatDoor
namespace Go.Proofs.YthnebhddakfadaaGreatDoor
open Go.RowKit
open Dk (File Disk)

/-- What a raw write leaves that turns no bytes. -/
def RawPostK (S : Nat → Prop) (w : World) (b : Nat) (r : Nat × Disk) (e : Ending) (w' : World) : Prop := RawPost S w b r e w' ∧ B5 w w'
theorem MemAt.noB {S : Nat → Prop} {w : World} {b m : Nat} {l : List Named} {left : Int} {d : Disk} (h : MemAt S w b m l left d) {g : Nat} (hg : g = m ∨ g = b) {cur : Array Value} {fr : Nat × Nat} (hc : w.heap[g]? = some (.cells cur 5 fr)) : False := by
  rcases hg with rfl | rfl
  · obtain ⟨_, es, clock, h1, _⟩ := h.map
    rw [h1] at hc
    cases hc
  · have hb := h.box
    unfold Box at hb
    rw [hb] at hc
    cases hc
set_option maxHeartbeats 1000000 in
set_option maxRecDepth 100000 in
theorem remove_cutK (S : Nat → Prop) (b : Nat) (d : Disk) (n nm : List UInt8) (sf : Nat) (fb : List UInt8) (w : World) (h : Mem S w b d) (hn : n.length ≤ maxLen) (hz : ahead d.dark [n] = 0) (hd : d.dark = false) (ho0 : d.done ≤ 4611686018427387904) (hx : Dk.look d.files n = some ⟨nm, sf, fb⟩) (ht : (Dk.tick d).1 = false) :
    Calls Tryz.prog 101 #[.pointer (some ⟨b, 0, none⟩), .string ⟨n.toArray⟩] w fun e w' => RawPostK S w b (5, (Dk.tick d).2) e w' := by
  obtain ⟨m, l, left, h⟩ := h
  have HM := keep h
  clear h
  have HZ := keep hz
  have HX := keep hx
  have HD := keep hd
  have HT := keep ht
  clear hz hx hd ht
  go_enter Tryz.func101, Tryz.ntmps101
  go_wp2_with fail
  have hm1 := HM.out.below ((Below.refl _ w).alloc (Nat.le_refl _) (.cells #[.string ⟨n.toArray⟩] 9))
  refine (ready_box b m _ left d.dark _ _ 1 1 [n] _ hm1.box (one_name w n 9) (by omega)).mono ?_
  rintro e w2 ⟨rfl, hb2⟩
  have hb3 := keep (((Below.refl _ w).alloc (Nat.le_refl _) (.cells #[.string ⟨n.toArray⟩] 9)).trans (hb2.mono (by simp)))
  clear hb2 hm1
  rw [HZ.out]
  have hm2 := HM.out.below hb3.out
  have c02 := hm2.box.c0
  obtain ⟨ao, c, hl, ho, hs, hin⟩ := look_there hm2.map hm2.rel hn HX.out
  have HL := keep hl
  have HO := keep ho
  have HIN := keep hin
  have HM2 := keep hm2
  clear hl ho hs hin hm2
  go_wp2_with (first | (at_lookup; refine wpList_look rfl _ _ _ _ rfl _ _ _ rfl rfl HL.out ?_) | fail)
  refine (count_mem S b m l left d _ (HM2.out.below ((Below.refl _ _).alloc (Nat.le_refl _) _)) HD.out ho0).mono ?_
  rintro e w3 ⟨left', rfl, hm3, hk3⟩
  rw [HT.out]
  have hm4 := keep hm3
  have hk4 := keep (((Kept.of_below (U := Go.Proofs.YthnebhddakfadaaGreatDoor.mine S b) hb3.out).alloc (.cells #[.int .i64 (sf : Int), .slice ao fb.length c] 95)).trans (hk3.wide (fun g _ e => .inr e)))
  have hkF := keep (((Kept.of_below (U := fun g => g = m ∨ g = b) hb3.out).alloc (.cells #[.int .i64 (sf : Int), .slice ao fb.length c] 95)).trans (hk3.wide (fun g _ e => .inr e)))
  clear hm3 hk3
  go_wp2
  go_ret
  have hout := HM.out.out
  have hlt := HM.out.box.lt
  exact ⟨⟨rfl, MemAt.grow hlt hout hm4.out.lt hm4.out hk4.out (Kept.refl _ _)⟩, B5.of_kept hkF.out (fun g e cur fr hgc => HM.out.noB e hgc)⟩
set_option maxHeartbeats 1000000 in
set_option maxRecDepth 100000 in
theorem remove_goK (S : Nat → Prop) (b : Nat) (d : Disk) (n nm : List UInt8) (sf : Nat) (fb : List UInt8) (w : World) (h : Mem S w b d) (hn : n.length ≤ maxLen) (hz : ahead d.dark [n] = 0) (hd : d.dark = false) (ho0 : d.done ≤ 4611686018427387904) (hx : Dk.look d.files n = some ⟨nm, sf, fb⟩) (ht : (Dk.tick d).1 = true) :
    Calls Tryz.prog 101 #[.pointer (some ⟨b, 0, none⟩), .string ⟨n.toArray⟩] w fun e w' => RawPostK S w b (0, { (Dk.tick d).2 with files := Dk.drop d.files n }) e w' := by
  obtain ⟨m, l, left, h⟩ := h
  have HM := keep h
  clear h
  have HZ := keep hz
  have HX := keep hx
  have HD := keep hd
  have HT := keep ht
  clear hz hx hd ht
  go_enter Tryz.func101, Tryz.ntmps101
  go_wp2_with fail
  have hm1 := HM.out.below ((Below.refl _ w).alloc (Nat.le_refl _) (.cells #[.string ⟨n.toArray⟩] 9))
  refine (ready_box b m _ left d.dark _ _ 1 1 [n] _ hm1.box (one_name w n 9) (by omega)).mono ?_
  rintro e w2 ⟨rfl, hb2⟩
  have hb3 := keep (((Below.refl _ w).alloc (Nat.le_refl _) (.cells #[.string ⟨n.toArray⟩] 9)).trans (hb2.mono (by simp)))
  clear hb2 hm1
  rw [HZ.out]
  have hm2 := HM.out.below hb3.out
  have c02 := hm2.box.c0
  obtain ⟨ao, c, hl, ho, hs, hin⟩ := look_there hm2.map hm2.rel hn HX.out
  have HL := keep hl
  have HO := keep ho
  have HIN := keep hin
  have HM2 := keep hm2
  clear hl ho hs hin hm2
  go_wp2_with (first | (at_lookup; refine wpList_look rfl _ _ _ _ rfl _ _ _ rfl rfl HL.out ?_) | fail)
  refine (count_mem S b m l left d _ (HM2.out.below ((Below.refl _ _).alloc (Nat.le_refl _) _)) HD.out ho0).mono ?_
  rintro e w3 ⟨left', rfl, hm3, hk3⟩
  rw [HT.out]
  have hw2 : b < w2.heap.size := Nat.lt_of_lt_of_le HM.out.box.lt hb3.out.size
  have k0 : w3.cell? ⟨w2.heap.size, 0, none⟩ = some (.int .i64 (sf : Int)) := local_cell hk3 hw2 (cell_of_row _ _ _ _ _ _ (heap_alloc_new w2 _))
  have k1 : w3.cell? ⟨w2.heap.size, 1, none⟩ = some (.slice ao fb.length c) := local_cell hk3 hw2 (cell_of_row _ _ _ _ _ _ (heap_alloc_new w2 _))
  have c03 := hm3.box.c0
  have hm4 := keep hm3
  have hfew := keep hm3.few
  have hk4 := keep (((Kept.of_below (U := Go.Proofs.YthnebhddakfadaaGreatDoor.mine S b) hb3.out).alloc (.cells #[.int .i64 (sf : Int), .slice ao fb.length c] 95)).trans (hk3.wide (fun g _ e => .inr e)))
  have hkF := keep (((Kept.of_below (U := fun g => g = m ∨ g = b) hb3.out).alloc (.cells #[.int .i64 (sf : Int), .slice ao fb.length c] 95)).trans (hk3.wide (fun g _ e => .inr e)))
  have ho3 : Hid (w3.ownsRow 0 5 1 (.slice ao fb.length c) fb.length (bv fb)) := own_block HO.out (fun g hg => by
    have hS := (HM.out.foot.arrs _ HIN.out g hg).1
    have hlt := (HM2.out.lt g hS)
    rw [hk3.block g (by simp; omega) (fun e => HM.out.out (by rw [← (show g = b from e)]; exact hS)), Below.heap_alloc _ _ g hlt])
  clear hm3 hk3 c02
  have c13 := hm4.out.box.c1
  have f3 := hm4.out.box.warm
  go_wp2_with (at_delete; refine wpList_strike rfl _ _ _ _ rfl 95 Tryz.underlying9 Tryz.underlying85 m l n rfl rfl hm4.out.map hn ?_; intro w5 hmap5 hg5; have hmap6 := keep hmap5; have hg6 := keep hg5; clear hmap5 hg5)
  have hbm : ¬ b = m := fun e => hm4.out.out (by rw [e]; exact hm4.out.foot.mine)
  have hbox5 := hm4.out.box.same (w' := w5) (hg6.out.block b hm4.out.box.lt (fun e => hbm (Option.some.inj e)))
  have hsz3 : w2.heap.size < w3.heap.size := World.block_lt_of_cell? w3 _ k1
  have hne5 : some w2.heap.size ≠ some m := fun e => by
    have h1 := HM2.out.lt m HM2.out.foot.mine
    have := Option.some.inj e
    omega
  have k15 : w5.cell? ⟨w2.heap.size, 1, none⟩ = some (.slice ao fb.length c) := hg6.out.cell k1 hne5
  have c15 := hbox5.c1
  have f5 := hbox5.warm
  have HB5 := keep hbox5
  obtain ⟨F, hF, F0, F1⟩ : ∃ F : Int, ((Dk.tick d).2.cap : Int) - (Dk.used (Dk.tick d).2.files : Int) = F ∧ 0 ≤ F ∧ F ≤ 1099511627776 := ⟨_, rfl, by have := hm4.out.good.room; omega, by have := hm4.out.capb; omega⟩
  have hfbl : fb.length ≤ 1099511627776 := by
    have h1 := used_mem (Dk.look_some HX.out).1
    have h2 := HM.out.good.room
    have h3 := HM.out.capb
    simp only [Dk.cost] at h1
    omega
  have hnl : n.length ≤ 100 := by
    have := HM.out.good.names _ (Dk.look_some HX.out).1
    rw [(Dk.look_some HX.out).2] at this
    exact (named_true this).2.1
  rw [hF] at c15 HB5
  have HF := keep hF
  have hwr : IntKind.i64.wrap (F + (16 + (n.length : Int) + (fb.length : Int))) = F + (16 + (n.length : Int) + (fb.length : Int)) := wrap_small _ (by omega) (by omega)
  have fin : Hid (RawPostK S w b (0, { (Dk.tick d).2 with files := Dk.drop d.files n }) (.returned (.int .i64 0)) ((w5.setCell ⟨b, 1, none⟩ (.int .i64 (F + (16 + (n.length : Int) + (fb.length : Int))))).drew)) := by
    have hM := hm4.out
    have hgood : Dk.Good { (Dk.tick d).2 with files := Dk.drop d.files n } := by
      have h1 := Dk.raw_good 3 n [] [] HM.out.good
      have hok : Dk.okay 3 n [] [] = true := by
        have := HZ.out
        unfold ahead at this
        simp only [List.all_cons, List.all_nil, Bool.and_true] at this
        show Dk.named n = true
        cases hh : Dk.named n with
        | true => rfl
        | false => rw [hh] at this; simp at this
      rw [Dk.raw_do hok HD.out (l := Dk.drop d.files n) (by simp only [Dk.planOf, Dk.planRemove, HX.out]), Dk.write_go HT.out] at h1
      exact h1
    have hfl : (Dk.tick d).2.files = d.files := (Dk.tick_files d).1
    have hcp : (Dk.tick d).2.cap = d.cap := (Dk.tick_files d).2
    have hblk : ∀ g, g ≠ b → ((w5.setCell ⟨b, 1, none⟩ (.int .i64 (F + (16 + (n.length : Int) + (fb.length : Int))))).drew).heap[g]? = w5.heap[g]? := fun g hg => Below.heap_setCell w5 ⟨b, 1, none⟩ _ g hg
    have hst := hM.struck (n := n) (fs := Dk.drop d.files n) (w' := ((w5.setCell ⟨b, 1, none⟩ (.int .i64 (F + (16 + (n.length : Int) + (fb.length : Int))))).drew)) (hmap6.out.same (hblk m (fun e => hbm e.symm))) (by rw [hfl])
      (fun x hx hne g hg => (hblk g (fun e => hM.out (by rw [← e]; exact (hM.foot.arrs x hx g hg).1))).trans (hg6.out.block g (hM.lt g (hM.foot.arrs x hx g hg).1) (fun e => (hM.foot.arrs x hx g hg).2 (Option.some.inj e))))
      (by
        have e1 : ((Dk.tick d).2.cap : Int) - (Dk.used (Dk.drop d.files n) : Int) = F + (16 + (n.length : Int) + (fb.length : Int)) := by
          rw [← hF, hcp, hfl]
          exact remove_used HM.out.good HX.out
        rw [e1]
        exact HB5.out.set1 _)
      (by show w3.heap.size ≤ (w5.setCell _ _).heap.size; simp only [World.setCell, Array.size_modify]; exact hg6.out.size) hgood
    refine ⟨⟨rfl, MemAt.grow HM.out.box.lt HM.out.out hst.lt hst hk4.out ?_⟩, B5.of_kept (hkF.out.trans ((((Kept.refl _ _).grown hg6.out (fun k e => .inl (.inl (by cases e; rfl)))).setCell (p := ⟨b, 1, none⟩) (.inl (.inr rfl)) _).drew)) (fun g e cur fr hgc => HM.out.noB e hgc)⟩
    exact (((Kept.refl _ _).grown hg6.out (fun k e => .inl (.inl (by cases e; exact hM.foot.mine)))).setCell (p := ⟨b, 1, none⟩) (.inl (.inr rfl)) _).drew
  clear hbox5 k0 k1 c03 c13 f3 hF
  go_wp2_with fail
  go_region_with (go_at_call 70; refine (cost_any n ao fb.length c _ (by omega) (by omega)).mono ?_; rintro e w6 ⟨rfl, rfl⟩)
  all_goals go_wp2
  all_goals go_ret
  all_goals exact fin.out
theorem remove_rawK (S : Nat → Prop) (b : Nat) (d : Disk) (n : List UInt8) (w : World) (h : Mem S w b d) (hn : n.length ≤ maxLen) (ho : d.done ≤ 4611686018427387904) (x y : List UInt8) :
    Calls Tryz.prog 101 #[.pointer (some ⟨b, 0, none⟩), .string ⟨n.toArray⟩] w fun e w' => RawPostK S w b (Dk.raw d 3 n x y) e w' := by
  have stay : ∀ w', Below w.heap.size w w' → (Mem (more S w w') w' b d ∧ Kept (Go.Proofs.YthnebhddakfadaaGreatDoor.mine S b) w w') ∧ B5 w w' := fun w' hb => by
    obtain ⟨m, l, left, h⟩ := h
    exact ⟨h.stay hb, B5.of_below hb⟩
  cases hna : Dk.named n with
  | false =>
    rw [Dk.raw_arg (by exact hna)]
    refine (remove_ahead S b d n w h 1 (ahead_arg hna) rfl).mono ?_
    rintro e w' ⟨rfl, hb⟩
    exact ⟨⟨rfl, (stay w' hb).1⟩, (stay w' hb).2⟩
  | true =>
    cases hd : d.dark with
    | true =>
      rw [Dk.raw_dark (by exact hna) hd]
      refine (remove_ahead S b d n w h 5 (by rw [hd]; exact ahead_dark hna) rfl).mono ?_
      rintro e w' ⟨rfl, hb⟩
      exact ⟨⟨rfl, (stay w' hb).1⟩, (stay w' hb).2⟩
    | false =>
      have hz : ahead d.dark [n] = 0 := by rw [hd]; exact ahead_ok hna
      cases hx : Dk.look d.files n with
      | none =>
        rw [Dk.raw_own (e := 3) (by exact hna) hd (by simp only [Dk.planOf, Dk.planRemove, hx])]
        refine (remove_none S b d n w h hn hz hx).mono ?_
        rintro e w' ⟨rfl, hb⟩
        exact ⟨⟨rfl, (stay w' hb).1⟩, (stay w' hb).2⟩
      | some f =>
        obtain ⟨nm, sf, fb⟩ := f
        rw [Dk.raw_do (l := Dk.drop d.files n) (by exact hna) hd (by simp only [Dk.planOf, Dk.planRemove, hx])]
        cases ht : (Dk.tick d).1 with
        | false => rw [Dk.write_cut ht]; exact remove_cutK S b d n nm sf fb w h hn hz hd ho hx ht
        | true => rw [Dk.write_go ht]; exact remove_goK S b d n nm sf fb w h hn hz hd ho hx ht
end Go.Proofs.YthnebhddakfadaaGreatDoor
namespace Go.Proofs.YthnebhddakfadaaGreatDoor
open Go.RowKit
open Dk (File Disk)

set_option maxHeartbeats 2000000 in
set_option maxRecDepth 100000 in
theorem remove_threeK (S : Nat → Prop) (w : World) (b : Nat) (d : Disk) (bx bz : Nat) (p : List UInt8 → Bool) (hM : Mem S w b d) (hdn : d.done ≤ 4611680000000000000)
    (hT : ∀ n W, Dk.named n = true → Kept (Go.Proofs.YthnebhddakfadaaGreatDoor.mine S b) w W → Calls Tryz.prog 61 #[.string ⟨n.toArray⟩, .pointer (some ⟨bx, 0, none⟩), .pointer (some ⟨bz, 0, none⟩)] W fun e W' => e = .returned (.bool (p n)) ∧ Below W.heap.size W W') :
    Calls Tryz.prog 54 #[.pointer (some ⟨b, 0, none⟩), .func (.func 61) #[] #[.pointer (some ⟨bx, 0, none⟩), .pointer (some ⟨bz, 0, none⟩)]] w fun e w' => ∃ S', e = .returned (.int .i64 ((rmvAll p d).1 : Int)) ∧ Own (Go.Proofs.YthnebhddakfadaaGreatDoor.mine S b) w S' w' b (rmvAll p d).2 ∧ B5 w w' := by
  have HM := keep hM
  have hgood := hM.good
  have hlen : d.files.length ≤ 1099511627776 := by
    have h1 := files_cap hgood
    obtain ⟨_, _, _, h2⟩ := hM
    have := h2.capb
    omega
  have HNM : Hid (∀ f ∈ d.files, Dk.named f.name = true) := hgood.names
  have HT := keep hT
  have NM : Hid (Calls Tryz.prog 28 #[.pointer (some ⟨b, 0, none⟩)] w fun e w' => ∃ ao c, e = .returned (.slice ao d.files.length c) ∧ w'.ownsRow w.heap.size 9 1 (.slice ao d.files.length c) d.files.length (rv strKind (namesOf d)) ∧ RSrc strKind w' ao d.files.length c (namesOf d) ∧ Below w.heap.size w w') := by
    obtain ⟨m, l, left, h2⟩ := hM
    exact names_mem S b m l left d w h2
  have HG := keep hgood
  clear hM hT hgood
  have HNL : Hid ((namesOf d).length = d.files.length) := by show _ = _; unfold namesOf; rw [List.length_map]
  have HND : Hid (∀ n ∈ namesOf d, Dk.named n = true) := fun n hn => by
    unfold namesOf at hn
    obtain ⟨f, h1, rfl⟩ := List.mem_map.1 hn
    exact HNM.out f h1
  have HR : Hid (rmvAll p d = rmv p d (namesOf d)) := rfl
  rw [HR.out]
  obtain ⟨ns, hns⟩ : ∃ ns, namesOf d = ns := ⟨_, rfl⟩
  rw [hns] at NM HNL HND ⊢
  obtain ⟨n, hn⟩ : ∃ n, d.files.length = n := ⟨_, rfl⟩
  rw [hn] at NM HNL hlen
  clear HR hns hn HNM
  go_enter Tryz.func54, Tryz.ntmps54
  go_wp2_with fail
  refine NM.out.mono ?_
  rintro e w1 ⟨ao, c, rfl, ho, hs, hb1⟩
  have I1 : Hid (RmI w S b (.slice ao n c) ns w1.heap.size w1 d) := by
    refine ⟨⟨S, (Own.start HM.out).next hb1, fun g hg => ?_⟩, by rw [HNL.out]; exact ho, fun g hg => own_size ho hg, Nat.le_refl _⟩
    rcases hg with hg | hg
    · exact .inl (HM.out.lt.1 g hg)
    · exact .inl (by rw [hg]; exact HM.out.lt.2.1)
  have F1 : Hid (B5 w w1) := B5.of_below hb1
  clear ho hs hb1 NM HM
  obtain ⟨B, hB⟩ : ∃ B, w1.heap.size = B := ⟨_, rfl⟩
  rw [hB] at I1
  clear hB
  go_wp2
  go_loopw [11] (fun i wr => ∃ (k : Nat) (D : Disk), k ≤ n ∧ i = .int .i64 (k : Int) ∧ Hid (rmv p d (ns.take k) = (0, D) ∧ RmI w S b (.slice ao n c) ns B wr D ∧ B5 w wr)) (fun i _ => n - (intOf i).toNat)
  case atStart => exact ⟨0, d, Nat.zero_le _, rfl, rfl, I1.out, F1.out⟩
  case round =>
    clear I1
    obtain ⟨k, D, hk, rfl, hI⟩ := hrel
    by_cases hlt : k < n
    · obtain ⟨s, hs⟩ : ∃ s, ns[k]? = some s := ⟨ns[k]'(by rw [HNL.out]; exact hlt), List.getElem?_eq_getElem _⟩
      obtain ⟨a2, c2, e2, hsrc, _⟩ := RSrc.own strKind_ok hI.out.2.1.row (fun _ _ => trivial)
      rw [HNL.out] at e2 hsrc
      cases e2
      obtain ⟨g, off, rfl, hgw, hcell⟩ := strs_at hsrc (by omega)
      have hc1 := hcell k s hs
      have SN := keep (HND.out s (List.mem_of_getElem? hs))
      have TK : Hid (ns.take (k + 1) = ns.take k ++ [s]) := by show _ = _; rw [List.take_add_one, hs]; rfl
      have DN : Hid (D.done ≤ 4611686018427387904) := by
        have h1 := (rmv_far p (ns.take k) d HG.out).done
        rw [hI.out.1, List.length_take] at h1
        show _ ≤ _
        simp only at h1
        omega
      have FULL : Hid (∀ E D2, E ≠ 0 → rmv p d (ns.take (k + 1)) = (E, D2) → rmv p d ns = (E, D2)) := fun E D2 hE h1 => by
        have h2 := rmv_stop p (ns.drop (k + 1)) (ns.take (k + 1)) d (by rw [h1]; exact hE)
        rw [List.take_append_drop] at h2
        rw [h2, h1]
      have hlt1 : (k : Int) < (n : Int) := by omega
      have hk0 : (0 : Int) ≤ (k : Int) := by omega
      have KW : Hid (Kept (Go.Proofs.YthnebhddakfadaaGreatDoor.mine S b) w wr) := by obtain ⟨S1, h1, _⟩ := hI.out.2.1.own; exact h1.bel
      have CT := keep (HT.out s wr SN.out KW.out)
      clear hs hcell hsrc
      cases hp : p s with
      | true =>
        rw [hp] at CT
        have HP := keep hp
        clear hp
        go_wp2_with fail
        refine CT.out.mono ?_
        rintro e w2 ⟨rfl, hb2⟩
        obtain ⟨S1, O1, G1⟩ := (hI.out.2.1.next hb2).own
        have I2 := keep (hI.out.2.1.next hb2)
        have F2 := keep (hI.out.2.2.trans (B5.of_below hb2))
        have RM := keep (remove_rawK S1 b D s w2 O1.mem (by have := named_len SN.out; unfold maxLen; omega) DN.out [] [])
        have OO := keep O1
        have GG := keep G1
        clear hb2 O1 G1 CT hc1
        go_wp2_with fail
        refine RM.out.mono ?_
        rintro e w3 hr
        obtain ⟨rfl, hI3⟩ := I2.out.raw OO.out GG.out hr.1
        have SN1 : Hid (rmv p d (ns.take (k + 1)) = Dk.raw D 3 s [] []) := by
          show _ = _
          rw [TK.out, rmv_snoc p s _ d (by rw [hI.out.1]), hI.out.1, HP.out, if_pos rfl]
        have I3 := keep hI3
        have F3 := keep (F2.out.trans hr.2)
        obtain ⟨X, hX⟩ : ∃ X, Dk.raw D 3 s [] [] = X := ⟨_, rfl⟩
        rw [hX] at SN1 I3 ⊢
        obtain ⟨E, D2⟩ := X
        simp only at I3 ⊢
        clear hr hI3 hX RM
        by_cases hE : E = 0
        · subst hE
          go_wp2
          go_roundw
          case rel => exact ⟨k + 1, D2, by omega, by go_num, SN1.out, I3.out, F3.out⟩
          case measure => simp [intOf]; omega
        · have hE1 : ((E : Int) == 0) = false := by rw [beq_eq_false_iff_ne]; omega
          have HE := keep hE
          clear hE
          go_wp2
          go_ret
          rw [FULL.out E D2 HE.out SN1.out]
          obtain ⟨S1, O1, _⟩ := I3.out.own
          first | exact ⟨S1, rfl, O1, F3.out⟩ | exact ⟨rfl, S1, O1, F3.out⟩ | exact ⟨rfl, ⟨S1, O1⟩, F3.out⟩
      | false =>
        rw [hp] at CT
        have HP := keep hp
        clear hp
        go_wp2_with fail
        refine CT.out.mono ?_
        rintro e w2 ⟨rfl, hb2⟩
        have I2 := keep (hI.out.2.1.next hb2)
        have F2 := keep (hI.out.2.2.trans (B5.of_below hb2))
        have SN1 : Hid (rmv p d (ns.take (k + 1)) = (0, D)) := by
          show _ = _
          rw [TK.out, rmv_snoc p s _ d (by rw [hI.out.1]), hI.out.1, HP.out, if_neg (by decide)]
        clear hb2 CT hc1
        go_wp2
        go_roundw
        case rel => exact ⟨k + 1, D, by omega, by go_num, SN1.out, I2.out, F2.out⟩
        case measure => simp [intOf]; omega
    · obtain rfl : k = n := by omega
      have hlt1 : ¬ (k : Int) < (k : Int) := by omega
      have h1 := hI.out.1
      rw [List.take_of_length_le (by rw [HNL.out]; exact Nat.le_refl _)] at h1
      have H1 := keep h1
      clear h1
      go_wp2
      go_ret
      rw [H1.out]
      obtain ⟨S1, O1, _⟩ := hI.out.2.1.own
      first | exact ⟨S1, rfl, O1, hI.out.2.2⟩ | exact ⟨rfl, S1, O1, hI.out.2.2⟩ | exact ⟨rfl, ⟨S1, O1⟩, hI.out.2.2⟩
set_option maxHeartbeats 8000000 in
set_option maxRecDepth 100000 in
theorem clean_ownK (S : Nat → Prop) (w : World) (b : Nat) (d : Disk) (x : VV) (hM : Mem S w b d) (hx : VV.held w x) (hG : ∀ w', Kept (Go.Proofs.YthnebhddakfadaaGreatDoor.mine S b) w w' → Gl w') (hdn : d.done ≤ 4611670000000000000) :
    Calls Tryz.prog 21 #[.pointer (some ⟨b, 0, none⟩), x.val] w fun e w' => ∃ S', e = .returned (.int .i64 ((cleanOf d x.v).1 : Int)) ∧ Own (Go.Proofs.YthnebhddakfadaaGreatDoor.mine S b) w S' w' b (cleanOf d x.v).2 ∧ B5 w w' := by
  have OS := keep (Own.start hM)
  have HSZ : Hid (∀ g, Go.Proofs.YthnebhddakfadaaGreatDoor.mine S b g → g < w.heap.size) := fun g hg => by
    rcases hg with hg | hg
    · exact hM.lt.1 g hg
    · rw [hg]; exact hM.lt.2.1
  have HB : Hid (∀ w', Below w.heap.size w w' → Gl w' ∧ Mem S w' b d ∧ Own (Go.Proofs.YthnebhddakfadaaGreatDoor.mine S b) w S w' b d) := fun w' hb => ⟨hG w' (Kept.of_below hb), hM.below hb, OS.out.next hb⟩
  have HG := keep hG
  have DN := keep hdn
  have HX := keep hx
  obtain ⟨W1, hW1⟩ : ∃ W1, w.alloc (.cells #[.int .i64 x.gen, .int .i64 x.next, .int .i64 x.log, .int .i64 x.seq, .slice x.p x.n x.c] 50) = W1 := ⟨_, rfl⟩
  have b1 : Hid (Below w.heap.size w W1) := by rw [← hW1]; exact (Below.refl _ _).alloc (Nat.le_refl _) _
  have g1 : Hid (W1.heap[w.heap.size]? = some (.cells #[.int .i64 x.gen, .int .i64 x.next, .int .i64 x.log, .int .i64 x.seq, .slice x.p x.n x.c] 50)) := by rw [← hW1]; exact heap_alloc_new w _
  have CV : Hid (∀ w', Below W1.heap.size W1 w' → w'.cell? ⟨w.heap.size, 0, none⟩ = some (.int .i64 x.gen) ∧ w'.cell? ⟨w.heap.size, 1, none⟩ = some (.int .i64 x.next) ∧ w'.cell? ⟨w.heap.size, 2, none⟩ = some (.int .i64 x.log) ∧ w'.cell? ⟨w.heap.size, 3, none⟩ = some (.int .i64 x.seq) ∧ w'.cell? ⟨w.heap.size, 4, none⟩ = some (.slice x.p x.n x.c)) := fun w' hb => ⟨below_cell hb (cell_of_row _ _ _ _ _ _ g1.out), below_cell hb (cell_of_row _ _ _ _ _ _ g1.out), below_cell hb (cell_of_row _ _ _ _ _ _ g1.out), below_cell hb (cell_of_row _ _ _ _ _ _ g1.out), below_cell hb (cell_of_row _ _ _ _ _ _ g1.out)⟩
  obtain ⟨V, hV⟩ : ∃ V, VV.v x = V := ⟨_, rfl⟩
  have HV := keep hV
  have VC : Hid (∀ w', Below w.heap.size w w' → Calls Tryz.prog 30 #[x.val] w' fun e w'' => e = .returned (.int .i64 (chkN V)) ∧ Below w'.heap.size w' w'') := fun w' hb => by rw [← HV.out]; exact vcheck_any x w' (HX.out.below hb)
  have NA : Hid (∀ w', Below w.heap.size w w' → x.n ≤ 999999 → Calls Tryz.prog 60 #[x.val] w' fun e w'' => ∃ v, e = .returned v ∧ w''.ownsRow w'.heap.size 9 1 v (x.n + 1) ((namesL V).map encStr) ∧ Below w'.heap.size w' w'') := fun w' hb hn => by rw [← HV.out]; exact names_any x w' (HX.out.below hb) (HB.out w' hb).1 hn
  have VT : Hid (V.tabs.length = x.n) := by show _ = _; rw [← hV]; show (x.es.map (·.m)).length = x.n; rw [List.length_map]; exact RSrc.len hx
  have VL : Hid (V.log = x.log) := by show _ = _; rw [← hV]; rfl
  rw [hV]
  unfold VV.val at VC NA ⊢
  obtain ⟨p, n, c, gen, next, log, seq, es⟩ := x
  simp only at hW1 CV VC NA VT VL ⊢
  clear hx hM hG hdn hV
  go_enter Tryz.func21, Tryz.ntmps21
  go_wp2_with fail
  refine (cnone_mem S b d W1 (HB.out _ b1.out).2.1).mono ?_
  rintro e w2 ⟨rfl, hb2⟩
  have L2 := keep hb2
  have B2 := keep (b1.out.trans (hb2.mono b1.out.size))
  obtain ⟨d0, d1, d2, d3, d4⟩ := CV.out w2 hb2
  clear hb2
  go_wp2_with fail
  refine (VC.out w2 B2.out).mono ?_
  rintro e w3 ⟨rfl, hb3⟩
  have L3 := keep (L2.out.trans (hb3.mono L2.out.size))
  have B3 := keep (B2.out.trans (hb3.mono B2.out.size))
  clear hb3 d0 d1 d2 d3 d4
  cases hck : Ed.chk V with
  | false =>
    have e1 : cleanOf d V = (1, d) := by unfold cleanOf; rw [hck]; rfl
    have e2 : chkN V = 1 := by unfold chkN; rw [hck]; rfl
    have E1 := keep e1
    have O3 := keep (HB.out _ B3.out).2.2
    rw [e2]
    clear e1 e2 hck
    go_wp2
    go_ret
    rw [E1.out]
    have F3 : B5 w w3 := B5.of_below B3.out
    first | exact ⟨S, rfl, O3.out, F3⟩ | exact ⟨rfl, ⟨S, O3.out⟩, F3⟩
  | true =>
    have e2 : chkN V = 0 := by unfold chkN; rw [hck]; rfl
    have E1 : Hid (cleanOf d V = rmvAll (clnP V.log (namesL V)) d) := by show _ = _; unfold cleanOf; rw [hck]; rfl
    have NL : Hid (n ≤ 999999) := by
      obtain ⟨_, _, _, _, hno⟩ := Ed.chk_parts hck
      have h1 := (Ed.notes_may2 hno).1
      have h2 := VT.out
      show _ ≤ _
      omega
    obtain ⟨d0, d1, d2, d3, d4⟩ := CV.out w3 L3.out
    rw [e2]
    clear e2 hck
    go_wp2_with fail
    refine (NA.out w3 B3.out NL.out).mono ?_
    rintro e w4 ⟨v, rfl, ho4, hb4⟩
    obtain ⟨ao, c4, rfl⟩ := own_slice ho4
    have O4 := keep ho4
    have L4 := keep (L3.out.trans (hb4.mono L3.out.size))
    have B4 := keep (B3.out.trans (hb4.mono B3.out.size))
    have S3 := keep hb4.size
    obtain ⟨W5, hW5⟩ : ∃ W5, w4.alloc (.cells #[.slice ao (n + 1) c4] 63) = W5 := ⟨_, rfl⟩
    have b5 : Hid (Below w4.heap.size w4 W5) := by rw [← hW5]; exact (Below.refl _ _).alloc (Nat.le_refl _) _
    have g5 : Hid (W5.heap[w4.heap.size]? = some (.cells #[.slice ao (n + 1) c4] 63)) := by rw [← hW5]; exact heap_alloc_new w4 _
    have BB5 := keep (B4.out.trans (b5.out.mono B4.out.size))
    have L5 := keep (L4.out.trans (b5.out.mono L4.out.size))
    have O5 : Hid (W5.ownsRow w3.heap.size 9 1 (.slice ao (n + 1) c4) (n + 1) (rv strKind (namesL V))) := by rw [rv_str]; exact own_block O4.out (fun g hg => b5.out.block g (own_size O4.out hg))
    clear ho4 hb4 d0 d1 d2 d3 d4
    have RM := keep (remove_threeK S W5 b d w.heap.size w4.heap.size (clnP V.log (namesL V)) (HB.out _ BB5.out).2.1 (by have := DN.out; omega) (fun nm W hn hk => by
      have hmk : ∀ g, w.heap.size ≤ g → g < W5.heap.size → W.heap[g]? = W5.heap[g]? := fun g h1 h2 => hk.block g h2 (fun e => by have := HSZ.out g e; omega)
      have s1 := b1.out.size
      have hgl : Gl W := HG.out W ((Kept.of_below BB5.out).trans' hk (fun g _ hg => hg))
      have q1 : W.heap[w.heap.size]? = some (.cells #[.int .i64 gen, .int .i64 next, .int .i64 log, .int .i64 seq, .slice p n c] 50) := by
        have h1 := below_row g1.out L5.out
        rw [hmk _ (Nat.le_refl _) (Array.getElem?_eq_some_iff.1 h1).1]
        exact h1
      have q2 : W.heap[w4.heap.size]? = some (.cells #[.slice ao (n + 1) c4] 63) := by
        rw [hmk _ B4.out.size (Array.getElem?_eq_some_iff.1 g5.out).1]
        exact g5.out
      have q3 := own_block O5.out (fun g hg => hmk g (Nat.le_trans B3.out.size (O5.out.lt g hg).1) (own_size O5.out hg))
      obtain ⟨ao', c', e, hr, _⟩ := RSrc.own strKind_ok q3 (fun _ _ => trivial)
      cases e
      have hnl := named_len hn
      have h3 := NL.out
      rw [VL.out]
      exact clean1_any nm w.heap.size w4.heap.size log ao (n + 1) c4 (namesL V) W (cell_of_row _ _ _ _ _ _ q1) (cell_of_row _ _ _ _ _ _ q2) hr (by omega) (sort_rises _) hgl (fun e => by rw [e] at hnl; simp at hnl) (by omega)))
    go_wp2_with fail
    refine RM.out.mono ?_
    rintro e w6 ⟨S6, rfl, hO6, hf6⟩
    have OO := keep ((HB.out _ BB5.out).2.2.then hO6)
    have F6 := keep ((B5.of_below BB5.out).trans hf6)
    clear hO6 hf6
    go_wp2
    go_ret
    rw [E1.out]
    first | exact ⟨S6, rfl, OO.out, F6.out⟩ | exact ⟨rfl, ⟨S6, OO.out⟩, F6.out⟩
/-- What Load answered outlives a clean. -/
theorem Firm.clean {B : Nat} {w w' : World} {x : VV} (h : Firm B w x) (hr : ∀ g, B ≤ g → g < w.heap.size → w'.heap[g]? = w.heap[g]?) (hb : B5 w w') : Firm B w' x :=
  ⟨own_block h.1 (fun g hg => hr g (h.1.lt g hg).1 (own_size h.1 hg)), fun y hy => ⟨(h.2 y hy).1.on hb, (h.2 y hy).2.1.on hb, src_on (h.2 y hy).2.2.1 (h.2 y hy).1 hb, src_on (h.2 y hy).2.2.2 (h.2 y hy).2.1 hb⟩⟩
end Go.Proofs.YthnebhddakfadaaGreatDoor
