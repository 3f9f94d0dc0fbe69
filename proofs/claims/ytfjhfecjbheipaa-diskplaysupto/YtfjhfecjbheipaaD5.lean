/- The walk of disk's Sync. -/
import Derived.Test.YtfjhfecjbheipaaD4
namespace Go.Proofs.Ytfjhfecjbheipaa
open Go.RowKit
open Dk (File Disk)

/-- What a raw write leaves. -/
def RawPost (S : Nat → Prop) (w : World) (b : Nat) (r : Nat × Disk) (e : Ending) (w' : World) : Prop := e = .returned (.int .i64 (r.1 : Int)) ∧ Mem (more S w w') w' b r.2 ∧ Kept (Go.Proofs.Ytfjhfecjbheipaa.mine S b) w w'
set_option maxHeartbeats 1000000 in
set_option maxRecDepth 100000 in
theorem sync_ahead (S : Nat → Prop) (b : Nat) (d : Disk) (n : List UInt8) (w : World) (h : Mem S w b d) (z : Int) (hz : ahead d.dark [n] = z) (h0 : (z == 0) = false) :
    Calls Try.prog 20 #[.pointer (some ⟨b, 0, none⟩), .string ⟨n.toArray⟩] w fun e w' => e = .returned (.int .i64 z) ∧ Below w.heap.size w w' := by
  obtain ⟨m, l, left, h⟩ := h
  have HM := keep h
  clear h
  have HZ := keep hz
  clear hz
  go_enter Try.func20, Try.ntmps20
  go_wp2_with fail
  have hm1 := HM.out.below ((Below.refl _ w).alloc (Nat.le_refl _) (.cells #[.string ⟨n.toArray⟩] 9))
  refine (ready_box b m _ left d.dark _ _ 1 1 [n] _ hm1.box (one_name w n 9) (by omega)).mono ?_
  rintro e w2 ⟨rfl, hb2⟩
  have hb3 := keep (((Below.refl _ w).alloc (Nat.le_refl _) (.cells #[.string ⟨n.toArray⟩] 9)).trans (hb2.mono (by simp)))
  clear hb2 hm1
  rw [HZ.out]
  go_wp2
  go_ret
  exact ⟨rfl, hb3.out⟩
set_option maxHeartbeats 1000000 in
set_option maxRecDepth 100000 in
theorem sync_none (S : Nat → Prop) (b : Nat) (d : Disk) (n : List UInt8) (w : World) (h : Mem S w b d) (hn : n.length ≤ maxLen) (hz : ahead d.dark [n] = 0) (hx : Dk.look d.files n = none) :
    Calls Try.prog 20 #[.pointer (some ⟨b, 0, none⟩), .string ⟨n.toArray⟩] w fun e w' => e = .returned (.int .i64 3) ∧ Below w.heap.size w w' := by
  obtain ⟨m, l, left, h⟩ := h
  have HM := keep h
  clear h
  have HZ := keep hz
  have HX := keep hx
  clear hz hx
  go_enter Try.func20, Try.ntmps20
  go_wp2_with fail
  have hm1 := HM.out.below ((Below.refl _ w).alloc (Nat.le_refl _) (.cells #[.string ⟨n.toArray⟩] 9))
  refine (ready_box b m _ left d.dark _ _ 1 1 [n] _ hm1.box (one_name w n 9) (by omega)).mono ?_
  rintro e w2 ⟨rfl, hb2⟩
  have hb3 := keep (((Below.refl _ w).alloc (Nat.le_refl _) (.cells #[.string ⟨n.toArray⟩] 9)).trans (hb2.mono (by simp)))
  clear hb2 hm1
  rw [HZ.out]
  have hm2 := HM.out.below hb3.out
  have c02 := hm2.box.c0
  have HL := keep (look_absent hm2.map hm2.rel hn HX.out)
  clear hm2
  go_wp2_with (at_lookup; refine wpList_look rfl _ _ _ _ rfl _ _ _ rfl rfl HL.out ?_)
  go_ret
  exact ⟨rfl, by first | exact hb3.out | exact hb3.out.alloc hb3.out.size _⟩
theorem sync_used {d : Disk} {n nm : List UInt8} {sf : Nat} {fb : List UInt8} (hg : Dk.Good d) (hx : Dk.look d.files n = some ⟨nm, sf, fb⟩) : Dk.used (Dk.put d.files ⟨nm, fb.length, fb⟩) = Dk.used d.files := by
  have hn := (Dk.look_some hx).2
  have := Dk.used_put_old (f := ⟨nm, fb.length, fb⟩) hg.rising (by rw [show (⟨nm, fb.length, fb⟩ : File).name = n from hn]; exact hx)
  simp only [Dk.cost] at this
  omega
set_option maxHeartbeats 1000000 in
set_option maxRecDepth 100000 in
theorem sync_cut (S : Nat → Prop) (b : Nat) (d : Disk) (n nm : List UInt8) (sf : Nat) (fb : List UInt8) (w : World) (h : Mem S w b d) (hn : n.length ≤ maxLen) (hz : ahead d.dark [n] = 0) (hd : d.dark = false) (ho0 : d.done ≤ 4611686018427387904) (hx : Dk.look d.files n = some ⟨nm, sf, fb⟩) (ht : (Dk.tick d).1 = false) :
    Calls Try.prog 20 #[.pointer (some ⟨b, 0, none⟩), .string ⟨n.toArray⟩] w fun e w' => RawPost S w b (5, (Dk.tick d).2) e w' := by
  obtain ⟨m, l, left, h⟩ := h
  have HM := keep h
  clear h
  have HZ := keep hz
  have HX := keep hx
  have HD := keep hd
  have HT := keep ht
  clear hz hx hd ht
  go_enter Try.func20, Try.ntmps20
  go_wp2_with fail
  have hm1 := HM.out.below ((Below.refl _ w).alloc (Nat.le_refl _) (.cells #[.string ⟨n.toArray⟩] 9))
  refine (ready_box b m _ left d.dark _ _ 1 1 [n] _ hm1.box (one_name w n 9) (by omega)).mono ?_
  rintro e w2 ⟨rfl, hb2⟩
  have hb3 := keep (((Below.refl _ w).alloc (Nat.le_refl _) (.cells #[.string ⟨n.toArray⟩] 9)).trans (hb2.mono (by simp)))
  clear hb2 hm1
  rw [HZ.out]
  have hm2 := HM.out.below hb3.out
  have c02 := hm2.box.c0
  obtain ⟨ao, c, hl, ho, hs, hin⟩ := look_there hm2.map hm2.rel hn HX.out
  have HL := keep hl
  have HO := keep ho
  have HIN := keep hin
  have HM2 := keep hm2
  clear hl ho hs hin hm2
  go_wp2_with (first | (at_lookup; refine wpList_look rfl _ _ _ _ rfl _ _ _ rfl rfl HL.out ?_) | fail)
  refine (count_mem S b m l left d _ (HM2.out.below ((Below.refl _ _).alloc (Nat.le_refl _) _)) HD.out ho0).mono ?_
  rintro e w3 ⟨left', rfl, hm3, hk3⟩
  rw [HT.out]
  have hm4 := keep hm3
  have hk4 := keep (((Kept.of_below (U := Go.Proofs.Ytfjhfecjbheipaa.mine S b) hb3.out).alloc (.cells #[.int .i64 (sf : Int), .slice ao fb.length c] 58)).trans (hk3.wide (fun g _ e => .inr e)))
  clear hm3 hk3
  go_wp2
  go_ret
  have hout := HM.out.out
  have hlt := HM.out.box.lt
  exact ⟨rfl, MemAt.grow hlt hout hm4.out.lt hm4.out hk4.out (Kept.refl _ _)⟩
set_option maxHeartbeats 1000000 in
set_option maxRecDepth 100000 in
theorem sync_go (S : Nat → Prop) (b : Nat) (d : Disk) (n nm : List UInt8) (sf : Nat) (fb : List UInt8) (w : World) (h : Mem S w b d) (hn : n.length ≤ maxLen) (hz : ahead d.dark [n] = 0) (hd : d.dark = false) (ho0 : d.done ≤ 4611686018427387904) (hx : Dk.look d.files n = some ⟨nm, sf, fb⟩) (ht : (Dk.tick d).1 = true) :
    Calls Try.prog 20 #[.pointer (some ⟨b, 0, none⟩), .string ⟨n.toArray⟩] w fun e w' => RawPost S w b (0, { (Dk.tick d).2 with files := Dk.put d.files ⟨nm, fb.length, fb⟩ }) e w' := by
  obtain ⟨m, l, left, h⟩ := h
  have HM := keep h
  clear h
  have HZ := keep hz
  have HX := keep hx
  have HD := keep hd
  have HT := keep ht
  clear hz hx hd ht
  go_enter Try.func20, Try.ntmps20
  go_wp2_with fail
  have hm1 := HM.out.below ((Below.refl _ w).alloc (Nat.le_refl _) (.cells #[.string ⟨n.toArray⟩] 9))
  refine (ready_box b m _ left d.dark _ _ 1 1 [n] _ hm1.box (one_name w n 9) (by omega)).mono ?_
  rintro e w2 ⟨rfl, hb2⟩
  have hb3 := keep (((Below.refl _ w).alloc (Nat.le_refl _) (.cells #[.string ⟨n.toArray⟩] 9)).trans (hb2.mono (by simp)))
  clear hb2 hm1
  rw [HZ.out]
  have hm2 := HM.out.below hb3.out
  have c02 := hm2.box.c0
  obtain ⟨ao, c, hl, ho, hs, hin⟩ := look_there hm2.map hm2.rel hn HX.out
  have HL := keep hl
  have HO := keep ho
  have HIN := keep hin
  have HM2 := keep hm2
  clear hl ho hs hin hm2
  go_wp2_with (first | (at_lookup; refine wpList_look rfl _ _ _ _ rfl _ _ _ rfl rfl HL.out ?_) | fail)
  refine (count_mem S b m l left d _ (HM2.out.below ((Below.refl _ _).alloc (Nat.le_refl _) _)) HD.out ho0).mono ?_
  rintro e w3 ⟨left', rfl, hm3, hk3⟩
  rw [HT.out]
  have hw2 : b < w2.heap.size := Nat.lt_of_lt_of_le HM.out.box.lt hb3.out.size
  have k0 : w3.cell? ⟨w2.heap.size, 0, none⟩ = some (.int .i64 (sf : Int)) := local_cell hk3 hw2 (cell_of_row _ _ _ _ _ _ (heap_alloc_new w2 _))
  have k1 : w3.cell? ⟨w2.heap.size, 1, none⟩ = some (.slice ao fb.length c) := local_cell hk3 hw2 (cell_of_row _ _ _ _ _ _ (heap_alloc_new w2 _))
  have c03 := hm3.box.c0
  have hm4 := keep hm3
  have hfew := keep hm3.few
  have hk4 := keep (((Kept.of_below (U := Go.Proofs.Ytfjhfecjbheipaa.mine S b) hb3.out).alloc (.cells #[.int .i64 (sf : Int), .slice ao fb.length c] 58)).trans (hk3.wide (fun g _ e => .inr e)))
  have ho3 : Hid (w3.ownsRow 0 5 1 (.slice ao fb.length c) fb.length (bv fb)) := own_block HO.out (fun g hg => by
    have hS := (HM.out.foot.arrs _ HIN.out g hg).1
    have hlt := (HM2.out.lt g hS)
    rw [hk3.block g (by simp; omega) (fun e => HM.out.out (by rw [← (show g = b from e)]; exact hS)), Below.heap_alloc _ _ g hlt])
  clear hm3 hk3 c02
  obtain ⟨w5, hrun5, hmap5, hg5⟩ := (hm4.out.map.same (w' := w3.drew) rfl).store Try.underlying9 Try.underlying60 n hn hfew.out.1 (.agg #[.int .i64 (fb.length : Int), .slice ao fb.length c])
  have hmap6 := keep hmap5
  have hg6 : Hid (w3.grownBy w5 (some m)) := ⟨hg5.os, hg5.tape, hg5.output, hg5.size, hg5.block⟩
  clear hmap5 hg5
  go_wp2_with fail
  go_region
  go_wp2
  go_ret
  have hM := hm4.out
  have hnm := (Dk.look_some HX.out).2
  have hgood : Dk.Good { (Dk.tick d).2 with files := Dk.put d.files ⟨nm, fb.length, fb⟩ } := by
    have h1 := Dk.raw_good 1 n [] [] HM.out.good
    have hok : Dk.okay 1 n [] [] = true := by
      have := HZ.out
      unfold ahead at this
      simp only [List.all_cons, List.all_nil, Bool.and_true] at this
      show Dk.named n = true
      cases hh : Dk.named n with
      | true => rfl
      | false => rw [hh] at this; simp at this
    rw [Dk.raw_do hok HD.out (l := Dk.put d.files ⟨nm, fb.length, fb⟩) (by simp only [Dk.planOf, Dk.planSync, HX.out]), Dk.write_go HT.out] at h1
    exact h1
  have hfl : (Dk.tick d).2.files = d.files := (Dk.tick_files d).1
  have ent := HM.out.foot.arrs _ HIN.out
  have hlaid := hM.laid (S' := S) (fs := Dk.put d.files ⟨nm, fb.length, fb⟩) (f := ⟨nm, fb.length, fb⟩) (v := filev (fb.length : Int) (.slice ao fb.length c)) (n := n) (w' := w5) hmap6.out
    ⟨_, rfl, own_block ho3.out (fun g hg => hg6.out.block g (Nat.lt_of_lt_of_le (HM.out.lt g (ent g hg).1) hk4.out.size) (fun e => (ent g hg).2 (Option.some.inj e)))⟩ hnm (by rw [hfl])
    (fun x hx hne g hg => hg6.out.block g (hM.lt g (hM.foot.arrs x hx g hg).1) (fun e => (hM.foot.arrs x hx g hg).2 (Option.some.inj e)))
    (by
      rw [sync_used HM.out.good HX.out, ← hfl]
      exact hM.box.same (hg6.out.block b hM.box.lt (fun e => hM.out (by rw [Option.some.inj e]; exact hM.foot.mine))))
    (fun g hg => ⟨(ent g hg).1, (ent g hg).2, fun y hy hne e => HM.out.foot.apart _ HIN.out y hy (fun e => hne e.symm) g hg e⟩) (fun _ e => e) HM.out.out
    (fun g hg => Nat.lt_of_lt_of_le (hM.lt g hg) hg6.out.size) hgood
  exact ⟨rfl, MemAt.grow HM.out.box.lt HM.out.out hlaid.lt hlaid hk4.out ((Kept.refl _ _).grown hg6.out (fun k e => .inl (.inl (by cases e; exact hM.foot.mine))))⟩
theorem ahead_arg {off : Bool} {n : List UInt8} (h : Dk.named n = false) : ahead off [n] = 1 := by simp [ahead, h]
theorem ahead_dark {n : List UInt8} (h : Dk.named n = true) : ahead true [n] = 5 := by simp [ahead, h]
theorem ahead_ok {n : List UInt8} (h : Dk.named n = true) : ahead false [n] = 0 := by simp [ahead, h]
theorem sync_raw (S : Nat → Prop) (b : Nat) (d : Disk) (n : List UInt8) (w : World) (h : Mem S w b d) (hn : n.length ≤ maxLen) (ho : d.done ≤ 4611686018427387904) (x y : List UInt8) :
    Calls Try.prog 20 #[.pointer (some ⟨b, 0, none⟩), .string ⟨n.toArray⟩] w fun e w' => RawPost S w b (Dk.raw d 1 n x y) e w' := by
  have stay : ∀ w', Below w.heap.size w w' → Mem (more S w w') w' b d ∧ Kept (Go.Proofs.Ytfjhfecjbheipaa.mine S b) w w' := fun w' hb => by
    obtain ⟨m, l, left, h⟩ := h
    exact h.stay hb
  cases hna : Dk.named n with
  | false =>
    rw [Dk.raw_arg (by exact hna)]
    refine (sync_ahead S b d n w h 1 (ahead_arg hna) rfl).mono ?_
    rintro e w' ⟨rfl, hb⟩
    exact ⟨rfl, stay w' hb⟩
  | true =>
    cases hd : d.dark with
    | true =>
      rw [Dk.raw_dark (by exact hna) hd]
      refine (sync_ahead S b d n w h 5 (by rw [hd]; exact ahead_dark hna) rfl).mono ?_
      rintro e w' ⟨rfl, hb⟩
      exact ⟨rfl, stay w' hb⟩
    | false =>
      have hz : ahead d.dark [n] = 0 := by rw [hd]; exact ahead_ok hna
      cases hx : Dk.look d.files n with
      | none =>
        rw [Dk.raw_own (e := 3) (by exact hna) hd (by simp only [Dk.planOf, Dk.planSync, hx])]
        refine (sync_none S b d n w h hn hz hx).mono ?_
        rintro e w' ⟨rfl, hb⟩
        exact ⟨rfl, stay w' hb⟩
      | some f =>
        obtain ⟨nm, sf, fb⟩ := f
        rw [Dk.raw_do (l := Dk.put d.files ⟨nm, fb.length, fb⟩) (by exact hna) hd (by simp only [Dk.planOf, Dk.planSync, hx])]
        cases ht : (Dk.tick d).1 with
        | false => rw [Dk.write_cut ht]; exact sync_cut S b d n nm sf fb w h hn hz hd ho hx ht
        | true => rw [Dk.write_go ht]; exact sync_go S b d n nm sf fb w h hn hz hd ho hx ht
end Go.Proofs.Ytfjhfecjbheipaa
