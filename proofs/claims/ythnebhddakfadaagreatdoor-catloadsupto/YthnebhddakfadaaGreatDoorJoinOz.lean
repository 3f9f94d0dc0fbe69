/- The walk of disk's Sync. -/
/- The walk of disk's Append. -/
/- The walk of disk's Append: it is done. -/
/- The walk of disk's Append: a new file; all its cases. -/
/- The walk of disk's Rename. -/
/- A disk that was made since a world; what is asked of it. -/
import Derived.Test.YthnebhddakfadaaGreatDoorJoinNn
import Derived.Deep.RegionLaw
import Derived.Lib.SlBytesConst
namespace Go.Proofs.YthnebhddakfadaaGreatDoor
open Go.RowKit
open Dk (File Disk)

/-- What a raw write leaves. -/
def RawPost (S : Nat → Prop) (w : World) (b : Nat) (r : Nat × Disk) (e : Ending) (w' : World) : Prop := e = .returned (.int .i64 (r.1 : Int)) ∧ Mem (more S w w') w' b r.2 ∧ Kept (Go.Proofs.YthnebhddakfadaaGreatDoor.mine S b) w w'
set_option maxHeartbeats 1000000 in
set_option maxRecDepth 100000 in
theorem sync_ahead (S : Nat → Prop) (b : Nat) (d : Disk) (n : List UInt8) (w : World) (h : Mem S w b d) (z : Int) (hz : ahead d.dark [n] = z) (h0 : (z == 0) = false) :
    Calls Tryz.prog 103 #[.pointer (some ⟨b, 0, none⟩), .string ⟨n.toArray⟩] w fun e w' => e = .returned (.int .i64 z) ∧ Below w.heap.size w w' := by
  obtain ⟨m, l, left, h⟩ := h
  have HM := keep h
  clear h
  have HZ := keep hz
  clear hz
  go_enter Tryz.func103, Tryz.ntmps103
  go_wp2_with fail
  have hm1 := HM.out.below ((Below.refl _ w).alloc (Nat.le_refl _) (.cells #[.string ⟨n.toArray⟩] 9))
  refine (ready_box b m _ left d.dark _ _ 1 1 [n] _ hm1.box (one_name w n 9) (by omega)).mono ?_
  rintro e w2 ⟨rfl, hb2⟩
  have hb3 := keep (((Below.refl _ w).alloc (Nat.le_refl _) (.cells #[.string ⟨n.toArray⟩] 9)).trans (hb2.mono (by simp)))
  clear hb2 hm1
  rw [HZ.out]
  go_wp2
  go_ret
  exact ⟨rfl, hb3.out⟩
set_option maxHeartbeats 1000000 in
set_option maxRecDepth 100000 in
theorem sync_none (S : Nat → Prop) (b : Nat) (d : Disk) (n : List UInt8) (w : World) (h : Mem S w b d) (hn : n.length ≤ maxLen) (hz : ahead d.dark [n] = 0) (hx : Dk.look d.files n = none) :
    Calls Tryz.prog 103 #[.pointer (some ⟨b, 0, none⟩), .string ⟨n.toArray⟩] w fun e w' => e = .returned (.int .i64 3) ∧ Below w.heap.size w w' := by
  obtain ⟨m, l, left, h⟩ := h
  have HM := keep h
  clear h
  have HZ := keep hz
  have HX := keep hx
  clear hz hx
  go_enter Tryz.func103, Tryz.ntmps103
  go_wp2_with fail
  have hm1 := HM.out.below ((Below.refl _ w).alloc (Nat.le_refl _) (.cells #[.string ⟨n.toArray⟩] 9))
  refine (ready_box b m _ left d.dark _ _ 1 1 [n] _ hm1.box (one_name w n 9) (by omega)).mono ?_
  rintro e w2 ⟨rfl, hb2⟩
  have hb3 := keep (((Below.refl _ w).alloc (Nat.le_refl _) (.cells #[.string ⟨n.toArray⟩] 9)).trans (hb2.mono (by simp)))
  clear hb2 hm1
  rw [HZ.out]
  have hm2 := HM.out.below hb3.out
  have c02 := hm2.box.c0
  have HL := keep (look_absent hm2.map hm2.rel hn HX.out)
  clear hm2
  go_wp2_with (at_lookup; refine wpList_look rfl _ _ _ _ rfl _ _ _ rfl rfl HL.out ?_)
  go_ret
  exact ⟨rfl, by first | exact hb3.out | exact hb3.out.alloc hb3.out.size _⟩
theorem sync_used {d : Disk} {n nm : List UInt8} {sf : Nat} {fb : List UInt8} (hg : Dk.Good d) (hx : Dk.look d.files n = some ⟨nm, sf, fb⟩) : Dk.used (Dk.put d.files ⟨nm, fb.length, fb⟩) = Dk.used d.files := by
  have hn := (Dk.look_some hx).2
  have := Dk.used_put_old (f := ⟨nm, fb.length, fb⟩) hg.rising (by rw [show (⟨nm, fb.length, fb⟩ : File).name = n from hn]; exact hx)
  simp only [Dk.cost] at this
  omega
set_option maxHeartbeats 1000000 in
set_option maxRecDepth 100000 in
theorem sync_cut (S : Nat → Prop) (b : Nat) (d : Disk) (n nm : List UInt8) (sf : Nat) (fb : List UInt8) (w : World) (h : Mem S w b d) (hn : n.length ≤ maxLen) (hz : ahead d.dark [n] = 0) (hd : d.dark = false) (ho0 : d.done ≤ 4611686018427387904) (hx : Dk.look d.files n = some ⟨nm, sf, fb⟩) (ht : (Dk.tick d).1 = false) :
    Calls Tryz.prog 103 #[.pointer (some ⟨b, 0, none⟩), .string ⟨n.toArray⟩] w fun e w' => RawPost S w b (5, (Dk.tick d).2) e w' := by
  obtain ⟨m, l, left, h⟩ := h
  have HM := keep h
  clear h
  have HZ := keep hz
  have HX := keep hx
  have HD := keep hd
  have HT := keep ht
  clear hz hx hd ht
  go_enter Tryz.func103, Tryz.ntmps103
  go_wp2_with fail
  have hm1 := HM.out.below ((Below.refl _ w).alloc (Nat.le_refl _) (.cells #[.string ⟨n.toArray⟩] 9))
  refine (ready_box b m _ left d.dark _ _ 1 1 [n] _ hm1.box (one_name w n 9) (by omega)).mono ?_
  rintro e w2 ⟨rfl, hb2⟩
  have hb3 := keep (((Below.refl _ w).alloc (Nat.le_refl _) (.cells #[.string ⟨n.toArray⟩] 9)).trans (hb2.mono (by simp)))
  clear hb2 hm1
  rw [HZ.out]
  have hm2 := HM.out.below hb3.out
  have c02 := hm2.box.c0
  obtain ⟨ao, c, hl, ho, hs, hin⟩ := look_there hm2.map hm2.rel hn HX.out
  have HL := keep hl
  have HO := keep ho
  have HIN := keep hin
  have HM2 := keep hm2
  clear hl ho hs hin hm2
  go_wp2_with (first | (at_lookup; refine wpList_look rfl _ _ _ _ rfl _ _ _ rfl rfl HL.out ?_) | fail)
  refine (count_mem S b m l left d _ (HM2.out.below ((Below.refl _ _).alloc (Nat.le_refl _) _)) HD.out ho0).mono ?_
  rintro e w3 ⟨left', rfl, hm3, hk3⟩
  rw [HT.out]
  have hm4 := keep hm3
  have hk4 := keep (((Kept.of_below (U := Go.Proofs.YthnebhddakfadaaGreatDoor.mine S b) hb3.out).alloc (.cells #[.int .i64 (sf : Int), .slice ao fb.length c] 95)).trans (hk3.wide (fun g _ e => .inr e)))
  clear hm3 hk3
  go_wp2
  go_ret
  have hout := HM.out.out
  have hlt := HM.out.box.lt
  exact ⟨rfl, MemAt.grow hlt hout hm4.out.lt hm4.out hk4.out (Kept.refl _ _)⟩
set_option maxHeartbeats 1000000 in
set_option maxRecDepth 100000 in
theorem sync_go (S : Nat → Prop) (b : Nat) (d : Disk) (n nm : List UInt8) (sf : Nat) (fb : List UInt8) (w : World) (h : Mem S w b d) (hn : n.length ≤ maxLen) (hz : ahead d.dark [n] = 0) (hd : d.dark = false) (ho0 : d.done ≤ 4611686018427387904) (hx : Dk.look d.files n = some ⟨nm, sf, fb⟩) (ht : (Dk.tick d).1 = true) :
    Calls Tryz.prog 103 #[.pointer (some ⟨b, 0, none⟩), .string ⟨n.toArray⟩] w fun e w' => RawPost S w b (0, { (Dk.tick d).2 with files := Dk.put d.files ⟨nm, fb.length, fb⟩ }) e w' := by
  obtain ⟨m, l, left, h⟩ := h
  have HM := keep h
  clear h
  have HZ := keep hz
  have HX := keep hx
  have HD := keep hd
  have HT := keep ht
  clear hz hx hd ht
  go_enter Tryz.func103, Tryz.ntmps103
  go_wp2_with fail
  have hm1 := HM.out.below ((Below.refl _ w).alloc (Nat.le_refl _) (.cells #[.string ⟨n.toArray⟩] 9))
  refine (ready_box b m _ left d.dark _ _ 1 1 [n] _ hm1.box (one_name w n 9) (by omega)).mono ?_
  rintro e w2 ⟨rfl, hb2⟩
  have hb3 := keep (((Below.refl _ w).alloc (Nat.le_refl _) (.cells #[.string ⟨n.toArray⟩] 9)).trans (hb2.mono (by simp)))
  clear hb2 hm1
  rw [HZ.out]
  have hm2 := HM.out.below hb3.out
  have c02 := hm2.box.c0
  obtain ⟨ao, c, hl, ho, hs, hin⟩ := look_there hm2.map hm2.rel hn HX.out
  have HL := keep hl
  have HO := keep ho
  have HIN := keep hin
  have HM2 := keep hm2
  clear hl ho hs hin hm2
  go_wp2_with (first | (at_lookup; refine wpList_look rfl _ _ _ _ rfl _ _ _ rfl rfl HL.out ?_) | fail)
  refine (count_mem S b m l left d _ (HM2.out.below ((Below.refl _ _).alloc (Nat.le_refl _) _)) HD.out ho0).mono ?_
  rintro e w3 ⟨left', rfl, hm3, hk3⟩
  rw [HT.out]
  have hw2 : b < w2.heap.size := Nat.lt_of_lt_of_le HM.out.box.lt hb3.out.size
  have k0 : w3.cell? ⟨w2.heap.size, 0, none⟩ = some (.int .i64 (sf : Int)) := local_cell hk3 hw2 (cell_of_row _ _ _ _ _ _ (heap_alloc_new w2 _))
  have k1 : w3.cell? ⟨w2.heap.size, 1, none⟩ = some (.slice ao fb.length c) := local_cell hk3 hw2 (cell_of_row _ _ _ _ _ _ (heap_alloc_new w2 _))
  have c03 := hm3.box.c0
  have hm4 := keep hm3
  have hfew := keep hm3.few
  have hk4 := keep (((Kept.of_below (U := Go.Proofs.YthnebhddakfadaaGreatDoor.mine S b) hb3.out).alloc (.cells #[.int .i64 (sf : Int), .slice ao fb.length c] 95)).trans (hk3.wide (fun g _ e => .inr e)))
  have ho3 : Hid (w3.ownsRow 0 5 1 (.slice ao fb.length c) fb.length (bv fb)) := own_block HO.out (fun g hg => by
    have hS := (HM.out.foot.arrs _ HIN.out g hg).1
    have hlt := (HM2.out.lt g hS)
    rw [hk3.block g (by simp; omega) (fun e => HM.out.out (by rw [← (show g = b from e)]; exact hS)), Below.heap_alloc _ _ g hlt])
  clear hm3 hk3 c02
  obtain ⟨w5, hrun5, hmap5, hg5⟩ := (hm4.out.map.same (w' := w3.drew) rfl).store Tryz.underlying9 Tryz.underlying85 n hn hfew.out.1 (.agg #[.int .i64 (fb.length : Int), .slice ao fb.length c])
  have hmap6 := keep hmap5
  have hg6 : Hid (w3.grownBy w5 (some m)) := ⟨hg5.os, hg5.tape, hg5.output, hg5.size, hg5.block⟩
  clear hmap5 hg5
  go_wp2_with fail
  go_region
  go_wp2
  go_ret
  have hM := hm4.out
  have hnm := (Dk.look_some HX.out).2
  have hgood : Dk.Good { (Dk.tick d).2 with files := Dk.put d.files ⟨nm, fb.length, fb⟩ } := by
    have h1 := Dk.raw_good 1 n [] [] HM.out.good
    have hok : Dk.okay 1 n [] [] = true := by
      have := HZ.out
      unfold ahead at this
      simp only [List.all_cons, List.all_nil, Bool.and_true] at this
      show Dk.named n = true
      cases hh : Dk.named n with
      | true => rfl
      | false => rw [hh] at this; simp at this
    rw [Dk.raw_do hok HD.out (l := Dk.put d.files ⟨nm, fb.length, fb⟩) (by simp only [Dk.planOf, Dk.planSync, HX.out]), Dk.write_go HT.out] at h1
    exact h1
  have hfl : (Dk.tick d).2.files = d.files := (Dk.tick_files d).1
  have ent := HM.out.foot.arrs _ HIN.out
  have hlaid := hM.laid (S' := S) (fs := Dk.put d.files ⟨nm, fb.length, fb⟩) (f := ⟨nm, fb.length, fb⟩) (v := filev (fb.length : Int) (.slice ao fb.length c)) (n := n) (w' := w5) hmap6.out
    ⟨_, rfl, own_block ho3.out (fun g hg => hg6.out.block g (Nat.lt_of_lt_of_le (HM.out.lt g (ent g hg).1) hk4.out.size) (fun e => (ent g hg).2 (Option.some.inj e)))⟩ hnm (by rw [hfl])
    (fun x hx hne g hg => hg6.out.block g (hM.lt g (hM.foot.arrs x hx g hg).1) (fun e => (hM.foot.arrs x hx g hg).2 (Option.some.inj e)))
    (by
      rw [sync_used HM.out.good HX.out, ← hfl]
      exact hM.box.same (hg6.out.block b hM.box.lt (fun e => hM.out (by rw [Option.some.inj e]; exact hM.foot.mine))))
    (fun g hg => ⟨(ent g hg).1, (ent g hg).2, fun y hy hne e => HM.out.foot.apart _ HIN.out y hy (fun e => hne e.symm) g hg e⟩) (fun _ e => e) HM.out.out
    (fun g hg => Nat.lt_of_lt_of_le (hM.lt g hg) hg6.out.size) hgood
  exact ⟨rfl, MemAt.grow HM.out.box.lt HM.out.out hlaid.lt hlaid hk4.out ((Kept.refl _ _).grown hg6.out (fun k e => .inl (.inl (by cases e; exact hM.foot.mine))))⟩
theorem ahead_arg {off : Bool} {n : List UInt8} (h : Dk.named n = false) : ahead off [n] = 1 := by simp [ahead, h]
theorem ahead_dark {n : List UInt8} (h : Dk.named n = true) : ahead true [n] = 5 := by simp [ahead, h]
theorem ahead_ok {n : List UInt8} (h : Dk.named n = true) : ahead false [n] = 0 := by simp [ahead, h]
theorem sync_raw (S : Nat → Prop) (b : Nat) (d : Disk) (n : List UInt8) (w : World) (h : Mem S w b d) (hn : n.length ≤ maxLen) (ho : d.done ≤ 4611686018427387904) (x y : List UInt8) :
    Calls Tryz.prog 103 #[.pointer (some ⟨b, 0, none⟩), .string ⟨n.toArray⟩] w fun e w' => RawPost S w b (Dk.raw d 1 n x y) e w' := by
  have stay : ∀ w', Below w.heap.size w w' → Mem (more S w w') w' b d ∧ Kept (Go.Proofs.YthnebhddakfadaaGreatDoor.mine S b) w w' := fun w' hb => by
    obtain ⟨m, l, left, h⟩ := h
    exact h.stay hb
  cases hna : Dk.named n with
  | false =>
    rw [Dk.raw_arg (by exact hna)]
    refine (sync_ahead S b d n w h 1 (ahead_arg hna) rfl).mono ?_
    rintro e w' ⟨rfl, hb⟩
    exact ⟨rfl, stay w' hb⟩
  | true =>
    cases hd : d.dark with
    | true =>
      rw [Dk.raw_dark (by exact hna) hd]
      refine (sync_ahead S b d n w h 5 (by rw [hd]; exact ahead_dark hna) rfl).mono ?_
      rintro e w' ⟨rfl, hb⟩
      exact ⟨rfl, stay w' hb⟩
    | false =>
      have hz : ahead d.dark [n] = 0 := by rw [hd]; exact ahead_ok hna
      cases hx : Dk.look d.files n with
      | none =>
        rw [Dk.raw_own (e := 3) (by exact hna) hd (by simp only [Dk.planOf, Dk.planSync, hx])]
        refine (sync_none S b d n w h hn hz hx).mono ?_
        rintro e w' ⟨rfl, hb⟩
        exact ⟨rfl, stay w' hb⟩
      | some f =>
        obtain ⟨nm, sf, fb⟩ := f
        rw [Dk.raw_do (l := Dk.put d.files ⟨nm, fb.length, fb⟩) (by exact hna) hd (by simp only [Dk.planOf, Dk.planSync, hx])]
        cases ht : (Dk.tick d).1 with
        | false => rw [Dk.write_cut ht]; exact sync_cut S b d n nm sf fb w h hn hz hd ho hx ht
        | true => rw [Dk.write_go ht]; exact sync_go S b d n nm sf fb w h hn hz hd ho hx ht
end Go.Proofs.YthnebhddakfadaaGreatDoor
namespace Go.Proofs.YthnebhddakfadaaGreatDoor
open Go.RowKit
open Dk (File Disk)

/-- A raw write's answer, the map where it lay. -/
def RawPostM (S : Nat → Prop) (w : World) (b m : Nat) (r : Nat × Disk) (e : Ending) (w' : World) : Prop := e = .returned (.int .i64 (r.1 : Int)) ∧ (∃ l left, MemAt (more S w w') w' b m l left r.2) ∧ Kept (Go.Proofs.YthnebhddakfadaaGreatDoor.mine S b) w w'
theorem RawPostM.raw {S : Nat → Prop} {w : World} {b m : Nat} {r : Nat × Disk} {e : Ending} {w' : World} (h : RawPostM S w b m r e w') : RawPost S w b r e w' := by
  obtain ⟨h1, ⟨l, left, h2⟩, h3⟩ := h
  exact ⟨h1, ⟨m, l, left, h2⟩, h3⟩
theorem MemAt.stayM {S : Nat → Prop} {w w' : World} {b m : Nat} {l : List Named} {left : Int} {d : Disk} (h : MemAt S w b m l left d) (hk : Below w.heap.size w w') : (∃ l left, MemAt (more S w w') w' b m l left d) ∧ Kept (Go.Proofs.YthnebhddakfadaaGreatDoor.mine S b) w w' := by
  refine ⟨⟨l, left, (h.below hk).wide (fun g hg => .inl hg) (fun e => ?_) (fun g hg => ?_)⟩, Kept.of_below hk⟩
  · rcases e with e | e
    · exact h.out e
    · have := h.box.lt; omega
  · rcases hg with hg | hg
    · exact Nat.lt_of_lt_of_le (h.lt g hg) hk.size
    · exact hg.2
theorem MemAt.growM {S : Nat → Prop} {w w1 w2 : World} {b m : Nat} {l : List Named} {left : Int} {d : Disk} (hw : b < w.heap.size) (hs : ¬ S b) (hS : ∀ g, S g → g < w2.heap.size) (h : MemAt S w2 b m l left d) (h1 : Kept (Go.Proofs.YthnebhddakfadaaGreatDoor.mine S b) w w1) (h2 : Kept (Go.Proofs.YthnebhddakfadaaGreatDoor.mine S b) w1 w2) : (∃ l left, MemAt (more S w w2) w2 b m l left d) ∧ Kept (Go.Proofs.YthnebhddakfadaaGreatDoor.mine S b) w w2 := by
  refine ⟨⟨l, left, h.wide (fun g hg => .inl hg) (fun e => ?_) (fun g hg => ?_)⟩, h1.trans h2⟩
  · rcases e with e | e
    · exact hs e
    · omega
  · rcases hg with hg | hg
    · exact hS g hg
    · exact hg.2

/-- append(v, x...) as a step of a region that draws, v nil or the call's own, x bytes that are read. -/
theorem step_append_src {P : Program} {ops : Array Oper} {o : Oper} {a : Act} {w : World} {K : Act → World → Prop} {Q : Exit → Act → World → Prop} {E : Prop} (hg : o.guard = none) (s x : Operand) (t : TypeId)
    (ho : o.op = .call { callee := .builtin .append, args := #[s, x], argTypes := #[t, t] })
    (base : Nat) (i : TypeInfo) (z : Value) (ht : P.underlying t = some (.slice 5)) (hi : P.info? 5 = some i) (hz : i.zero = some z)
    (hsize : i.size = 1) (hby : i.bytes = 1) (hzs : z.cells.size = 1)
    (v : Value) (n : Nat) (k : List UInt8) (hs : a.eval s = v) (hown : w.ownsRow base 5 1 v n (bv k))
    (ao : Option Addr) (m c : Nat) (l : List UInt8) (hx : a.eval x = .slice ao m c) (hsrc : Src w ao m c l)
    (hbytes : n + m ≤ 140737488355328) (hbase : base ≤ w.heap.size)
    (h : ∀ v' w', w'.ownsRow base 5 1 v' (n + m) (bv (k ++ l)) → w.grownBy w' v.ownBlock → K (a.put o.dst v') w') : if Region.wanted o (yielded ops a.tmps) = true then Oper.wp P o a w K Q else E := by
  have hw : Region.wanted o (yielded ops a.tmps) = true := by simp [Region.wanted, hg]
  rw [if_pos hw]
  cases ao with
  | none =>
    obtain ⟨rfl, rfl⟩ := hsrc.nil rfl
    have hl : l = [] := List.length_eq_zero_iff.1 hsrc.len
    subst hl
    have hrun := run_append_owned_none (P := P) (w := w) base t o.type 5 i 1 ht hi v n (bv k) hown
    unfold Oper.wp
    simp [execOp, ho, resolve, invoke, builtin, hs, hx, hrun, Result.andThen]
    exact h v w (by simpa using hown) (World.grownBy.refl _ _)
  | some ad =>
    obtain ⟨v', w', hrun, h1, h2, _⟩ := run_append_own (P := P) w base t o.type 5 i z 1 1 ht hi hz hsize hby hzs (by omega) v n (bv k) hown ad m c (bv l) (by rw [bv_length, hsrc.len]; omega) (hsrc.cells ad rfl) (bv_one l) (by unfold maxLen; omega) (by omega) hbase
    unfold Oper.wp
    simp [execOp, ho, resolve, invoke, builtin, hs, hx, hrun, Result.andThen]
    exact h v' w' (by rw [bv_append]; exact h1) h2

set_option maxHeartbeats 1000000 in
set_option maxRecDepth 100000 in
theorem append_long (b : Nat) (n t : List UInt8) (ao2 : Option Addr) (c2 : Nat) (w : World) (ht : 4096 < (t.length : Int)) :
    Calls Tryz.prog 29 #[.pointer (some ⟨b, 0, none⟩), .string ⟨n.toArray⟩, .slice ao2 t.length c2] w fun e w' => e = .returned (.int .i64 1) ∧ Below w.heap.size w w' := by
  go_enter Tryz.func29, Tryz.ntmps29
  go_wp2
  go_ret
  exact ⟨rfl, Below.refl _ _⟩
set_option maxHeartbeats 1000000 in
set_option maxRecDepth 100000 in
theorem append_ahead (S : Nat → Prop) (b : Nat) (d : Disk) (n t : List UInt8) (ao2 : Option Addr) (c2 : Nat) (w : World) (h : Mem S w b d) (htl : (t.length : Int) ≤ 4096) (z : Int) (hz : ahead d.dark [n] = z) (h0 : (z == 0) = false) :
    Calls Tryz.prog 29 #[.pointer (some ⟨b, 0, none⟩), .string ⟨n.toArray⟩, .slice ao2 t.length c2] w fun e w' => e = .returned (.int .i64 z) ∧ Below w.heap.size w w' := by
  obtain ⟨m, l, left, h⟩ := h
  have HM := keep h
  clear h
  have HZ := keep hz
  clear hz
  go_enter Tryz.func29, Tryz.ntmps29
  go_wp2_with fail
  have hm1 := HM.out.below ((Below.refl _ w).alloc (Nat.le_refl _) (.cells #[.string ⟨n.toArray⟩] 9))
  refine (ready_box b m _ left d.dark _ _ 1 1 [n] _ hm1.box (one_name w n 9) (by omega)).mono ?_
  rintro e w2 ⟨rfl, hb2⟩
  have hb3 := keep (((Below.refl _ w).alloc (Nat.le_refl _) (.cells #[.string ⟨n.toArray⟩] 9)).trans (hb2.mono (by simp)))
  clear hb2 hm1
  rw [HZ.out]
  go_wp2
  go_ret
  exact ⟨rfl, hb3.out⟩
set_option maxHeartbeats 1000000 in
set_option maxRecDepth 100000 in
theorem append_full_there (S : Nat → Prop) (b : Nat) (d : Disk) (n nm t : List UInt8) (sf : Nat) (fb : List UInt8) (ao2 : Option Addr) (c2 : Nat) (w : World) (h : Mem S w b d) (hn : n.length ≤ maxLen) (htl : (t.length : Int) ≤ 4096) (hsrc : Steady (Go.Proofs.YthnebhddakfadaaGreatDoor.mine S b) w fun w => Src w ao2 t.length c2 t) (hz : ahead d.dark [n] = 0) (hd : d.dark = false) (hx : Dk.look d.files n = some ⟨nm, sf, fb⟩) (hfull : ((d.cap : Int) - (Dk.used d.files : Int)) < (t.length : Int)) :
    Calls Tryz.prog 29 #[.pointer (some ⟨b, 0, none⟩), .string ⟨n.toArray⟩, .slice ao2 t.length c2] w fun e w' => e = .returned (.int .i64 4) ∧ Below w.heap.size w w' := by
  obtain ⟨m, l, left, h⟩ := h
  have HM := keep h
  clear h
  have HZ := keep hz
  have HX := keep hx
  have HD := keep hd
  have HS := keep hsrc
  have hnl : n.length ≤ 100 := by
    have := HZ.out
    unfold ahead at this
    simp only [List.all_cons, List.all_nil, Bool.and_true] at this
    cases hh : Dk.named n with
    | true => exact (named_true hh).2.1
    | false => rw [hh] at this; simp at this
  clear hz hx hd hsrc
  obtain ⟨F, hF, F0, F1⟩ : ∃ F : Int, (d.cap : Int) - (Dk.used d.files : Int) = F ∧ 0 ≤ F ∧ F ≤ 1099511627776 := ⟨_, rfl, by have := HM.out.good.room; omega, by have := HM.out.capb; omega⟩
  rw [hF] at hfull
  have HF := keep hF
  clear hF
  go_enter Tryz.func29, Tryz.ntmps29
  go_wp2_with fail
  have hm1 := HM.out.below ((Below.refl _ w).alloc (Nat.le_refl _) (.cells #[.string ⟨n.toArray⟩] 9))
  refine (ready_box b m _ left d.dark _ _ 1 1 [n] _ hm1.box (one_name w n 9) (by omega)).mono ?_
  rintro e w2 ⟨rfl, hb2⟩
  have hb3 := keep (((Below.refl _ w).alloc (Nat.le_refl _) (.cells #[.string ⟨n.toArray⟩] 9)).trans (hb2.mono (by simp)))
  clear hb2 hm1
  rw [HZ.out]
  have hm2 := HM.out.below hb3.out
  have c02 := hm2.box.c0
  have c12 : ∀ o : Obj, (w2.alloc o).cell? ⟨b, 1, none⟩ = some (.int .i64 F) := fun o => by
    have := (hm2.below ((Below.refl _ _).alloc (Nat.le_refl _) o)).box.c1
    rw [HF.out] at this
    exact this
  obtain ⟨ao, c, hl, ho, hs, hin⟩ := look_there hm2.map hm2.rel hn HX.out
  have HL := keep hl
  have HO := keep ho
  have HIN := keep hin
  have HM2 := keep hm2
  clear hl ho hs hin hm2
  go_wp2_with (first | (at_lookup; refine wpList_look rfl _ _ _ _ rfl _ _ _ rfl rfl HL.out ?_) | fail)
  go_wp2
  go_ret
  exact ⟨rfl, by first | exact hb3.out | exact hb3.out.alloc hb3.out.size _⟩
set_option maxHeartbeats 1000000 in
set_option maxRecDepth 100000 in
theorem append_full_new (S : Nat → Prop) (b : Nat) (d : Disk) (n t : List UInt8) (ao2 : Option Addr) (c2 : Nat) (w : World) (h : Mem S w b d) (hn : n.length ≤ maxLen) (htl : (t.length : Int) ≤ 4096) (hsrc : Steady (Go.Proofs.YthnebhddakfadaaGreatDoor.mine S b) w fun w => Src w ao2 t.length c2 t) (hz : ahead d.dark [n] = 0) (hd : d.dark = false) (hx : Dk.look d.files n = none) (hfull : ((d.cap : Int) - (Dk.used d.files : Int)) < (16 + (n.length : Int) + (t.length : Int))) :
    Calls Tryz.prog 29 #[.pointer (some ⟨b, 0, none⟩), .string ⟨n.toArray⟩, .slice ao2 t.length c2] w fun e w' => e = .returned (.int .i64 4) ∧ Below w.heap.size w w' := by
  obtain ⟨m, l, left, h⟩ := h
  have HM := keep h
  clear h
  have HZ := keep hz
  have HX := keep hx
  have HD := keep hd
  have HS := keep hsrc
  have hnl : n.length ≤ 100 := by
    have := HZ.out
    unfold ahead at this
    simp only [List.all_cons, List.all_nil, Bool.and_true] at this
    cases hh : Dk.named n with
    | true => exact (named_true hh).2.1
    | false => rw [hh] at this; simp at this
  clear hz hx hd hsrc
  obtain ⟨F, hF, F0, F1⟩ : ∃ F : Int, (d.cap : Int) - (Dk.used d.files : Int) = F ∧ 0 ≤ F ∧ F ≤ 1099511627776 := ⟨_, rfl, by have := HM.out.good.room; omega, by have := HM.out.capb; omega⟩
  rw [hF] at hfull
  have HF := keep hF
  clear hF
  go_enter Tryz.func29, Tryz.ntmps29
  go_wp2_with fail
  have hm1 := HM.out.below ((Below.refl _ w).alloc (Nat.le_refl _) (.cells #[.string ⟨n.toArray⟩] 9))
  refine (ready_box b m _ left d.dark _ _ 1 1 [n] _ hm1.box (one_name w n 9) (by omega)).mono ?_
  rintro e w2 ⟨rfl, hb2⟩
  have hb3 := keep (((Below.refl _ w).alloc (Nat.le_refl _) (.cells #[.string ⟨n.toArray⟩] 9)).trans (hb2.mono (by simp)))
  clear hb2 hm1
  rw [HZ.out]
  have hm2 := HM.out.below hb3.out
  have c02 := hm2.box.c0
  have c12 : ∀ o : Obj, (w2.alloc o).cell? ⟨b, 1, none⟩ = some (.int .i64 F) := fun o => by
    have := (hm2.below ((Below.refl _ _).alloc (Nat.le_refl _) o)).box.c1
    rw [HF.out] at this
    exact this
  have HL := keep (look_absent hm2.map hm2.rel hn HX.out)
  have HM2 := keep hm2
  clear hm2
  go_wp2_with (first | (at_lookup; refine wpList_look rfl _ _ _ _ rfl _ _ _ rfl rfl HL.out ?_) | fail)
  refine (cost_any n ao2 t.length c2 _ (by omega) (by omega)).mono ?_
  rintro e w9 ⟨rfl, rfl⟩
  go_wp2_with fail
  go_wp2
  go_ret
  exact ⟨rfl, by first | exact hb3.out | exact hb3.out.alloc hb3.out.size _⟩
set_option maxHeartbeats 1000000 in
set_option maxRecDepth 100000 in
theorem append_cut_there (S : Nat → Prop) (b : Nat) (d : Disk) (n nm t : List UInt8) (sf : Nat) (fb : List UInt8) (ao2 : Option Addr) (c2 : Nat) (w : World) (m : Nat) (l : List Named) (left : Int) (h : MemAt S w b m l left d) (hn : n.length ≤ maxLen) (htl : (t.length : Int) ≤ 4096) (hsrc : Steady (Go.Proofs.YthnebhddakfadaaGreatDoor.mine S b) w fun w => Src w ao2 t.length c2 t) (hz : ahead d.dark [n] = 0) (hd : d.dark = false) (ho0 : d.done ≤ 4611686018427387904) (hx : Dk.look d.files n = some ⟨nm, sf, fb⟩) (hroom : ¬ ((d.cap : Int) - (Dk.used d.files : Int)) < (t.length : Int)) (ht : (Dk.tick d).1 = false) :
    Calls Tryz.prog 29 #[.pointer (some ⟨b, 0, none⟩), .string ⟨n.toArray⟩, .slice ao2 t.length c2] w fun e w' => RawPostM S w b m (5, (Dk.tick d).2) e w' := by
  have HM := keep h
  clear h
  have HZ := keep hz
  have HX := keep hx
  have HD := keep hd
  have HS := keep hsrc
  have hnl : n.length ≤ 100 := by
    have := HZ.out
    unfold ahead at this
    simp only [List.all_cons, List.all_nil, Bool.and_true] at this
    cases hh : Dk.named n with
    | true => exact (named_true hh).2.1
    | false => rw [hh] at this; simp at this
  clear hz hx hd hsrc
  have HT := keep ht
  clear ht
  obtain ⟨F, hF, F0, F1⟩ : ∃ F : Int, (d.cap : Int) - (Dk.used d.files : Int) = F ∧ 0 ≤ F ∧ F ≤ 1099511627776 := ⟨_, rfl, by have := HM.out.good.room; omega, by have := HM.out.capb; omega⟩
  rw [hF] at hroom
  have HF := keep hF
  clear hF
  go_enter Tryz.func29, Tryz.ntmps29
  go_wp2_with fail
  have hm1 := HM.out.below ((Below.refl _ w).alloc (Nat.le_refl _) (.cells #[.string ⟨n.toArray⟩] 9))
  refine (ready_box b m _ left d.dark _ _ 1 1 [n] _ hm1.box (one_name w n 9) (by omega)).mono ?_
  rintro e w2 ⟨rfl, hb2⟩
  have hb3 := keep (((Below.refl _ w).alloc (Nat.le_refl _) (.cells #[.string ⟨n.toArray⟩] 9)).trans (hb2.mono (by simp)))
  clear hb2 hm1
  rw [HZ.out]
  have hm2 := HM.out.below hb3.out
  have c02 := hm2.box.c0
  have c12 : ∀ o : Obj, (w2.alloc o).cell? ⟨b, 1, none⟩ = some (.int .i64 F) := fun o => by
    have := (hm2.below ((Below.refl _ _).alloc (Nat.le_refl _) o)).box.c1
    rw [HF.out] at this
    exact this
  obtain ⟨ao, c, hl, ho, hs, hin⟩ := look_there hm2.map hm2.rel hn HX.out
  have HL := keep hl
  have HO := keep ho
  have HIN := keep hin
  have HM2 := keep hm2
  clear hl ho hs hin hm2
  go_wp2_with (first | (at_lookup; refine wpList_look rfl _ _ _ _ rfl _ _ _ rfl rfl HL.out ?_) | fail)
  refine (count_mem S b m l left d _ (HM2.out.below ((Below.refl _ _).alloc (Nat.le_refl _) _)) HD.out ho0).mono ?_
  rintro e w3 ⟨left', rfl, hm3, hk3⟩
  rw [HT.out]
  have hk4 := keep (((Kept.of_below (U := Go.Proofs.YthnebhddakfadaaGreatDoor.mine S b) hb3.out).alloc (.cells #[.int .i64 (sf : Int), .slice ao fb.length c] 95)).trans (hk3.wide (fun g _ e => .inr e)))
  have hm4 := keep hm3
  clear hm3 hk3
  go_wp2
  go_ret
  exact ⟨rfl, MemAt.growM HM.out.box.lt HM.out.out hm4.out.lt hm4.out hk4.out (Kept.refl _ _)⟩
set_option maxHeartbeats 1000000 in
set_option maxRecDepth 100000 in
theorem append_cut_new (S : Nat → Prop) (b : Nat) (d : Disk) (n t : List UInt8) (ao2 : Option Addr) (c2 : Nat) (w : World) (m : Nat) (l : List Named) (left : Int) (h : MemAt S w b m l left d) (hn : n.length ≤ maxLen) (htl : (t.length : Int) ≤ 4096) (hsrc : Steady (Go.Proofs.YthnebhddakfadaaGreatDoor.mine S b) w fun w => Src w ao2 t.length c2 t) (hz : ahead d.dark [n] = 0) (hd : d.dark = false) (ho0 : d.done ≤ 4611686018427387904) (hx : Dk.look d.files n = none) (hroom : ¬ ((d.cap : Int) - (Dk.used d.files : Int)) < (16 + (n.length : Int) + (t.length : Int))) (ht : (Dk.tick d).1 = false) :
    Calls Tryz.prog 29 #[.pointer (some ⟨b, 0, none⟩), .string ⟨n.toArray⟩, .slice ao2 t.length c2] w fun e w' => RawPostM S w b m (5, (Dk.tick d).2) e w' := by
  have HM := keep h
  clear h
  have HZ := keep hz
  have HX := keep hx
  have HD := keep hd
  have HS := keep hsrc
  have hnl : n.length ≤ 100 := by
    have := HZ.out
    unfold ahead at this
    simp only [List.all_cons, List.all_nil, Bool.and_true] at this
    cases hh : Dk.named n with
    | true => exact (named_true hh).2.1
    | false => rw [hh] at this; simp at this
  clear hz hx hd hsrc
  have HT := keep ht
  clear ht
  obtain ⟨F, hF, F0, F1⟩ : ∃ F : Int, (d.cap : Int) - (Dk.used d.files : Int) = F ∧ 0 ≤ F ∧ F ≤ 1099511627776 := ⟨_, rfl, by have := HM.out.good.room; omega, by have := HM.out.capb; omega⟩
  rw [hF] at hroom
  have HF := keep hF
  clear hF
  go_enter Tryz.func29, Tryz.ntmps29
  go_wp2_with fail
  have hm1 := HM.out.below ((Below.refl _ w).alloc (Nat.le_refl _) (.cells #[.string ⟨n.toArray⟩] 9))
  refine (ready_box b m _ left d.dark _ _ 1 1 [n] _ hm1.box (one_name w n 9) (by omega)).mono ?_
  rintro e w2 ⟨rfl, hb2⟩
  have hb3 := keep (((Below.refl _ w).alloc (Nat.le_refl _) (.cells #[.string ⟨n.toArray⟩] 9)).trans (hb2.mono (by simp)))
  clear hb2 hm1
  rw [HZ.out]
  have hm2 := HM.out.below hb3.out
  have c02 := hm2.box.c0
  have c12 : ∀ o : Obj, (w2.alloc o).cell? ⟨b, 1, none⟩ = some (.int .i64 F) := fun o => by
    have := (hm2.below ((Below.refl _ _).alloc (Nat.le_refl _) o)).box.c1
    rw [HF.out] at this
    exact this
  have HL := keep (look_absent hm2.map hm2.rel hn HX.out)
  have HM2 := keep hm2
  clear hm2
  go_wp2_with (first | (at_lookup; refine wpList_look rfl _ _ _ _ rfl _ _ _ rfl rfl HL.out ?_) | fail)
  refine (cost_any n ao2 t.length c2 _ (by omega) (by omega)).mono ?_
  rintro e w9 ⟨rfl, rfl⟩
  go_wp2_with fail
  refine (count_mem S b m l left d _ (HM2.out.below ((Below.refl _ _).alloc (Nat.le_refl _) _)) HD.out ho0).mono ?_
  rintro e w3 ⟨left', rfl, hm3, hk3⟩
  rw [HT.out]
  have hk4 := keep (((Kept.of_below (U := Go.Proofs.YthnebhddakfadaaGreatDoor.mine S b) hb3.out).alloc (.cells #[.int .i64 0, .slice none 0 0] 95)).trans (hk3.wide (fun g _ e => .inr e)))
  have hm4 := keep hm3
  clear hm3 hk3
  go_wp2
  go_ret
  exact ⟨rfl, MemAt.growM HM.out.box.lt HM.out.out hm4.out.lt hm4.out hk4.out (Kept.refl _ _)⟩
end Go.Proofs.YthnebhddakfadaaGreatDoor
namespace Go.Proofs.YthnebhddakfadaaGreatDoor
open Go.RowKit
open Dk (File Disk)

/-- Where the bytes lie behind an append: where they lay, or in a new block. -/
theorem append_where {P : Program} {w w' : World} {t ty : TypeId} {i : TypeInfo} {z : Value} (ht : P.underlying t = some (.slice 5)) (hi : P.info? 5 = some i) (hz : i.zero = some z) (hsize : i.size = 1) (hby : i.bytes = 1)
    {v v' : Value} {n : Nat} {k : List UInt8} (hown : w.ownsRow 0 5 1 v n (bv k)) {ad : Addr} {m c : Nat} {l : List UInt8} (hsrc : Src w (some ad) m c l) (hbytes : n + m ≤ 140737488355328)
    (hrun : (Builtin.append_ #[t, t] ty #[v, .slice (some ad) m c]).run P w = .ok v' w') : v'.ownBlock = v.ownBlock ∨ v'.ownBlock = some w.heap.size := by
  have hl : (bv l).length = m * i.size := by rw [bv_length, hsrc.len, hsize]; omega
  have hc := hsrc.cells ad rfl
  rcases hown.2 with ⟨rfl, rfl⟩ | ⟨g, cap, cur, rfl, hbg, hg, hnc, hcm, hcs, htake⟩
  · rcases Nat.eq_zero_or_pos m with h0 | h0
    · subst h0
      simp [Builtin.append_, run_underlying ht, sizeOf, typeInfo, hi, Builtin.lenOf, Builtin.firstCells, loadCells, loadCellsFrom] at hrun
      rw [← hrun.1]
      exact .inl rfl
    · have hr := run_append_nil (P := P) w t ty 5 i z ht hi hz ad m c (bv l) hl hc h0 (by omega) (by rw [hby]; omega)
      rw [hr] at hrun
      cases hrun
      exact .inr rfl
  · by_cases hroom : n + m ≤ cap
    · have hfit : n * i.size + (bv l).length ≤ cur.size := by rw [hl, hcs, hsize]; omega
      have hr := run_append_room (P := P) w t ty 5 i ht hi g n cap cur hg ad m c (bv l) hl hc (bv_one l) hroom hfit
      rw [hr] at hrun
      cases hrun
      exact .inl rfl
    · have hr := run_append_grow (P := P) w t ty 5 i z ht hi hz ⟨g, 0, none⟩ n cap (bv k) (by rw [hown.1, hsize]) (hown.cells (g := g) rfl) ad m c (bv l) hl hc (by omega) (by omega) (growslice_fits (by omega) (by rw [hby]; omega))
      rw [hr] at hrun
      cases hrun
      exact .inr rfl
/-- append(v, x...) as a step of a region that draws; where the bytes lie then. -/
theorem step_append_at {P : Program} {ops : Array Oper} {o : Oper} {a : Act} {w : World} {K : Act → World → Prop} {Q : Exit → Act → World → Prop} {E : Prop} (hg : o.guard = none) (s x : Operand) (t : TypeId)
    (ho : o.op = .call { callee := .builtin .append, args := #[s, x], argTypes := #[t, t] })
    (i : TypeInfo) (z : Value) (ht : P.underlying t = some (.slice 5)) (hi : P.info? 5 = some i) (hz : i.zero = some z)
    (hsize : i.size = 1) (hby : i.bytes = 1) (hzs : z.cells.size = 1)
    (v : Value) (n : Nat) (k : List UInt8) (hs : a.eval s = v) (hown : w.ownsRow 0 5 1 v n (bv k))
    (ao : Option Addr) (m c : Nat) (l : List UInt8) (hx : a.eval x = .slice ao m c) (hsrc : Src w ao m c l)
    (hbytes : n + m ≤ 140737488355328)
    (h : ∀ v' w', w'.ownsRow 0 5 1 v' (n + m) (bv (k ++ l)) → w.grownBy w' v.ownBlock → (v'.ownBlock = v.ownBlock ∨ v'.ownBlock = some w.heap.size) → K (a.put o.dst v') w') : if Region.wanted o (yielded ops a.tmps) = true then Oper.wp P o a w K Q else E := by
  have hw : Region.wanted o (yielded ops a.tmps) = true := by simp [Region.wanted, hg]
  rw [if_pos hw]
  cases ao with
  | none =>
    obtain ⟨rfl, rfl⟩ := hsrc.nil rfl
    have hl : l = [] := List.length_eq_zero_iff.1 hsrc.len
    subst hl
    have hrun := run_append_owned_none (P := P) (w := w) 0 t o.type 5 i 1 ht hi v n (bv k) hown
    unfold Oper.wp
    simp [execOp, ho, resolve, invoke, builtin, hs, hx, hrun, Result.andThen]
    exact h v w (by simpa using hown) (World.grownBy.refl _ _) (.inl rfl)
  | some ad =>
    obtain ⟨v', w', hrun, h1, h2, _⟩ := run_append_own (P := P) w 0 t o.type 5 i z 1 1 ht hi hz hsize hby hzs (by omega) v n (bv k) hown ad m c (bv l) (by rw [bv_length, hsrc.len]; omega) (hsrc.cells ad rfl) (bv_one l) (by unfold maxLen; omega) (by omega) (Nat.zero_le _)
    have hwh := append_where ht hi hz hsize hby hown hsrc hbytes hrun
    unfold Oper.wp
    simp [execOp, ho, resolve, invoke, builtin, hs, hx, hrun, Result.andThen]
    exact h v' w' (by rw [bv_append]; exact h1) h2 hwh
theorem own_size {w : World} {B t k n : Nat} {v : Value} {xs : List Value} (h : w.ownsRow B t k v n xs) {g : Nat} (hg : v.ownBlock = some g) : g < w.heap.size := by
  rcases h.2 with ⟨rfl, _⟩ | ⟨g', cap, cur, rfl, _, hh, _⟩
  · cases hg
  · cases hg
    exact (Array.getElem?_eq_some_iff.1 hh).1
theorem RawPostM.drew {S : Nat → Prop} {w : World} {b m : Nat} {r : Nat × Disk} {e : Ending} {w' : World} (h : RawPostM S w b m r e w') : RawPostM S w b m r e w'.drew := by
  obtain ⟨h1, ⟨l, left, h2⟩, h3⟩ := h
  exact ⟨h1, ⟨l, left, h2.below ((Below.refl _ _).drew)⟩, h3.drew⟩
/-- What is laid behind the append. -/
theorem append_key {S : Nat → Prop} {w w3 : World} {b m L : Nat} {l : List Named} {left' : Int} {d3 : Disk} {n fb t : List UInt8} {sf : Nat} {ao : Option Addr} {c : Nat} {F mo : Int} {fs : List File}
    (hM : MemAt S w3 b m l left' d3) (hk : Kept (Go.Proofs.YthnebhddakfadaaGreatDoor.mine S b) w w3) (hb : b < w.heap.size) (hS : ∀ g, S g → g < w.heap.size) (hn : n.length ≤ maxLen) (hL : w.heap.size ≤ L)
    (hold : ∀ g, (Value.slice ao fb.length c).ownBlock = some g → S g ∧ g ≠ m ∧ ∀ y ∈ l, y.1 ≠ n → arr y.2 ≠ some g)
    (k0 : w3.cell? ⟨L, 0, none⟩ = some (.int .i64 (sf : Int))) (k1 : w3.cell? ⟨L, 1, none⟩ = some (.slice ao fb.length c))
    (hfs : fs = Dk.put d3.files ⟨n, sf, fb ++ t⟩) (hgood : Dk.Good { d3 with files := fs }) (hF : (d3.cap : Int) - (Dk.used d3.files : Int) = F) (hmo : (d3.cap : Int) - (Dk.used fs : Int) = F - mo) :
    ∀ v4 w4, w4.ownsRow 0 5 1 v4 (fb.length + t.length) (bv (fb ++ t)) → w3.drew.grownBy w4 (Value.slice ao fb.length c).ownBlock → (v4.ownBlock = (Value.slice ao fb.length c).ownBlock ∨ v4.ownBlock = some w3.heap.size) →
      ∃ ao4 c4, v4 = .slice ao4 (fb.length + t.length) c4 ∧ w4.cell? ⟨b, 0, none⟩ = some (.map (some m)) ∧ w4.cell? ⟨L, 0, none⟩ = some (.int .i64 (sf : Int)) ∧ w4.cell? ⟨L, 1, none⟩ = some (.slice ao fb.length c) ∧
        ∃ w5, (Instr.mapUpdate 85 (.map (some m)) (.string ⟨n.toArray⟩) (.agg #[.int .i64 (sf : Int), .slice ao4 (fb.length + t.length) c4])).run Tryz.prog w4 = .ok () w5 ∧
          w5.cell? ⟨b, 1, none⟩ = some (.int .i64 F) ∧ (∀ i, w5.frozen? ⟨b, i, none⟩ = false) ∧ Hid (RawPostM S w b m (0, { d3 with files := fs }) (.returned (.int .i64 0)) (w5.setCell ⟨b, 1, none⟩ (.int .i64 (F - mo)))) := by
  intro v4 w4 ho4 hg4 hwh
  obtain ⟨ao4, c4, rfl⟩ := own_slice ho4
  have hbm : b ≠ m := fun e => hM.out (by rw [e]; exact hM.foot.mine)
  have nb : ∀ g, ¬ S g → some g ≠ (Value.slice ao fb.length c).ownBlock := fun g hg e => hg (hold g e.symm).1
  have hmN : some m ≠ (Value.slice ao fb.length c).ownBlock := fun e => (hold m e.symm).2.1 rfl
  have hL2 : ¬ S L := fun e => by have := hS L e; omega
  have hbx4 : Box w4 b m F left' d3.dark (d3.done : Int) := by
    have := hM.box.same (w' := w4) (hg4.block b hM.box.lt (nb b hM.out))
    rwa [hF] at this
  have hmap4 : MapIs Tryz.prog 9 w4 m l := hM.map.same (hg4.block m (hM.lt m hM.foot.mine) hmN)
  obtain ⟨w5, hrun5, hmap5, hg5⟩ := hmap4.store Tryz.underlying9 Tryz.underlying85 n hn hM.few.1 (.agg #[.int .i64 (sf : Int), .slice ao4 (fb.length + t.length) c4])
  have hbx5 : Box w5 b m F left' d3.dark (d3.done : Int) := hbx4.same (hg5.block b hbx4.lt (fun e => hbm (Option.some.inj e)))
  refine ⟨ao4, c4, rfl, hbx4.c0, hg4.cell k0 (nb L hL2), hg4.cell k1 (nb L hL2), w5, hrun5, hbx5.c1, hbx5.warm, ?_⟩
  have hsz : w3.heap.size ≤ w5.heap.size := Nat.le_trans hg4.size hg5.size
  have hblk : ∀ g, g ≠ b → (w5.setCell ⟨b, 1, none⟩ (.int .i64 (F - mo))).heap[g]? = w5.heap[g]? := fun g hg => Below.heap_setCell w5 ⟨b, 1, none⟩ _ g hg
  have hsz5 : (w5.setCell ⟨b, 1, none⟩ (.int .i64 (F - mo))).heap.size = w5.heap.size := by simp only [World.setCell, Array.size_modify]
  have g4 : ∀ g, (Value.slice ao4 (fb.length + t.length) c4).ownBlock = some g → g ≠ m ∧ g ≠ b ∧ g < w4.heap.size ∧ (S g ∨ w.heap.size ≤ g) ∧ ∀ y ∈ l, y.1 ≠ n → arr y.2 ≠ some g := by
    intro g hg
    refine ⟨?_, ?_, own_size ho4 hg, ?_, ?_⟩
    all_goals rcases hwh with e | e
    · rw [hg] at e; exact (hold g e.symm).2.1
    · rw [hg] at e
      have e := Option.some.inj e
      have := hM.lt m hM.foot.mine
      omega
    · rw [hg] at e; exact fun e2 => hM.out (by rw [← e2]; exact (hold g e.symm).1)
    · rw [hg] at e
      have e := Option.some.inj e
      have := hM.box.lt
      omega
    · rw [hg] at e; exact .inl (hold g e.symm).1
    · rw [hg] at e
      have e := Option.some.inj e
      have := hk.size
      exact .inr (by omega)
    · rw [hg] at e; exact (hold g e.symm).2.2
    · rw [hg] at e
      have e := Option.some.inj e
      intro y hy _ hy2
      have := hM.lt g (hM.foot.arrs y hy g hy2).1
      omega
  have hlaid := hM.laid (S' := more S w (w5.setCell ⟨b, 1, none⟩ (.int .i64 (F - mo)))) (fs := fs) (f := ⟨n, sf, fb ++ t⟩) (v := filev (sf : Int) (.slice ao4 (fb.length + t.length) c4)) (n := n) (w' := w5.setCell ⟨b, 1, none⟩ (.int .i64 (F - mo))) (hmap5.same (hblk m (fun e => hbm e.symm)))
    ⟨_, rfl, by
      have h1 : (w5.setCell ⟨b, 1, none⟩ (.int .i64 (F - mo))).ownsRow 0 5 1 (.slice ao4 (fb.length + t.length) c4) (fb.length + t.length) (bv (fb ++ t)) := own_block ho4 (fun g hg => (hblk g (g4 g hg).2.1).trans (hg5.block g (g4 g hg).2.2.1 (fun e => (g4 g hg).1 (Option.some.inj e))))
      rw [show (⟨n, sf, fb ++ t⟩ : File).bytes.length = fb.length + t.length from List.length_append]
      exact h1⟩ rfl hfs
    (fun x hx hne g hg => by
      have hx2 := hM.foot.arrs x hx g hg
      refine (hblk g (fun e => hM.out (by rw [← e]; exact hx2.1))).trans ((hg5.block g (Nat.lt_of_lt_of_le (hM.lt g hx2.1) hg4.size) (fun e => hx2.2 (Option.some.inj e))).trans (hg4.block g (hM.lt g hx2.1) (fun e => ?_)))
      exact (hold g e.symm).2.2 x hx hne hg)
    (by rw [hmo]; exact hbx5.set1 _)
    (fun g hg => ⟨by
      rcases (g4 g hg).2.2.2.1 with h1 | h1
      · exact .inl h1
      · exact .inr ⟨h1, by rw [hsz5]; exact Nat.lt_of_lt_of_le (g4 g hg).2.2.1 hg5.size⟩, (g4 g hg).1, (g4 g hg).2.2.2.2⟩) (fun g hg => .inl hg)
    (fun e => by
      rcases e with e | e
      · exact hM.out e
      · omega)
    (fun g hg => by
      rcases hg with hg | hg
      · rw [hsz5]; exact Nat.lt_of_lt_of_le (hM.lt g hg) hsz
      · exact hg.2) hgood
  refine ⟨rfl, ⟨_, _, hlaid⟩, ?_⟩
  refine (hk.trans' (V := fun g => S g ∨ g = b) (c := w5.setCell ⟨b, 1, none⟩ (.int .i64 (F - mo))) ?_ (fun g _ e => e))
  have h1 : Kept (fun g => S g ∨ g = b) w3 w4 := (Kept.refl _ w3).drew.grown hg4 (fun k e => .inl (.inl (hold k e).1))
  exact (h1.grown hg5 (fun k e => .inl (.inl (by cases e; exact hM.foot.mine)))).setCell (p := ⟨b, 1, none⟩) (.inl (.inr rfl)) _

set_option maxHeartbeats 1000000 in
set_option maxRecDepth 100000 in
theorem append_go_there (S : Nat → Prop) (b : Nat) (d : Disk) (n nm t : List UInt8) (sf : Nat) (fb : List UInt8) (ao2 : Option Addr) (c2 : Nat) (w : World) (m : Nat) (l : List Named) (left : Int) (h : MemAt S w b m l left d) (hn : n.length ≤ maxLen) (htl : (t.length : Int) ≤ 4096) (hsrc : Steady (Go.Proofs.YthnebhddakfadaaGreatDoor.mine S b) w fun w => Src w ao2 t.length c2 t) (hz : ahead d.dark [n] = 0) (hd : d.dark = false) (ho0 : d.done ≤ 4611686018427387904) (hx : Dk.look d.files n = some ⟨nm, sf, fb⟩) (hroom : ¬ ((d.cap : Int) - (Dk.used d.files : Int)) < (t.length : Int)) (ht : (Dk.tick d).1 = true) :
    Calls Tryz.prog 29 #[.pointer (some ⟨b, 0, none⟩), .string ⟨n.toArray⟩, .slice ao2 t.length c2] w fun e w' => RawPostM S w b m (0, { (Dk.tick d).2 with files := Dk.put d.files ⟨nm, sf, fb ++ t⟩ }) e w' := by
  have HM := keep h
  clear h
  have HZ := keep hz
  have HX := keep hx
  have HD := keep hd
  have HS := keep hsrc
  have hnl : n.length ≤ 100 := by
    have := HZ.out
    unfold ahead at this
    simp only [List.all_cons, List.all_nil, Bool.and_true] at this
    cases hh : Dk.named n with
    | true => exact (named_true hh).2.1
    | false => rw [hh] at this; simp at this
  clear hz hx hd hsrc
  have HT := keep ht
  clear ht
  obtain ⟨F, hF, F0, F1⟩ : ∃ F : Int, (d.cap : Int) - (Dk.used d.files : Int) = F ∧ 0 ≤ F ∧ F ≤ 1099511627776 := ⟨_, rfl, by have := HM.out.good.room; omega, by have := HM.out.capb; omega⟩
  rw [hF] at hroom
  have HF := keep hF
  clear hF
  go_enter Tryz.func29, Tryz.ntmps29
  go_wp2_with fail
  have hm1 := HM.out.below ((Below.refl _ w).alloc (Nat.le_refl _) (.cells #[.string ⟨n.toArray⟩] 9))
  refine (ready_box b m _ left d.dark _ _ 1 1 [n] _ hm1.box (one_name w n 9) (by omega)).mono ?_
  rintro e w2 ⟨rfl, hb2⟩
  have hb3 := keep (((Below.refl _ w).alloc (Nat.le_refl _) (.cells #[.string ⟨n.toArray⟩] 9)).trans (hb2.mono (by simp)))
  clear hb2 hm1
  rw [HZ.out]
  have hm2 := HM.out.below hb3.out
  have c02 := hm2.box.c0
  have c12 : ∀ o : Obj, (w2.alloc o).cell? ⟨b, 1, none⟩ = some (.int .i64 F) := fun o => by
    have := (hm2.below ((Below.refl _ _).alloc (Nat.le_refl _) o)).box.c1
    rw [HF.out] at this
    exact this
  obtain ⟨ao, c, hl, ho, hs, hin⟩ := look_there hm2.map hm2.rel hn HX.out
  have HL := keep hl
  have HO := keep ho
  have HIN := keep hin
  have HM2 := keep hm2
  clear hl ho hs hin hm2
  go_wp2_with (first | (at_lookup; refine wpList_look rfl _ _ _ _ rfl _ _ _ rfl rfl HL.out ?_) | fail)
  refine (count_mem S b m l left d _ (HM2.out.below ((Below.refl _ _).alloc (Nat.le_refl _) _)) HD.out ho0).mono ?_
  rintro e w3 ⟨left', rfl, hm3, hk3⟩
  rw [HT.out]
  have hk4 := keep (((Kept.of_below (U := Go.Proofs.YthnebhddakfadaaGreatDoor.mine S b) hb3.out).alloc (.cells #[.int .i64 (sf : Int), .slice ao fb.length c] 95)).trans (hk3.wide (fun g _ e => .inr e)))
  have hm4 := keep hm3
  have hw2 : b < w2.heap.size := Nat.lt_of_lt_of_le HM.out.box.lt hb3.out.size
  have k0 : w3.cell? ⟨w2.heap.size, 0, none⟩ = some (.int .i64 (sf : Int)) := local_cell hk3 hw2 (cell_of_row _ _ _ _ _ _ (heap_alloc_new w2 _))
  have k1 : w3.cell? ⟨w2.heap.size, 1, none⟩ = some (.slice ao fb.length c) := local_cell hk3 hw2 (cell_of_row _ _ _ _ _ _ (heap_alloc_new w2 _))
  have c03 := hm3.box.c0
  have hfl : (Dk.tick d).2.files = d.files := (Dk.tick_files d).1
  have hcp : (Dk.tick d).2.cap = d.cap := (Dk.tick_files d).2
  have hfbl : fb.length ≤ 1099511627776 := by
    have h1 := used_mem (Dk.look_some HX.out).1
    have h2 := HM.out.good.room
    have h3 := HM.out.capb
    simp only [Dk.cost] at h1
    omega
  have hO3 : Hid (w3.drew.ownsRow 0 5 1 (.slice ao fb.length c) fb.length (bv fb)) := own_block HO.out (fun g hg => by
    have hS := (HM.out.foot.arrs _ HIN.out g hg).1
    have hlt := (HM2.out.lt g hS)
    show w3.heap[g]? = _
    rw [hk3.block g (by simp; omega) (fun e => HM.out.out (by rw [← (show g = b from e)]; exact hS)), Below.heap_alloc _ _ g hlt])
  have hS3 : Hid (Src w3.drew ao2 t.length c2 t) := HS.out _ hk4.out.drew
  have hnm := (Dk.look_some HX.out).2
  have hgood : Dk.Good { (Dk.tick d).2 with files := Dk.put d.files ⟨nm, sf, fb ++ t⟩ } := by
    have h1 := Dk.raw_good 0 n [] t HM.out.good
    have hok : Dk.okay 0 n [] t = true := by
      have := HZ.out
      unfold ahead at this
      simp only [List.all_cons, List.all_nil, Bool.and_true] at this
      show (Dk.named n && decide (t.length ≤ 4096)) = true
      cases hh : Dk.named n with
      | true => simp; omega
      | false => rw [hh] at this; simp at this
    rw [Dk.raw_do hok HD.out (l := Dk.put d.files ⟨nm, sf, fb ++ t⟩) (by
      have hF2 := HF.out
      simp only [Dk.planOf, Dk.planAppend, HX.out]
      rw [if_neg (by omega)]), Dk.write_go HT.out] at h1
    exact h1
  have KEY := keep (append_key (t := t) (L := w2.heap.size) (F := F) (mo := (t.length : Int)) (fs := Dk.put d.files ⟨nm, sf, fb ++ t⟩) (n := n) hm3 hk4.out HM.out.box.lt HM.out.lt hn hb3.out.size
    (fun g hg => ⟨(HM.out.foot.arrs _ HIN.out g hg).1, (HM.out.foot.arrs _ HIN.out g hg).2, fun y hy hne e => HM.out.foot.apart _ HIN.out y hy (fun e => hne e.symm) g hg e⟩) k0 k1
    (by rw [hfl, show nm = n from hnm]) hgood (by rw [hcp, hfl]; exact HF.out) (by
      have h1 := Dk.used_put_old (f := ⟨nm, sf, fb ++ t⟩) HM.out.good.rising (by rw [show (⟨nm, sf, fb ++ t⟩ : File).name = n from hnm]; exact HX.out)
      have h2 := HF.out
      simp only [Dk.cost, List.length_append] at h1
      rw [hcp]
      omega))
  have hwr : IntKind.i64.wrap (F - (t.length : Int)) = F - (t.length : Int) := wrap_small _ (by omega) (by omega)
  obtain ⟨i0, hi, hz0, hz1, hz2⟩ := info_parts info5
  clear hm3 hk3 c02 c12 hfl hcp hgood hnm
  go_wp2_with fail
  go_region_law (refine step_append_at rfl _ _ 25 rfl i0 _ Tryz.underlying25 hi hz0 hz1 hz2 rfl _ fb.length fb rfl hO3.out _ t.length c2 t rfl hS3.out (by omega) ?_; intro v4 w4 q1 q2 q3; obtain ⟨ao4, c4, rfl, c04, k04, k14, w5, hrun5, c15, f5, fin⟩ := KEY.out v4 w4 q1 q2 q3; clear q1 q2 q3)
  all_goals go_wp2
  all_goals (first | go_ret | (go_outline; trace_state))
  all_goals (first | exact fin.out | exact fin.out.drew)
end Go.Proofs.YthnebhddakfadaaGreatDoor
namespace Go.Proofs.YthnebhddakfadaaGreatDoor
open Go.RowKit
open Dk (File Disk)

set_option maxHeartbeats 1000000 in
set_option maxRecDepth 100000 in
theorem append_go_new (S : Nat → Prop) (b : Nat) (d : Disk) (n t : List UInt8) (ao2 : Option Addr) (c2 : Nat) (w : World) (m : Nat) (l : List Named) (left : Int) (h : MemAt S w b m l left d) (hn : n.length ≤ maxLen) (htl : (t.length : Int) ≤ 4096) (hsrc : Steady (Go.Proofs.YthnebhddakfadaaGreatDoor.mine S b) w fun w => Src w ao2 t.length c2 t) (hz : ahead d.dark [n] = 0) (hd : d.dark = false) (ho0 : d.done ≤ 4611686018427387904) (hx : Dk.look d.files n = none) (hroom : ¬ ((d.cap : Int) - (Dk.used d.files : Int)) < (16 + (n.length : Int) + (t.length : Int))) (ht : (Dk.tick d).1 = true) :
    Calls Tryz.prog 29 #[.pointer (some ⟨b, 0, none⟩), .string ⟨n.toArray⟩, .slice ao2 t.length c2] w fun e w' => RawPostM S w b m (0, { (Dk.tick d).2 with files := Dk.put d.files ⟨n, 0, t⟩ }) e w' := by
  have HM := keep h
  clear h
  have HZ := keep hz
  have HX := keep hx
  have HD := keep hd
  have HS := keep hsrc
  have hnl : n.length ≤ 100 := by
    have := HZ.out
    unfold ahead at this
    simp only [List.all_cons, List.all_nil, Bool.and_true] at this
    cases hh : Dk.named n with
    | true => exact (named_true hh).2.1
    | false => rw [hh] at this; simp at this
  clear hz hx hd hsrc
  have HT := keep ht
  clear ht
  obtain ⟨F, hF, F0, F1⟩ : ∃ F : Int, (d.cap : Int) - (Dk.used d.files : Int) = F ∧ 0 ≤ F ∧ F ≤ 1099511627776 := ⟨_, rfl, by have := HM.out.good.room; omega, by have := HM.out.capb; omega⟩
  rw [hF] at hroom
  have HF := keep hF
  clear hF
  go_enter Tryz.func29, Tryz.ntmps29
  go_wp2_with fail
  have hm1 := HM.out.below ((Below.refl _ w).alloc (Nat.le_refl _) (.cells #[.string ⟨n.toArray⟩] 9))
  refine (ready_box b m _ left d.dark _ _ 1 1 [n] _ hm1.box (one_name w n 9) (by omega)).mono ?_
  rintro e w2 ⟨rfl, hb2⟩
  have hb3 := keep (((Below.refl _ w).alloc (Nat.le_refl _) (.cells #[.string ⟨n.toArray⟩] 9)).trans (hb2.mono (by simp)))
  clear hb2 hm1
  rw [HZ.out]
  have hm2 := HM.out.below hb3.out
  have c02 := hm2.box.c0
  have c12 : ∀ o : Obj, (w2.alloc o).cell? ⟨b, 1, none⟩ = some (.int .i64 F) := fun o => by
    have := (hm2.below ((Below.refl _ _).alloc (Nat.le_refl _) o)).box.c1
    rw [HF.out] at this
    exact this
  have HL := keep (look_absent hm2.map hm2.rel hn HX.out)
  have HM2 := keep hm2
  clear hm2
  go_wp2_with (first | (at_lookup; refine wpList_look rfl _ _ _ _ rfl _ _ _ rfl rfl HL.out ?_) | fail)
  refine (cost_any n ao2 t.length c2 _ (by omega) (by omega)).mono ?_
  rintro e w9 ⟨rfl, rfl⟩
  go_wp2_with fail
  refine (count_mem S b m l left d _ (HM2.out.below ((Below.refl _ _).alloc (Nat.le_refl _) _)) HD.out ho0).mono ?_
  rintro e w3 ⟨left', rfl, hm3, hk3⟩
  rw [HT.out]
  have hk4 := keep (((Kept.of_below (U := Go.Proofs.YthnebhddakfadaaGreatDoor.mine S b) hb3.out).alloc (.cells #[.int .i64 0, .slice none 0 0] 95)).trans (hk3.wide (fun g _ e => .inr e)))
  have hm4 := keep hm3
  have hw2 : b < w2.heap.size := Nat.lt_of_lt_of_le HM.out.box.lt hb3.out.size
  have k0 : w3.cell? ⟨w2.heap.size, 0, none⟩ = some (.int .i64 0) := local_cell hk3 hw2 (cell_of_row _ _ _ _ _ _ (heap_alloc_new w2 _))
  have k1 : w3.cell? ⟨w2.heap.size, 1, none⟩ = some (.slice none 0 0) := local_cell hk3 hw2 (cell_of_row _ _ _ _ _ _ (heap_alloc_new w2 _))
  have c03 := hm3.box.c0
  have hfl : (Dk.tick d).2.files = d.files := (Dk.tick_files d).1
  have hcp : (Dk.tick d).2.cap = d.cap := (Dk.tick_files d).2
  have hO3 : Hid (w3.drew.ownsRow 0 5 1 (.slice none 0 0) 0 (bv [])) := World.ownsRow_nil _ _ _ _
  have hS3 : Hid (Src w3.drew ao2 t.length c2 t) := HS.out _ hk4.out.drew
  have hgood : Dk.Good { (Dk.tick d).2 with files := Dk.put d.files ⟨n, 0, t⟩ } := by
    have h1 := Dk.raw_good 0 n [] t HM.out.good
    have hok : Dk.okay 0 n [] t = true := by
      have := HZ.out
      unfold ahead at this
      simp only [List.all_cons, List.all_nil, Bool.and_true] at this
      show (Dk.named n && decide (t.length ≤ 4096)) = true
      cases hh : Dk.named n with
      | true => simp; omega
      | false => rw [hh] at this; simp at this
    rw [Dk.raw_do hok HD.out (l := Dk.put d.files ⟨n, 0, t⟩) (by
      have hF2 := HF.out
      simp only [Dk.planOf, Dk.planAppend, HX.out]
      rw [if_neg (by omega)]), Dk.write_go HT.out] at h1
    exact h1
  have KEY0 := append_key (t := t) (fb := []) (sf := 0) (ao := none) (c := 0) (L := w2.heap.size) (F := F) (mo := 16 + (n.length : Int) + (t.length : Int)) (fs := Dk.put d.files ⟨n, 0, t⟩) (n := n) hm3 hk4.out HM.out.box.lt HM.out.lt hn hb3.out.size
    (fun g hg => by cases hg) k0 k1
    (by rw [hfl]; rfl) hgood (by rw [hcp, hfl]; exact HF.out) (by
      have h1 := Dk.used_put_new (f := ⟨n, 0, t⟩) HX.out
      have h2 := HF.out
      simp only [Dk.cost] at h1
      rw [hcp]
      omega)
  simp only [List.length_nil, Nat.zero_add, List.nil_append, Int.natCast_zero] at KEY0
  have KEY := keep KEY0
  clear KEY0
  have hwr : IntKind.i64.wrap (F - (16 + (n.length : Int) + (t.length : Int))) = F - (16 + (n.length : Int) + (t.length : Int)) := wrap_small _ (by omega) (by omega)
  obtain ⟨i0, hi, hz0, hz1, hz2⟩ := info_parts info5
  clear hm3 hk3 c02 c12 hfl hcp hgood
  go_wp2_with fail
  go_region_law (refine step_append_at rfl _ _ 25 rfl i0 _ Tryz.underlying25 hi hz0 hz1 hz2 rfl _ 0 [] rfl hO3.out _ t.length c2 t rfl hS3.out (by omega) ?_; intro v4 w4 q1 q2 q3; simp only [Nat.zero_add, List.nil_append] at q1; obtain ⟨ao4, c4, rfl, c04, k04, k14, w5, hrun5, c15, f5, fin⟩ := KEY.out v4 w4 q1 q2 q3; clear q1 q2 q3)
  all_goals go_wp2
  all_goals (first | go_ret | (go_outline; trace_state))
  all_goals (first | exact fin.out | exact fin.out.drew)
theorem append_rawM (S : Nat → Prop) (b : Nat) (d : Disk) (n t : List UInt8) (ao2 : Option Addr) (c2 : Nat) (w : World) (m : Nat) (l : List Named) (left : Int) (h : MemAt S w b m l left d) (hn : n.length ≤ maxLen) (hsrc : Steady (Go.Proofs.YthnebhddakfadaaGreatDoor.mine S b) w fun w => Src w ao2 t.length c2 t) (ho : d.done ≤ 4611686018427387904) (x : List UInt8) :
    Calls Tryz.prog 29 #[.pointer (some ⟨b, 0, none⟩), .string ⟨n.toArray⟩, .slice ao2 t.length c2] w fun e w' => RawPostM S w b m (Dk.raw d 0 n x t) e w' := by
  have stay := fun w' (hb : Below w.heap.size w w') => h.stayM hb
  have hM : Mem S w b d := ⟨m, l, left, h⟩
  rcases Nat.lt_or_ge 4096 t.length with hl | hl
  · rw [Dk.raw_arg (by show (Dk.named n && decide (t.length ≤ 4096)) = false; rw [decide_eq_false (by omega), Bool.and_false])]
    refine (append_long b n t ao2 c2 w (by omega)).mono ?_
    rintro e w' ⟨rfl, hb⟩
    exact ⟨rfl, stay w' hb⟩
  have htl : (t.length : Int) ≤ 4096 := by omega
  have hdt : decide (t.length ≤ 4096) = true := decide_eq_true hl
  cases hna : Dk.named n with
  | false =>
    rw [Dk.raw_arg (by show (Dk.named n && decide (t.length ≤ 4096)) = false; rw [hna]; rfl)]
    refine (append_ahead S b d n t ao2 c2 w hM htl 1 (ahead_arg hna) rfl).mono ?_
    rintro e w' ⟨rfl, hb⟩
    exact ⟨rfl, stay w' hb⟩
  | true =>
    have hok : Dk.okay 0 n x t = true := by show (Dk.named n && decide (t.length ≤ 4096)) = true; rw [hna, hdt]; rfl
    cases hd : d.dark with
    | true =>
      rw [Dk.raw_dark hok hd]
      refine (append_ahead S b d n t ao2 c2 w hM htl 5 (by rw [hd]; exact ahead_dark hna) rfl).mono ?_
      rintro e w' ⟨rfl, hb⟩
      exact ⟨rfl, stay w' hb⟩
    | false =>
      have hz : ahead d.dark [n] = 0 := by rw [hd]; exact ahead_ok hna
      cases hx : Dk.look d.files n with
      | none =>
        by_cases hf : ((d.cap : Int) - (Dk.used d.files : Int)) < (16 + (n.length : Int) + (t.length : Int))
        · rw [Dk.raw_own (e := 4) hok hd (by simp only [Dk.planOf, Dk.planAppend, hx]; rw [if_pos (by omega)])]
          refine (append_full_new S b d n t ao2 c2 w hM hn htl hsrc hz hd hx hf).mono ?_
          rintro e w' ⟨rfl, hb⟩
          exact ⟨rfl, stay w' hb⟩
        · rw [Dk.raw_do (l := Dk.put d.files ⟨n, 0, t⟩) hok hd (by simp only [Dk.planOf, Dk.planAppend, hx]; rw [if_neg (by omega)])]
          cases ht : (Dk.tick d).1 with
          | false => rw [Dk.write_cut ht]; exact append_cut_new S b d n t ao2 c2 w m l left h hn htl hsrc hz hd ho hx hf ht
          | true => rw [Dk.write_go ht]; exact append_go_new S b d n t ao2 c2 w m l left h hn htl hsrc hz hd ho hx hf ht
      | some f =>
        obtain ⟨nm, sf, fb⟩ := f
        by_cases hf : ((d.cap : Int) - (Dk.used d.files : Int)) < (t.length : Int)
        · rw [Dk.raw_own (e := 4) hok hd (by simp only [Dk.planOf, Dk.planAppend, hx]; rw [if_pos (by omega)])]
          refine (append_full_there S b d n nm t sf fb ao2 c2 w hM hn htl hsrc hz hd hx hf).mono ?_
          rintro e w' ⟨rfl, hb⟩
          exact ⟨rfl, stay w' hb⟩
        · rw [Dk.raw_do (l := Dk.put d.files ⟨nm, sf, fb ++ t⟩) hok hd (by simp only [Dk.planOf, Dk.planAppend, hx]; rw [if_neg (by omega)])]
          cases ht : (Dk.tick d).1 with
          | false => rw [Dk.write_cut ht]; exact append_cut_there S b d n nm t sf fb ao2 c2 w m l left h hn htl hsrc hz hd ho hx hf ht
          | true => rw [Dk.write_go ht]; exact append_go_there S b d n nm t sf fb ao2 c2 w m l left h hn htl hsrc hz hd ho hx hf ht

end Go.Proofs.YthnebhddakfadaaGreatDoor
namespace Go.Proofs.YthnebhddakfadaaGreatDoor
open Go.RowKit
open Dk (File Disk)

theorem below_drewN (B : Nat) (w : World) (n : Nat) : Below B w (w.drewN n) := ⟨rfl, rfl, rfl, Nat.le_refl _, fun _ _ => rfl⟩
theorem below_cell {w w' : World} (h : Below w.heap.size w w') {p : Addr} {v : Value} (hc : w.cell? p = some v) : w'.cell? p = some v := by rw [h.cell (World.block_lt_of_cell? w _ hc)]; exact hc
set_option maxHeartbeats 1000000 in
set_option maxRecDepth 100000 in
theorem rename_ahead (S : Nat → Prop) (b : Nat) (d : Disk) (n n2 : List UInt8) (w : World) (h : Mem S w b d) (z : Int) (hz : ahead d.dark [n, n2] = z) (h0 : (z == 0) = false) :
    Calls Tryz.prog 57 #[.pointer (some ⟨b, 0, none⟩), .string ⟨n.toArray⟩, .string ⟨n2.toArray⟩] w fun e w' => e = .returned (.int .i64 z) ∧ Below w.heap.size w w' := by
  obtain ⟨m, l, left, h⟩ := h
  have HM := keep h
  clear h
  have HZ := keep hz
  clear hz
  go_enter Tryz.func57, Tryz.ntmps57
  go_wp2_with fail
  have hm1 := HM.out.below ((Below.refl _ w).alloc (Nat.le_refl _) (.cells #[.string ⟨n.toArray⟩, .string ⟨n2.toArray⟩] 9))
  refine (ready_box b m _ left d.dark _ _ 2 2 [n, n2] _ hm1.box (two_names w n n2 9) (by omega)).mono ?_
  rintro e w2 ⟨rfl, hb2⟩
  have hb3 := keep (((Below.refl _ w).alloc (Nat.le_refl _) (.cells #[.string ⟨n.toArray⟩, .string ⟨n2.toArray⟩] 9)).trans (hb2.mono (by simp)))
  clear hb2 hm1
  rw [HZ.out]
  go_wp2
  go_ret
  exact ⟨rfl, hb3.out⟩
set_option maxHeartbeats 1000000 in
set_option maxRecDepth 100000 in
theorem rename_none (S : Nat → Prop) (b : Nat) (d : Disk) (n n2 : List UInt8) (w : World) (h : Mem S w b d) (hn : n.length ≤ maxLen) (hz : ahead d.dark [n, n2] = 0) (hx : Dk.look d.files n = none) :
    Calls Tryz.prog 57 #[.pointer (some ⟨b, 0, none⟩), .string ⟨n.toArray⟩, .string ⟨n2.toArray⟩] w fun e w' => e = .returned (.int .i64 3) ∧ Below w.heap.size w w' := by
  obtain ⟨m, l, left, h⟩ := h
  have HM := keep h
  clear h
  have HZ := keep hz
  have HX := keep hx
  clear hz hx
  go_enter Tryz.func57, Tryz.ntmps57
  go_wp2_with fail
  have hm1 := HM.out.below ((Below.refl _ w).alloc (Nat.le_refl _) (.cells #[.string ⟨n.toArray⟩, .string ⟨n2.toArray⟩] 9))
  refine (ready_box b m _ left d.dark _ _ 2 2 [n, n2] _ hm1.box (two_names w n n2 9) (by omega)).mono ?_
  rintro e w2 ⟨rfl, hb2⟩
  have hb3 := keep (((Below.refl _ w).alloc (Nat.le_refl _) (.cells #[.string ⟨n.toArray⟩, .string ⟨n2.toArray⟩] 9)).trans (hb2.mono (by simp)))
  clear hb2 hm1
  rw [HZ.out]
  have hm2 := HM.out.below hb3.out
  have c02 := hm2.box.c0
  have HL := keep (look_absent hm2.map hm2.rel hn HX.out)
  clear hm2
  go_wp2_with (at_lookup; refine wpList_look rfl _ _ _ _ rfl _ _ _ rfl rfl HL.out ?_)
  go_ret
  exact ⟨rfl, by first | exact hb3.out | exact hb3.out.alloc hb3.out.size _⟩
end Go.Proofs.YthnebhddakfadaaGreatDoor
namespace Go.Proofs.YthnebhddakfadaaGreatDoor
open Go.RowKit
open Dk (File Disk)

/-- A disk of which all but the blocks of U was made since w; nothing of w but these blocks has turned. -/
structure Own (U : Nat → Prop) (w : World) (S : Nat → Prop) (W : World) (b : Nat) (d : Disk) : Prop where
  mem : Mem S W b d
  news : ∀ g, S g → U g ∨ w.heap.size ≤ g
  at_ : U b ∨ w.heap.size ≤ b
  bel : Kept U w W
theorem Own.next {U : Nat → Prop} {w : World} {S : Nat → Prop} {W W' : World} {b : Nat} {d : Disk} (h : Own U w S W b d) (hb : Below W.heap.size W W') : Own U w S W' b d := ⟨h.mem.below hb, h.news, h.at_, h.bel.trans (Kept.of_below hb)⟩
theorem Own.mines {U : Nat → Prop} {w : World} {S : Nat → Prop} {W : World} {b : Nat} {d : Disk} (h : Own U w S W b d) : ∀ g, Go.Proofs.YthnebhddakfadaaGreatDoor.mine S b g → (U g ∨ w.heap.size ≤ g) ∧ g < W.heap.size := fun g hg => by
  rcases hg with hg | hg
  · exact ⟨h.news g hg, h.mem.lt.1 g hg⟩
  · rw [hg]; exact ⟨h.at_, h.mem.lt.2.1⟩
theorem Own.raw {U : Nat → Prop} {w : World} {S : Nat → Prop} {W W' : World} {b : Nat} {d : Disk} {r : Nat × Disk} {e : Ending} (h : Own U w S W b d) (hr : RawPost S W b r e W') : e = .returned (.int .i64 (r.1 : Int)) ∧ Own U w (more S W W') W' b r.2 :=
  ⟨hr.1, hr.2.1, fun g hg => by
    rcases hg with hg | hg
    · exact h.news g hg
    · exact .inr (Nat.le_trans h.bel.size hg.1), h.at_, h.bel.trans' hr.2.2 (fun g hl hg => by
      rcases (h.mines g hg).1 with h1 | h1
      · exact h1
      · omega)⟩
theorem Own.start {S : Nat → Prop} {W : World} {b : Nat} {d : Disk} (h : Mem S W b d) : Own (Go.Proofs.YthnebhddakfadaaGreatDoor.mine S b) W S W b d := ⟨h, fun _ hg => .inl (.inl hg), .inl (.inr rfl), Kept.refl _ _⟩
/-- A call on a disk that was made since w. -/
theorem Own.then {U : Nat → Prop} {w : World} {S S' : Nat → Prop} {W W' : World} {b : Nat} {d d' : Disk} (h : Own U w S W b d) (h' : Own (Go.Proofs.YthnebhddakfadaaGreatDoor.mine S b) W S' W' b d') : Own U w S' W' b d' :=
  ⟨h'.mem, fun g hg => by
    rcases h'.news g hg with h1 | h1
    · exact (h.mines g h1).1
    · exact .inr (Nat.le_trans h.bel.size h1), h.at_, h.bel.trans' h'.bel (fun g hl hg => by
      rcases (h.mines g hg).1 with h1 | h1
      · exact h1
      · omega)⟩
theorem Own.below {w : World} {S : Nat → Prop} {W : World} {b : Nat} {d : Disk} (h : Own (fun _ => False) w S W b d) : Below w.heap.size w W := h.bel.below (Nat.le_refl _) (fun _ e => e.elim)
theorem Src.block {w : World} {g n : Nat} {l : List UInt8} {fr : Nat × Nat} (h : w.heap[g]? = some (.cells (bv l).toArray 5 fr)) (hl : l.length = n) : Src w (some ⟨g, 0, none⟩) n n l :=
  ⟨hl, Nat.le_refl _, (fun e => by cases e), fun ad had j u hu => by
    cases had
    rw [Addr.add_mid, Nat.zero_add, cell_of_row _ _ _ _ _ _ h]
    simpa using hu⟩
theorem free_mem (S : Nat → Prop) (b : Nat) (d : Disk) (w : World) (h : Mem S w b d) : Calls Tryz.prog 51 #[.pointer (some ⟨b, 0, none⟩)] w fun e w' => e = .returned (.int .i64 ((d.cap : Int) - (Dk.used d.files : Int))) ∧ Below w.heap.size w w' := by
  obtain ⟨m, l, left, h⟩ := h
  exact free_box b m _ left _ _ w h.box
theorem ops_mem (S : Nat → Prop) (b : Nat) (d : Disk) (w : World) (h : Mem S w b d) : Calls Tryz.prog 12 #[.pointer (some ⟨b, 0, none⟩)] w fun e w' => e = .returned (.int .i64 (d.done : Int)) ∧ Below w.heap.size w w' := by
  obtain ⟨m, l, left, h⟩ := h
  exact ops_box b m _ left _ _ w h.box
theorem off_mem (S : Nat → Prop) (b : Nat) (d : Disk) (w : World) (h : Mem S w b d) : Calls Tryz.prog 50 #[.pointer (some ⟨b, 0, none⟩)] w fun e w' => e = .returned (.bool d.dark) ∧ Below w.heap.size w w' := by
  obtain ⟨m, l, left, h⟩ := h
  exact off_box b m _ left _ _ w h.box

end Go.Proofs.YthnebhddakfadaaGreatDoor
