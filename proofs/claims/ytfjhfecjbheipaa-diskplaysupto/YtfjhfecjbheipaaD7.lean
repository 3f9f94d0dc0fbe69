/- The walk of disk's Append. -/
import Derived.Test.YtfjhfecjbheipaaD6
import Derived.Deep.RegionLaw
namespace Go.Proofs.Ytfjhfecjbheipaa
open Go.RowKit
open Dk (File Disk)

/-- append(v, x...) as a step of a region that draws, v nil or the call's own, x bytes that are read. -/
theorem step_append_src {P : Program} {ops : Array Oper} {o : Oper} {a : Act} {w : World} {K : Act → World → Prop} {Q : Exit → Act → World → Prop} {E : Prop} (hg : o.guard = none) (s x : Operand) (t : TypeId)
    (ho : o.op = .call { callee := .builtin .append, args := #[s, x], argTypes := #[t, t] })
    (base : Nat) (i : TypeInfo) (z : Value) (ht : P.underlying t = some (.slice 5)) (hi : P.info? 5 = some i) (hz : i.zero = some z)
    (hsize : i.size = 1) (hby : i.bytes = 1) (hzs : z.cells.size = 1)
    (v : Value) (n : Nat) (k : List UInt8) (hs : a.eval s = v) (hown : w.ownsRow base 5 1 v n (bv k))
    (ao : Option Addr) (m c : Nat) (l : List UInt8) (hx : a.eval x = .slice ao m c) (hsrc : Src w ao m c l)
    (hbytes : n + m ≤ 140737488355328) (hbase : base ≤ w.heap.size)
    (h : ∀ v' w', w'.ownsRow base 5 1 v' (n + m) (bv (k ++ l)) → w.grownBy w' v.ownBlock → K (a.put o.dst v') w') : if Region.wanted o (yielded ops a.tmps) = true then Oper.wp P o a w K Q else E := by
  have hw : Region.wanted o (yielded ops a.tmps) = true := by simp [Region.wanted, hg]
  rw [if_pos hw]
  cases ao with
  | none =>
    obtain ⟨rfl, rfl⟩ := hsrc.nil rfl
    have hl : l = [] := List.length_eq_zero_iff.1 hsrc.len
    subst hl
    have hrun := run_append_owned_none (P := P) (w := w) base t o.type 5 i 1 ht hi v n (bv k) hown
    unfold Oper.wp
    simp [execOp, ho, resolve, invoke, builtin, hs, hx, hrun, Result.andThen]
    exact h v w (by simpa using hown) (World.grownBy.refl _ _)
  | some ad =>
    obtain ⟨v', w', hrun, h1, h2, _⟩ := run_append_own (P := P) w base t o.type 5 i z 1 1 ht hi hz hsize hby hzs (by omega) v n (bv k) hown ad m c (bv l) (by rw [bv_length, hsrc.len]; omega) (hsrc.cells ad rfl) (bv_one l) (by unfold maxLen; omega) (by omega) hbase
    unfold Oper.wp
    simp [execOp, ho, resolve, invoke, builtin, hs, hx, hrun, Result.andThen]
    exact h v' w' (by rw [bv_append]; exact h1) h2

set_option maxHeartbeats 1000000 in
set_option maxRecDepth 100000 in
theorem append_long (b : Nat) (n t : List UInt8) (ao2 : Option Addr) (c2 : Nat) (w : World) (ht : 4096 < (t.length : Int)) :
    Calls Try.prog 19 #[.pointer (some ⟨b, 0, none⟩), .string ⟨n.toArray⟩, .slice ao2 t.length c2] w fun e w' => e = .returned (.int .i64 1) ∧ Below w.heap.size w w' := by
  go_enter Try.func19, Try.ntmps19
  go_wp2
  go_ret
  exact ⟨rfl, Below.refl _ _⟩
set_option maxHeartbeats 1000000 in
set_option maxRecDepth 100000 in
theorem append_ahead (S : Nat → Prop) (b : Nat) (d : Disk) (n t : List UInt8) (ao2 : Option Addr) (c2 : Nat) (w : World) (h : Mem S w b d) (htl : (t.length : Int) ≤ 4096) (z : Int) (hz : ahead d.dark [n] = z) (h0 : (z == 0) = false) :
    Calls Try.prog 19 #[.pointer (some ⟨b, 0, none⟩), .string ⟨n.toArray⟩, .slice ao2 t.length c2] w fun e w' => e = .returned (.int .i64 z) ∧ Below w.heap.size w w' := by
  obtain ⟨m, l, left, h⟩ := h
  have HM := keep h
  clear h
  have HZ := keep hz
  clear hz
  go_enter Try.func19, Try.ntmps19
  go_wp2_with fail
  have hm1 := HM.out.below ((Below.refl _ w).alloc (Nat.le_refl _) (.cells #[.string ⟨n.toArray⟩] 9))
  refine (ready_box b m _ left d.dark _ _ 1 1 [n] _ hm1.box (one_name w n 9) (by omega)).mono ?_
  rintro e w2 ⟨rfl, hb2⟩
  have hb3 := keep (((Below.refl _ w).alloc (Nat.le_refl _) (.cells #[.string ⟨n.toArray⟩] 9)).trans (hb2.mono (by simp)))
  clear hb2 hm1
  rw [HZ.out]
  go_wp2
  go_ret
  exact ⟨rfl, hb3.out⟩
set_option maxHeartbeats 1000000 in
set_option maxRecDepth 100000 in
theorem append_full_there (S : Nat → Prop) (b : Nat) (d : Disk) (n nm t : List UInt8) (sf : Nat) (fb : List UInt8) (ao2 : Option Addr) (c2 : Nat) (w : World) (h : Mem S w b d) (hn : n.length ≤ maxLen) (htl : (t.length : Int) ≤ 4096) (hsrc : Steady (Go.Proofs.Ytfjhfecjbheipaa.mine S b) w fun w => Src w ao2 t.length c2 t) (hz : ahead d.dark [n] = 0) (hd : d.dark = false) (hx : Dk.look d.files n = some ⟨nm, sf, fb⟩) (hfull : ((d.cap : Int) - (Dk.used d.files : Int)) < (t.length : Int)) :
    Calls Try.prog 19 #[.pointer (some ⟨b, 0, none⟩), .string ⟨n.toArray⟩, .slice ao2 t.length c2] w fun e w' => e = .returned (.int .i64 4) ∧ Below w.heap.size w w' := by
  obtain ⟨m, l, left, h⟩ := h
  have HM := keep h
  clear h
  have HZ := keep hz
  have HX := keep hx
  have HD := keep hd
  have HS := keep hsrc
  have hnl : n.length ≤ 100 := by
    have := HZ.out
    unfold ahead at this
    simp only [List.all_cons, List.all_nil, Bool.and_true] at this
    cases hh : Dk.named n with
    | true => exact (named_true hh).2.1
    | false => rw [hh] at this; simp at this
  clear hz hx hd hsrc
  obtain ⟨F, hF, F0, F1⟩ : ∃ F : Int, (d.cap : Int) - (Dk.used d.files : Int) = F ∧ 0 ≤ F ∧ F ≤ 1099511627776 := ⟨_, rfl, by have := HM.out.good.room; omega, by have := HM.out.capb; omega⟩
  rw [hF] at hfull
  have HF := keep hF
  clear hF
  go_enter Try.func19, Try.ntmps19
  go_wp2_with fail
  have hm1 := HM.out.below ((Below.refl _ w).alloc (Nat.le_refl _) (.cells #[.string ⟨n.toArray⟩] 9))
  refine (ready_box b m _ left d.dark _ _ 1 1 [n] _ hm1.box (one_name w n 9) (by omega)).mono ?_
  rintro e w2 ⟨rfl, hb2⟩
  have hb3 := keep (((Below.refl _ w).alloc (Nat.le_refl _) (.cells #[.string ⟨n.toArray⟩] 9)).trans (hb2.mono (by simp)))
  clear hb2 hm1
  rw [HZ.out]
  have hm2 := HM.out.below hb3.out
  have c02 := hm2.box.c0
  have c12 : ∀ o : Obj, (w2.alloc o).cell? ⟨b, 1, none⟩ = some (.int .i64 F) := fun o => by
    have := (hm2.below ((Below.refl _ _).alloc (Nat.le_refl _) o)).box.c1
    rw [HF.out] at this
    exact this
  obtain ⟨ao, c, hl, ho, hs, hin⟩ := look_there hm2.map hm2.rel hn HX.out
  have HL := keep hl
  have HO := keep ho
  have HIN := keep hin
  have HM2 := keep hm2
  clear hl ho hs hin hm2
  go_wp2_with (first | (at_lookup; refine wpList_look rfl _ _ _ _ rfl _ _ _ rfl rfl HL.out ?_) | fail)
  go_wp2
  go_ret
  exact ⟨rfl, by first | exact hb3.out | exact hb3.out.alloc hb3.out.size _⟩
set_option maxHeartbeats 1000000 in
set_option maxRecDepth 100000 in
theorem append_full_new (S : Nat → Prop) (b : Nat) (d : Disk) (n t : List UInt8) (ao2 : Option Addr) (c2 : Nat) (w : World) (h : Mem S w b d) (hn : n.length ≤ maxLen) (htl : (t.length : Int) ≤ 4096) (hsrc : Steady (Go.Proofs.Ytfjhfecjbheipaa.mine S b) w fun w => Src w ao2 t.length c2 t) (hz : ahead d.dark [n] = 0) (hd : d.dark = false) (hx : Dk.look d.files n = none) (hfull : ((d.cap : Int) - (Dk.used d.files : Int)) < (16 + (n.length : Int) + (t.length : Int))) :
    Calls Try.prog 19 #[.pointer (some ⟨b, 0, none⟩), .string ⟨n.toArray⟩, .slice ao2 t.length c2] w fun e w' => e = .returned (.int .i64 4) ∧ Below w.heap.size w w' := by
  obtain ⟨m, l, left, h⟩ := h
  have HM := keep h
  clear h
  have HZ := keep hz
  have HX := keep hx
  have HD := keep hd
  have HS := keep hsrc
  have hnl : n.length ≤ 100 := by
    have := HZ.out
    unfold ahead at this
    simp only [List.all_cons, List.all_nil, Bool.and_true] at this
    cases hh : Dk.named n with
    | true => exact (named_true hh).2.1
    | false => rw [hh] at this; simp at this
  clear hz hx hd hsrc
  obtain ⟨F, hF, F0, F1⟩ : ∃ F : Int, (d.cap : Int) - (Dk.used d.files : Int) = F ∧ 0 ≤ F ∧ F ≤ 1099511627776 := ⟨_, rfl, by have := HM.out.good.room; omega, by have := HM.out.capb; omega⟩
  rw [hF] at hfull
  have HF := keep hF
  clear hF
  go_enter Try.func19, Try.ntmps19
  go_wp2_with fail
  have hm1 := HM.out.below ((Below.refl _ w).alloc (Nat.le_refl _) (.cells #[.string ⟨n.toArray⟩] 9))
  refine (ready_box b m _ left d.dark _ _ 1 1 [n] _ hm1.box (one_name w n 9) (by omega)).mono ?_
  rintro e w2 ⟨rfl, hb2⟩
  have hb3 := keep (((Below.refl _ w).alloc (Nat.le_refl _) (.cells #[.string ⟨n.toArray⟩] 9)).trans (hb2.mono (by simp)))
  clear hb2 hm1
  rw [HZ.out]
  have hm2 := HM.out.below hb3.out
  have c02 := hm2.box.c0
  have c12 : ∀ o : Obj, (w2.alloc o).cell? ⟨b, 1, none⟩ = some (.int .i64 F) := fun o => by
    have := (hm2.below ((Below.refl _ _).alloc (Nat.le_refl _) o)).box.c1
    rw [HF.out] at this
    exact this
  have HL := keep (look_absent hm2.map hm2.rel hn HX.out)
  have HM2 := keep hm2
  clear hm2
  go_wp2_with (first | (at_lookup; refine wpList_look rfl _ _ _ _ rfl _ _ _ rfl rfl HL.out ?_) | fail)
  refine (cost_any n ao2 t.length c2 _ (by omega) (by omega)).mono ?_
  rintro e w9 ⟨rfl, rfl⟩
  go_wp2_with fail
  go_wp2
  go_ret
  exact ⟨rfl, by first | exact hb3.out | exact hb3.out.alloc hb3.out.size _⟩
set_option maxHeartbeats 1000000 in
set_option maxRecDepth 100000 in
theorem append_cut_there (S : Nat → Prop) (b : Nat) (d : Disk) (n nm t : List UInt8) (sf : Nat) (fb : List UInt8) (ao2 : Option Addr) (c2 : Nat) (w : World) (h : Mem S w b d) (hn : n.length ≤ maxLen) (htl : (t.length : Int) ≤ 4096) (hsrc : Steady (Go.Proofs.Ytfjhfecjbheipaa.mine S b) w fun w => Src w ao2 t.length c2 t) (hz : ahead d.dark [n] = 0) (hd : d.dark = false) (ho0 : d.done ≤ 4611686018427387904) (hx : Dk.look d.files n = some ⟨nm, sf, fb⟩) (hroom : ¬ ((d.cap : Int) - (Dk.used d.files : Int)) < (t.length : Int)) (ht : (Dk.tick d).1 = false) :
    Calls Try.prog 19 #[.pointer (some ⟨b, 0, none⟩), .string ⟨n.toArray⟩, .slice ao2 t.length c2] w fun e w' => RawPost S w b (5, (Dk.tick d).2) e w' := by
  obtain ⟨m, l, left, h⟩ := h
  have HM := keep h
  clear h
  have HZ := keep hz
  have HX := keep hx
  have HD := keep hd
  have HS := keep hsrc
  have hnl : n.length ≤ 100 := by
    have := HZ.out
    unfold ahead at this
    simp only [List.all_cons, List.all_nil, Bool.and_true] at this
    cases hh : Dk.named n with
    | true => exact (named_true hh).2.1
    | false => rw [hh] at this; simp at this
  clear hz hx hd hsrc
  have HT := keep ht
  clear ht
  obtain ⟨F, hF, F0, F1⟩ : ∃ F : Int, (d.cap : Int) - (Dk.used d.files : Int) = F ∧ 0 ≤ F ∧ F ≤ 1099511627776 := ⟨_, rfl, by have := HM.out.good.room; omega, by have := HM.out.capb; omega⟩
  rw [hF] at hroom
  have HF := keep hF
  clear hF
  go_enter Try.func19, Try.ntmps19
  go_wp2_with fail
  have hm1 := HM.out.below ((Below.refl _ w).alloc (Nat.le_refl _) (.cells #[.string ⟨n.toArray⟩] 9))
  refine (ready_box b m _ left d.dark _ _ 1 1 [n] _ hm1.box (one_name w n 9) (by omega)).mono ?_
  rintro e w2 ⟨rfl, hb2⟩
  have hb3 := keep (((Below.refl _ w).alloc (Nat.le_refl _) (.cells #[.string ⟨n.toArray⟩] 9)).trans (hb2.mono (by simp)))
  clear hb2 hm1
  rw [HZ.out]
  have hm2 := HM.out.below hb3.out
  have c02 := hm2.box.c0
  have c12 : ∀ o : Obj, (w2.alloc o).cell? ⟨b, 1, none⟩ = some (.int .i64 F) := fun o => by
    have := (hm2.below ((Below.refl _ _).alloc (Nat.le_refl _) o)).box.c1
    rw [HF.out] at this
    exact this
  obtain ⟨ao, c, hl, ho, hs, hin⟩ := look_there hm2.map hm2.rel hn HX.out
  have HL := keep hl
  have HO := keep ho
  have HIN := keep hin
  have HM2 := keep hm2
  clear hl ho hs hin hm2
  go_wp2_with (first | (at_lookup; refine wpList_look rfl _ _ _ _ rfl _ _ _ rfl rfl HL.out ?_) | fail)
  refine (count_mem S b m l left d _ (HM2.out.below ((Below.refl _ _).alloc (Nat.le_refl _) _)) HD.out ho0).mono ?_
  rintro e w3 ⟨left', rfl, hm3, hk3⟩
  rw [HT.out]
  have hk4 := keep (((Kept.of_below (U := Go.Proofs.Ytfjhfecjbheipaa.mine S b) hb3.out).alloc (.cells #[.int .i64 (sf : Int), .slice ao fb.length c] 58)).trans (hk3.wide (fun g _ e => .inr e)))
  have hm4 := keep hm3
  clear hm3 hk3
  go_wp2
  go_ret
  exact ⟨rfl, MemAt.grow HM.out.box.lt HM.out.out hm4.out.lt hm4.out hk4.out (Kept.refl _ _)⟩
set_option maxHeartbeats 1000000 in
set_option maxRecDepth 100000 in
theorem append_cut_new (S : Nat → Prop) (b : Nat) (d : Disk) (n t : List UInt8) (ao2 : Option Addr) (c2 : Nat) (w : World) (h : Mem S w b d) (hn : n.length ≤ maxLen) (htl : (t.length : Int) ≤ 4096) (hsrc : Steady (Go.Proofs.Ytfjhfecjbheipaa.mine S b) w fun w => Src w ao2 t.length c2 t) (hz : ahead d.dark [n] = 0) (hd : d.dark = false) (ho0 : d.done ≤ 4611686018427387904) (hx : Dk.look d.files n = none) (hroom : ¬ ((d.cap : Int) - (Dk.used d.files : Int)) < (16 + (n.length : Int) + (t.length : Int))) (ht : (Dk.tick d).1 = false) :
    Calls Try.prog 19 #[.pointer (some ⟨b, 0, none⟩), .string ⟨n.toArray⟩, .slice ao2 t.length c2] w fun e w' => RawPost S w b (5, (Dk.tick d).2) e w' := by
  obtain ⟨m, l, left, h⟩ := h
  have HM := keep h
  clear h
  have HZ := keep hz
  have HX := keep hx
  have HD := keep hd
  have HS := keep hsrc
  have hnl : n.length ≤ 100 := by
    have := HZ.out
    unfold ahead at this
    simp only [List.all_cons, List.all_nil, Bool.and_true] at this
    cases hh : Dk.named n with
    | true => exact (named_true hh).2.1
    | false => rw [hh] at this; simp at this
  clear hz hx hd hsrc
  have HT := keep ht
  clear ht
  obtain ⟨F, hF, F0, F1⟩ : ∃ F : Int, (d.cap : Int) - (Dk.used d.files : Int) = F ∧ 0 ≤ F ∧ F ≤ 1099511627776 := ⟨_, rfl, by have := HM.out.good.room; omega, by have := HM.out.capb; omega⟩
  rw [hF] at hroom
  have HF := keep hF
  clear hF
  go_enter Try.func19, Try.ntmps19
  go_wp2_with fail
  have hm1 := HM.out.below ((Below.refl _ w).alloc (Nat.le_refl _) (.cells #[.string ⟨n.toArray⟩] 9))
  refine (ready_box b m _ left d.dark _ _ 1 1 [n] _ hm1.box (one_name w n 9) (by omega)).mono ?_
  rintro e w2 ⟨rfl, hb2⟩
  have hb3 := keep (((Below.refl _ w).alloc (Nat.le_refl _) (.cells #[.string ⟨n.toArray⟩] 9)).trans (hb2.mono (by simp)))
  clear hb2 hm1
  rw [HZ.out]
  have hm2 := HM.out.below hb3.out
  have c02 := hm2.box.c0
  have c12 : ∀ o : Obj, (w2.alloc o).cell? ⟨b, 1, none⟩ = some (.int .i64 F) := fun o => by
    have := (hm2.below ((Below.refl _ _).alloc (Nat.le_refl _) o)).box.c1
    rw [HF.out] at this
    exact this
  have HL := keep (look_absent hm2.map hm2.rel hn HX.out)
  have HM2 := keep hm2
  clear hm2
  go_wp2_with (first | (at_lookup; refine wpList_look rfl _ _ _ _ rfl _ _ _ rfl rfl HL.out ?_) | fail)
  refine (cost_any n ao2 t.length c2 _ (by omega) (by omega)).mono ?_
  rintro e w9 ⟨rfl, rfl⟩
  go_wp2_with fail
  refine (count_mem S b m l left d _ (HM2.out.below ((Below.refl _ _).alloc (Nat.le_refl _) _)) HD.out ho0).mono ?_
  rintro e w3 ⟨left', rfl, hm3, hk3⟩
  rw [HT.out]
  have hk4 := keep (((Kept.of_below (U := Go.Proofs.Ytfjhfecjbheipaa.mine S b) hb3.out).alloc (.cells #[.int .i64 0, .slice none 0 0] 58)).trans (hk3.wide (fun g _ e => .inr e)))
  have hm4 := keep hm3
  clear hm3 hk3
  go_wp2
  go_ret
  exact ⟨rfl, MemAt.grow HM.out.box.lt HM.out.out hm4.out.lt hm4.out hk4.out (Kept.refl _ _)⟩
end Go.Proofs.Ytfjhfecjbheipaa
