/- The walk of disk's Names, by the library's contracts on the sort and on a map's keys. -/
/- The walk of bytes.Clone. -/
/- The walks of disk's Has and Read. -/
/- What a raw write of the program's does to its memory, apart from its own walk; the walk of disk's count on a disk. -/
/- The walk of disk's New. -/
/- Disk's Names: the files' names, rising; the walk of New. -/
import Derived.Test.YthnebhddakfadaaGreatDoorPl
import Derived.Test.YthnebhddakfadaaGreatDoorJoinD2
import Derived.Test.YthnebhddakfadaaGreatDoorJoinMe
import Derived.Lib.LazyBuf
import Derived.Sort.KeysCollected
namespace Go.Proofs.YthnebhddakfadaaGreatDoor
open Go.RowKit Go.Maps Go.Sort Go.Shelf

theorem sorts_here (m : Nat) : AnyZ.SortsIn Tryz.prog lay_sorted_ren Fence.wide m :=
  ⟨fun blk off cap ss W hH hblk hsz => callsIn_wide.2 (AnyM.slices_Sort_string lay_sort blk off cap ss W hH hblk hsz),
   fun p cap W => callsIn_wide.2 (AnyM.slices_Sort_string_none lay_sort p cap W)⟩
theorem keys_here (mb : Option Nat) (W : World) : CallsIn Fence.wide 5 Tryz.prog 68 #[.map mb] W fun e w' => e = .returned (.func (.func 111) #[] #[.pointer (some ⟨W.heap.size, 0, none⟩)]) ∧ w' = W.alloc (.cells #[.map mb] 85) :=
  AnyZ.keys_in lay_keys Fence.wide 5 trivial rfl mb W
set_option maxHeartbeats 1000000 in
theorem sorted_here {H : Type} (b nn : Nat) (D0 : DataW H) (R : Value → Option (DataW H × List MemPlace)) (w : World) (hown : w.ownsMap Tryz.prog 9 R b nn D0) (hmax : Maps.size D0 ≤ maxLen) (hbytes : Maps.size D0 * 16 ≤ 140737488355328) :
    CallsIn Fence.wide 5 Tryz.prog 67 #[.func (.func 111) #[] #[.pointer (some ⟨w.heap.size, 0, none⟩)]] (w.alloc (.cells #[.map (some b)] 85)) fun e w' => ∃ (v : Value) (ss : List (List UInt8)), e = .returned v ∧ ss.Perm (strKeys D0) ∧
      w'.ownsRow (w.alloc (.cells #[.map (some b)] 85)).heap.size 9 1 v ss.length ((ss.mergeSort (fun x y => decide (x ≤ y))).map encStr) ∧ Below (w.alloc (.cells #[.map (some b)] 85)).heap.size (w.alloc (.cells #[.map (some b)] 85)) w' := by
  have hbl := hown.lt
  have hseq : SeqGives Fence.wide 2 Tryz.prog 111 #[.pointer (some ⟨w.heap.size, 0, none⟩)] encStr (fun ss => ss.Perm (strKeys D0)) (Maps.size D0) (w.alloc (.cells #[.map (some b)] 85)) :=
    AnyZ.keys_gives (ρ := lay_keys_ren) { lay_keys with } Fence.wide _ trivial rfl (by omega) w.heap.size b nn D0 _ (by simp) (by simp) (by
      obtain ⟨es, clock, hb, Ft, hs, hD⟩ := hown
      exact ⟨es, clock, (Below.heap_alloc _ _ b hbl).trans hb, Ft, hs, hD⟩)
  refine (AnyZ.sorted_in lay_sorted Fence.wide 5 trivial trivial trivial trivial rfl (by omega) (sorts_here _) (enters_of Tryz.func104 (by kernel_rfl) rfl) 111 #[.pointer (some ⟨w.heap.size, 0, none⟩)] trivial (enters_of Tryz.func111 (by kernel_rfl) rfl) _ _ hmax hbytes _ hseq).mono ?_
  rintro e w' ⟨v, ss, h1, h2, h3, _, h5⟩
  exact ⟨v, ss, h1, h2, h3, h5⟩

set_option maxHeartbeats 1000000 in
theorem names_raw (b m : Nat) (l : List Named) (w : World) (c0 : w.cell? ⟨b, 0, none⟩ = some (.map (some m))) (hown : MapIs Tryz.prog 9 w m l) (hl : l.length ≤ 1099511627776) :
    Calls Tryz.prog 28 #[.pointer (some ⟨b, 0, none⟩)] w fun e w' => ∃ (v : Value) (ss : List (List UInt8)), e = .returned v ∧ ss.Perm (strKeys (.map (told l))) ∧
      w'.ownsRow w.heap.size 9 1 v ss.length ((ss.mergeSort (fun x y => decide (x ≤ y))).map encStr) ∧ Below w.heap.size w w' := by
  have hm1 : Maps.size (DataW.map (told l)) ≤ maxLen := by rw [told_size]; unfold maxLen; omega
  have hm2 : Maps.size (DataW.map (told l)) * 16 ≤ 140737488355328 := by rw [told_size]; omega
  have HO := keep hown
  clear hown
  have hk := fun (mb : Option Nat) (W : World) => (callsIn_wide (n := 5)).1 (keys_here mb W)
  have HK := keep hk
  have HS := keep ((callsIn_wide (n := 5)).1 (sorted_here m l.length (.map (told l)) asIs w HO.out.2 hm1 hm2))
  clear hk hm1 hm2
  go_enter Tryz.func28, Tryz.ntmps28
  go_wp2_with fail
  refine (made_box b m _ c0).mono ?_
  rintro e w1 ⟨rfl, rfl⟩
  go_wp2_with fail
  refine (HK.out _ _).mono ?_
  rintro e w2 ⟨rfl, rfl⟩
  go_wp2_with fail
  refine HS.out.mono ?_
  rintro e w3 ⟨v, ss, rfl, hS, hrow, hb⟩
  have H1 := keep hS
  have H2 := keep hrow
  have H3 := keep hb
  clear hS hrow hb HS
  go_wp2
  go_ret
  exact ⟨v, ss, rfl, H1.out, ownsRow_base_a H2.out (by simp), ((Below.refl _ _).alloc (Nat.le_refl _) _).trans (H3.out.mono (by simp))⟩
end Go.Proofs.YthnebhddakfadaaGreatDoor
namespace Go.Proofs.YthnebhddakfadaaGreatDoor
open Go.RowKit

set_option maxHeartbeats 1000000 in
set_option maxRecDepth 100000 in
theorem clone_any (ao : Option Addr) (m c : Nat) (l : List UInt8) (w : World) (hm : m ≤ 140737488355328) (hs : Src w ao m c l) :
    Calls Tryz.prog 43 #[.slice ao m c] w fun e w' => ∃ v, e = .returned v ∧ New w w' v m l := by
  obtain ⟨i0, hi, hz0, hz1, hz2⟩ := info_parts info5
  have HS := keep hs
  clear hs
  cases ao with
  | none =>
    obtain ⟨rfl, rfl⟩ := HS.out.nil rfl
    have hl : l = [] := List.length_eq_zero_iff.1 HS.out.len
    subst hl
    have heq := fun w => Lib.run_eql_slice_nil (P := Tryz.prog) w 25 5 none 0 0 0 0 Tryz.underlying25
    go_enter Tryz.func43, Tryz.ntmps43
    go_wp2
    go_ret
    exact ⟨_, rfl, World.ownsRow_nil _ _ _ _, Below.refl _ _⟩
  | some ad =>
    have heq := fun w => Lib.run_eql_slice_nil (P := Tryz.prog) w 25 5 (some ad) m c 0 0 Tryz.underlying25
    go_enter Tryz.func43, Tryz.ntmps43
    go_wp2_with (at_builtin; refine wpList_append_src rfl _ _ 25 rfl w.heap.size i0 _ Tryz.underlying25 hi hz0 hz1 hz2 rfl _ 0 [] rfl (World.ownsRow_made w #[] 0 (Nat.le_refl _) (by unfold maxLen; omega) rfl) _ m c l rfl (HS.out.below ((Below.refl _ _).alloc (Nat.le_refl _) _)) (by omega) (by simp) ?_; intro v1 w1 ho1 hg1; simp only [Nat.zero_add, List.nil_append] at ho1; have ho2 := keep ho1; have hb1 := keep (((Below.refl w.heap.size w).alloc (Nat.le_refl _) _).grown hg1 (by simp) (fun j hj => by cases hj; exact Nat.le_refl _)); clear ho1 hg1)
    go_ret
    exact ⟨_, rfl, ho2.out, hb1.out⟩
end Go.Proofs.YthnebhddakfadaaGreatDoor
namespace Go.Proofs.YthnebhddakfadaaGreatDoor
open Go.RowKit
open Dk (File Disk)

def nofile : Value := filev 0 (.slice none 0 0)
theorem zero_file (w : World) : (zeroValue 95).run Tryz.prog w = .ok nofile w := by
  simp [zeroValue, nofile, filev]
  kernel_rfl
theorem map_look {w : World} {m : Nat} {l : List Named} (h : MapIs Tryz.prog 9 w m l) (n : List UInt8) (hn : n.length ≤ maxLen) :
    (Instr.lookup 85 (.map (some m)) (.string ⟨n.toArray⟩) true).run Tryz.prog w = .ok (.tuple #[(seek l n).getD nofile, .bool (seek l n).isSome]) w :=
  h.look_ok Tryz.underlying9 Tryz.underlying85 (zero_file w) n hn
section
variable {P : Program} {w : World} {ops : Array Oper} {rest : List Oper} {o : Oper} {a : Act} {Q : Exit → Act → World → Prop}
/-- A look-up whose run is known. -/
theorem wpList_look (hg : o.guard = none) (m x : Operand) (t : TypeId) (ok : Bool) (hop : o.op = Op.lookup t m x ok) (mv xv r : Value) (hm : a.eval m = mv) (hx : a.eval x = xv) (hrun : (Instr.lookup t mv xv ok).run P w = .ok r w)
    (hK : wpList P ops Q rest (a.put o.dst r) w) : wpList P ops Q (o :: rest) a w := by
  refine wpList_plain hg fun K' hK' => ?_
  unfold Oper.wp
  simp [execOp, hop, hm, hx, hrun, Result.andThen]
  exact hK' _ _ hK
theorem wpList_strike (hg : o.guard = none) (m x : Operand) (t k : TypeId) (hop : o.op = Op.call { callee := Callee.builtin Builtin.delete, args := #[m, x], argTypes := #[t, k] }) (e : TypeId) (hk : P.underlying k = some .string) (ht : P.underlying t = some (.map k e)) (b : Nat) (l : List Named) (n : List UInt8)
    (hm : a.eval m = .map (some b)) (hx : a.eval x = .string ⟨n.toArray⟩) (hmap : MapIs P k w b l) (hn : n.length ≤ maxLen)
    (hK : ∀ w', MapIs P k w' b (strike l n) → w.grownBy w' (some b) → wpList P ops Q rest (a.put o.dst (.tuple #[])) w') : wpList P ops Q (o :: rest) a w := by
  refine wpList_plain hg fun K' hK' => ?_
  obtain ⟨w', hrun, r1, r2⟩ := hmap.gone hk ht n hn o.type
  unfold Oper.wp
  simp [execOp, hop, resolve, invoke, builtin, hm, hx, hrun, Result.andThen]
  exact hK' _ _ (hK w' r1 r2.grown)
end

theorem own_slice {w : World} {B t k n : Nat} {v : Value} {xs : List Value} (h : w.ownsRow B t k v n xs) : ∃ ao c, v = .slice ao n c := by
  rcases h.2 with ⟨rfl, rfl⟩ | ⟨g, cap, cur, rfl, _⟩
  · exact ⟨none, 0, rfl⟩
  · exact ⟨_, _, rfl⟩
theorem seek_form {w : World} {l : List Named} {fs : List File} (h : Rel w Nobody l fs) (n : List UInt8) : ∃ (s : Int) (ao : Option Addr) (k c : Nat), (seek l n).getD nofile = .agg #[.int .i64 s, .slice ao k c] := by
  cases hx : Dk.look fs n with
  | none => rw [h.none hx]; exact ⟨0, none, 0, 0, rfl⟩
  | some f =>
    obtain ⟨v, h1, _, h3⟩ := h.some hx
    obtain ⟨sv, rfl, ho⟩ := h3 (fun e => e)
    obtain ⟨ao, c, rfl⟩ := own_slice ho
    rw [h1]
    exact ⟨_, ao, _, c, rfl⟩

set_option maxHeartbeats 1000000 in
set_option maxRecDepth 100000 in
theorem has_mem (S : Nat → Prop) (b : Nat) (d : Disk) (n : List UInt8) (w : World) (h : Mem S w b d) (hn : n.length ≤ maxLen) :
    Calls Tryz.prog 31 #[.pointer (some ⟨b, 0, none⟩), .string ⟨n.toArray⟩] w fun e w' => e = .returned (.bool (Dk.look d.files n).isSome) ∧ Below w.heap.size w w' := by
  obtain ⟨m, l, left, h⟩ := h
  have c0 := h.box.c0
  have hl := map_look h.map n hn
  have hsk : Hid ((seek l n).isSome = (Dk.look d.files n).isSome) := by
    show _ = _
    cases hx : Dk.look d.files n with
    | none => rw [h.rel.none hx]; rfl
    | some f => obtain ⟨v, h1, _⟩ := h.rel.some hx; rw [h1]; rfl
  have HM := keep h
  clear h
  obtain ⟨ob, hob⟩ : ∃ ob, (seek l n).isSome = ob := ⟨_, rfl⟩
  obtain ⟨s, ao, k, c, hov⟩ := seek_form HM.out.rel n
  rw [hob, hov] at hl
  rw [hob] at hsk
  have HL := keep hl
  clear hob hov hl
  go_enter Tryz.func31, Tryz.ntmps31
  go_wp2_with fail
  refine (made_box b m _ c0).mono ?_
  rintro e w1 ⟨rfl, rfl⟩
  go_wp2_with (at_lookup; go_must (refine wpList_look rfl _ _ _ _ rfl _ _ _ rfl rfl HL.out ?_))
  go_ret
  exact ⟨by rw [← hsk.out]; rfl, by first | exact Below.refl _ _ | exact (Below.refl _ _).alloc (Nat.le_refl _) _⟩
theorem look_absent {w : World} {m : Nat} {l : List Named} {fs : List File} (h : MapIs Tryz.prog 9 w m l) (hr : Rel w Nobody l fs) {n : List UInt8} (hn : n.length ≤ maxLen) (hx : Dk.look fs n = none) :
    (Instr.lookup 85 (.map (some m)) (.string ⟨n.toArray⟩) true).run Tryz.prog w = .ok (.tuple #[.agg #[.int .i64 0, .slice none 0 0], .bool false]) w := by
  have := map_look h n hn
  rw [hr.none hx] at this
  exact this
theorem look_there {w : World} {m : Nat} {l : List Named} {fs : List File} (h : MapIs Tryz.prog 9 w m l) (hr : Rel w Nobody l fs) {n : List UInt8} (hn : n.length ≤ maxLen) {f : File} (hx : Dk.look fs n = some f) :
    ∃ ao c, (Instr.lookup 85 (.map (some m)) (.string ⟨n.toArray⟩) true).run Tryz.prog w = .ok (.tuple #[.agg #[.int .i64 (f.safe : Int), .slice ao f.bytes.length c], .bool true]) w ∧
      w.ownsRow 0 5 1 (.slice ao f.bytes.length c) f.bytes.length (bv f.bytes) ∧ Src w ao f.bytes.length c f.bytes ∧ (n, filev f.safe (.slice ao f.bytes.length c)) ∈ l := by
  have h0 := map_look h n hn
  obtain ⟨v, h1, h2, h3⟩ := hr.some hx
  obtain ⟨sv, rfl, ho⟩ := h3 (fun e => e)
  obtain ⟨ao, c, rfl, hs, _⟩ := Src.of_own ho
  rw [h1] at h0
  exact ⟨ao, c, h0, ho, hs, h2⟩
set_option maxHeartbeats 1000000 in
set_option maxRecDepth 100000 in
theorem read_arg (S : Nat → Prop) (b : Nat) (d : Disk) (n : List UInt8) (w : World) (h : Mem S w b d) (hna : Dk.named n = false) :
    Calls Tryz.prog 46 #[.pointer (some ⟨b, 0, none⟩), .string ⟨n.toArray⟩] w fun e w' => e = .returned (.tuple #[.slice none 0 0, .int .i64 1]) ∧ Below w.heap.size w w' := by
  obtain ⟨m, l, left, h⟩ := h
  have c0 := h.box.c0
  have HM := keep h
  clear h
  go_enter Tryz.func46, Tryz.ntmps46
  go_wp2_with fail
  refine (made_box b m _ c0).mono ?_
  rintro e w1 ⟨rfl, rfl⟩
  go_wp2_with fail
  refine (maybe_any n _).mono ?_
  rintro e w2 ⟨rfl, hb2⟩
  rw [hna]
  have hb3 := keep hb2
  clear hb2
  go_wp2
  go_ret2
  exact ⟨rfl, hb3.out⟩
set_option maxHeartbeats 1000000 in
set_option maxRecDepth 100000 in
theorem read_none (S : Nat → Prop) (b : Nat) (d : Disk) (n : List UInt8) (w : World) (h : Mem S w b d) (hn : n.length ≤ maxLen) (hna : Dk.named n = true) (hx : Dk.look d.files n = none) :
    Calls Tryz.prog 46 #[.pointer (some ⟨b, 0, none⟩), .string ⟨n.toArray⟩] w fun e w' => e = .returned (.tuple #[.slice none 0 0, .int .i64 3]) ∧ Below w.heap.size w w' := by
  obtain ⟨m, l, left, h⟩ := h
  have c0 := h.box.c0
  have HM := keep h
  clear h
  have HX := keep hx
  clear hx
  go_enter Tryz.func46, Tryz.ntmps46
  go_wp2_with fail
  refine (made_box b m _ c0).mono ?_
  rintro e w1 ⟨rfl, rfl⟩
  go_wp2_with fail
  refine (maybe_any n _).mono ?_
  rintro e w2 ⟨rfl, hb2⟩
  rw [hna]
  have hb3 := keep hb2
  have hm2 := HM.out.below hb2
  have c02 := hm2.box.c0
  have HL := keep (look_absent hm2.map hm2.rel hn HX.out)
  clear hb2 hm2 c0
  go_wp2_with (at_lookup; refine wpList_look rfl _ _ _ _ rfl _ _ _ rfl rfl HL.out ?_)
  go_ret2
  exact ⟨rfl, by first | exact hb3.out | exact hb3.out.alloc hb3.out.size _⟩
set_option maxHeartbeats 1000000 in
set_option maxRecDepth 100000 in
theorem read_some (S : Nat → Prop) (b : Nat) (d : Disk) (n nm : List UInt8) (sf : Nat) (fb : List UInt8) (w : World) (h : Mem S w b d) (hn : n.length ≤ maxLen) (hna : Dk.named n = true) (hx : Dk.look d.files n = some ⟨nm, sf, fb⟩) (hfl : fb.length ≤ 140737488355328) :
    Calls Tryz.prog 46 #[.pointer (some ⟨b, 0, none⟩), .string ⟨n.toArray⟩] w fun e w' => ∃ v, e = .returned (.tuple #[v, .int .i64 0]) ∧ New w w' v fb.length fb := by
  obtain ⟨m, l, left, h⟩ := h
  have c0 := h.box.c0
  have HM := keep h
  clear h
  have HX := keep hx
  clear hx
  go_enter Tryz.func46, Tryz.ntmps46
  go_wp2_with fail
  refine (made_box b m _ c0).mono ?_
  rintro e w1 ⟨rfl, rfl⟩
  go_wp2_with fail
  refine (maybe_any n _).mono ?_
  rintro e w2 ⟨rfl, hb2⟩
  rw [hna]
  have hb3 := keep hb2
  have hm2 := HM.out.below hb2
  have c02 := hm2.box.c0
  obtain ⟨ao, c, hl, ho, hs, _⟩ := look_there hm2.map hm2.rel hn HX.out
  have HL := keep hl
  have HS := keep hs
  clear hb2 hm2 c0 hl ho hs HX
  go_wp2_with (at_lookup; refine wpList_look rfl _ _ _ _ rfl _ _ _ rfl rfl HL.out ?_)
  refine (clone_any ao fb.length c fb _ hfl (HS.out.below ((Below.refl _ _).alloc (Nat.le_refl _) _))).mono ?_
  rintro e w3 ⟨v, rfl, hv⟩
  have hv2 := keep (New.after (hb3.out.alloc hb3.out.size _) hv)
  clear hv
  go_wp2
  go_ret2
  exact ⟨_, rfl, hv2.out⟩
end Go.Proofs.YthnebhddakfadaaGreatDoor
namespace Go.Proofs.YthnebhddakfadaaGreatDoor
open Go.RowKit
open Dk (File Disk)

theorem MemAt.stay {S : Nat → Prop} {w w' : World} {b m : Nat} {l : List Named} {left : Int} {d : Disk} (h : MemAt S w b m l left d) (hk : Below w.heap.size w w') : Mem (more S w w') w' b d ∧ Kept (Go.Proofs.YthnebhddakfadaaGreatDoor.mine S b) w w' := by
  refine ⟨⟨m, l, left, (h.below hk).wide (fun g hg => .inl hg) (fun e => ?_) (fun g hg => ?_)⟩, Kept.of_below hk⟩
  · rcases e with e | e
    · exact h.out e
    · have := h.box.lt; omega
  · rcases hg with hg | hg
    · exact Nat.lt_of_lt_of_le (h.lt g hg) hk.size
    · exact hg.2
theorem MemAt.grow {S : Nat → Prop} {w w1 w2 : World} {b m : Nat} {l : List Named} {left : Int} {d : Disk} (hw : b < w.heap.size) (hs : ¬ S b) (hS : ∀ g, S g → g < w2.heap.size) (h : MemAt S w2 b m l left d) (h1 : Kept (Go.Proofs.YthnebhddakfadaaGreatDoor.mine S b) w w1) (h2 : Kept (Go.Proofs.YthnebhddakfadaaGreatDoor.mine S b) w1 w2) : Mem (more S w w2) w2 b d ∧ Kept (Go.Proofs.YthnebhddakfadaaGreatDoor.mine S b) w w2 := by
  refine ⟨⟨m, l, left, h.wide (fun g hg => .inl hg) (fun e => ?_) (fun g hg => ?_)⟩, h1.trans h2⟩
  · rcases e with e | e
    · exact hs e
    · omega
  · rcases hg with hg | hg
    · exact hS g hg
    · exact hg.2
/-- A file laid in. -/
theorem MemAt.laid {S S' : Nat → Prop} {w w' : World} {b m : Nat} {l : List Named} {left : Int} {d : Disk} {n : List UInt8} {v : Value} {f : File} {fs : List File} (h : MemAt S w b m l left d) (hmap : MapIs Tryz.prog 9 w' m (lay l n v)) (hfit : Fits w' v f) (hname : f.name = n) (hfs : fs = Dk.put d.files f)
    (hkeep : ∀ x ∈ l, x.1 ≠ n → ∀ g, arr x.2 = some g → w'.heap[g]? = w.heap[g]?) (hbox : Box w' b m ((d.cap : Int) - (Dk.used fs : Int)) left d.dark (d.done : Int))
    (hv : ∀ g, arr v = some g → S' g ∧ g ≠ m ∧ ∀ y ∈ l, y.1 ≠ n → arr y.2 ≠ some g) (hss : ∀ g, S g → S' g) (hb : ¬ S' b) (hlt : ∀ g, S' g → g < w'.heap.size) (hg : Dk.Good { d with files := fs }) : MemAt S' w' b m (lay l n v) left { d with files := fs } :=
  ⟨hg, h.capb, hbox, hmap, by
    subst hname
    show Rel w' Nobody (lay l f.name v) fs
    rw [hfs]
    exact Rel.lay hfit h.map.1 (h.rel.turn (fun _ e => e.elim) (fun x hx hne g hgx => hkeep x hx hne g hgx)), h.foot.lay h.map.1 hss hv, hb, hlt, h.lefts, h.range⟩
/-- A file struck. -/
theorem MemAt.struck {S : Nat → Prop} {w w' : World} {b m : Nat} {l : List Named} {left : Int} {d : Disk} {n : List UInt8} {fs : List File} (h : MemAt S w b m l left d) (hmap : MapIs Tryz.prog 9 w' m (strike l n)) (hfs : fs = Dk.drop d.files n)
    (hkeep : ∀ x ∈ l, x.1 ≠ n → ∀ g, arr x.2 = some g → w'.heap[g]? = w.heap[g]?) (hbox : Box w' b m ((d.cap : Int) - (Dk.used fs : Int)) left d.dark (d.done : Int)) (hsz : w.heap.size ≤ w'.heap.size) (hg : Dk.Good { d with files := fs }) : MemAt S w' b m (strike l n) left { d with files := fs } := by
  refine ⟨hg, h.capb, hbox, hmap, ?_, h.foot.strike n, h.out, fun g hgs => Nat.lt_of_lt_of_le (h.lt g hgs) hsz, h.lefts, h.range⟩
  show Rel w' Nobody (strike l n) fs
  rw [hfs]
  have h1 : Rel w Nobody (strike l n) (Dk.drop d.files n) := Rel.strike n h.rel
  exact h1.turn (fun _ e => e) (fun x hx _ g hgx => hkeep x (strike_mem hx).1 (strike_mem hx).2 g hgx)

theorem count_mem (S : Nat → Prop) (b m : Nat) (l : List Named) (left : Int) (d : Disk) (w : World) (h : MemAt S w b m l left d) (hd : d.dark = false) (ho : d.done ≤ 4611686018427387904) :
    Calls Tryz.prog 71 #[.pointer (some ⟨b, 0, none⟩)] w fun e w' => ∃ left', e = .returned (.int .i64 (if (Dk.tick d).1 then 0 else 5)) ∧ MemAt S w' b m l left' (Dk.tick d).2 ∧ Kept (At b) w w' := by
  have hbx := h.box
  have hlf := h.lefts hd
  have hne : ∀ g, S g → ¬ At b g := fun g hg e => h.out (by rw [← (show g = b from e)]; exact hg)
  have core : ∀ {w' : World} {left' : Int} {d' : Disk}, Kept (At b) w w' → Box w' b m ((d'.cap : Int) - (Dk.used d'.files : Int)) left' d'.dark (d'.done : Int) → Dk.Good d' → d'.cap = d.cap → d'.files = d.files → (d'.dark = false → left' = leftOf d'.left) → (-1 ≤ left' ∧ left' < 9223372036854775808) → MemAt S w' b m l left' d' := by
    intro w' left' d' hk hb hg hc hf hl hr
    refine ⟨hg, by rw [hc]; exact h.capb, hb, h.map.same (hk.block m (h.lt m h.foot.mine) (hne m h.foot.mine)), ?_, h.foot, h.out, fun g hgs => Nat.lt_of_lt_of_le (h.lt g hgs) hk.size, hl, hr⟩
    rw [hf]
    exact h.rel.turn (fun _ e => e) (fun x hx _ g hgx => hk.block g (h.lt g (h.foot.arrs x hx g hgx).1) (hne g (h.foot.arrs x hx g hgx).1))
  have gd : Dk.Good (Dk.tick d).2 := by
    unfold Dk.tick
    cases hl : d.left with
    | none => exact ⟨h.good.rising, h.good.names, h.good.safes, h.good.room, fun _ => rfl⟩
    | some k =>
      cases k with
      | zero => exact ⟨h.good.rising, h.good.names, h.good.safes, h.good.room, fun _ => rfl⟩
      | succ k => exact ⟨h.good.rising, h.good.names, h.good.safes, h.good.room, fun e => by rw [show ({ d with done := d.done + 1, left := some k } : Disk).dark = d.dark from rfl, hd] at e; cases e⟩
  have hr := h.range
  cases hl : d.left with
  | none =>
    have et : Dk.tick d = (true, { d with done := d.done + 1 }) := by unfold Dk.tick; rw [hl]
    rw [hl] at hlf
    rw [hlf] at hbx
    refine (count_none b m _ d.dark _ w hbx (by omega) (by omega)).mono ?_
    rintro e w' ⟨rfl, hb', hk⟩
    rw [et] at gd ⊢
    refine ⟨-1, rfl, core hk ?_ gd rfl rfl (fun _ => by rw [show ({ d with done := d.done + 1 } : Disk).left = d.left from rfl, hl]; rfl) (by omega), hk⟩
    show Box w' b m _ _ _ ((d.done + 1 : Nat) : Int)
    rw [show ((d.done + 1 : Nat) : Int) = (d.done : Int) + 1 from by omega]
    exact hb'
  | some k =>
    cases k with
    | zero =>
      have et : Dk.tick d = (false, { d with dark := true, left := none }) := by unfold Dk.tick; rw [hl]
      rw [hl] at hlf
      rw [hlf] at hbx
      refine (count_cut b m _ d.dark _ w hbx).mono ?_
      rintro e w' ⟨rfl, hb', hk⟩
      rw [et] at gd ⊢
      exact ⟨0, rfl, core hk hb' gd rfl rfl (fun e => by cases e) (by omega), hk⟩
    | succ k =>
      have et : Dk.tick d = (true, { d with done := d.done + 1, left := some k }) := by unfold Dk.tick; rw [hl]
      rw [hl] at hlf
      have e1 : leftOf (some (k + 1)) = (k : Int) + 1 := by simp [leftOf]
      rw [e1] at hlf
      rw [hlf] at hbx
      refine (count_some b m _ k d.dark _ w hbx (by omega) (by omega) (by omega)).mono ?_
      rintro e w' ⟨rfl, hb', hk⟩
      rw [et] at gd ⊢
      refine ⟨(k : Int), rfl, core hk ?_ gd rfl rfl (fun _ => rfl) (by omega), hk⟩
      show Box w' b m _ _ _ ((d.done + 1 : Nat) : Int)
      rw [show ((d.done + 1 : Nat) : Int) = (d.done : Int) + 1 from by omega]
      exact hb'
theorem used_ge (l : List File) : 16 * l.length ≤ Dk.used l := by
  induction l with
  | nil => simp [Dk.used]
  | cons f t ih => simp only [Dk.used, List.length_cons, Dk.cost]; omega
theorem MemAt.few {S : Nat → Prop} {w : World} {b m : Nat} {l : List Named} {left : Int} {d : Disk} (h : MemAt S w b m l left d) : l.length < maxLen ∧ l.length ≤ 1099511627776 := by
  have h1 := h.rel.length
  have h2 := used_ge d.files
  have h3 := h.good.room
  have h4 := h.capb
  unfold maxLen
  omega
theorem used_mem {l : List File} {f : File} (h : f ∈ l) : Dk.cost f ≤ Dk.used l := by
  induction l with
  | nil => cases h
  | cons g t ih =>
    rcases List.mem_cons.1 h with rfl | h
    · simp only [Dk.used]; omega
    · have := ih h
      simp only [Dk.used]; omega
/-- A cell of a block of the call's own, behind what turns the disk alone. -/
theorem local_cell {w w' : World} {b i : Nat} {o : Obj} {v : Value} (hk : Kept (At b) (w.alloc o) w') (hb : b < w.heap.size) (hc : (w.alloc o).cell? ⟨w.heap.size, i, none⟩ = some v) : w'.cell? ⟨w.heap.size, i, none⟩ = some v := by
  rw [hk.cell (p := ⟨w.heap.size, i, none⟩) (by simp) (fun e => by have : w.heap.size = b := e; omega)]
  exact hc
theorem one_name (w : World) (n : List UInt8) (t : TypeId) : RSrc strKind (w.alloc (.cells #[.string ⟨n.toArray⟩] t)) (some ⟨w.heap.size, 0, none⟩) 1 1 [n] :=
  ⟨rfl, Nat.le_refl _, (fun e => by cases e), fun ad had j u hu => by
    cases had
    have := rec_cells (k := strKind) w t n j u (by simpa [rv] using hu)
    exact this, fun _ _ => trivial⟩
theorem two_names (w : World) (n n2 : List UInt8) (t : TypeId) : RSrc strKind (w.alloc (.cells #[.string ⟨n.toArray⟩, .string ⟨n2.toArray⟩] t)) (some ⟨w.heap.size, 0, none⟩) 2 2 [n, n2] :=
  ⟨rfl, Nat.le_refl _, (fun e => by cases e), fun ad had j u hu => by
    cases had
    rw [Addr.add_mid, Nat.zero_add, cell_of_row _ _ _ _ _ _ (heap_alloc_new w _)]
    simpa [rv, strKind] using hu, fun _ _ => trivial⟩
end Go.Proofs.YthnebhddakfadaaGreatDoor
namespace Go.Proofs.YthnebhddakfadaaGreatDoor
open Go.RowKit
open Dk (File Disk)

set_option maxHeartbeats 1000000 in
set_option maxRecDepth 100000 in
theorem new_arg (cap : Int) (w : World) (h : cap < 0 ∨ 1099511627776 < cap) :
    Calls Tryz.prog 22 #[.int .i64 cap] w fun e w' => e = .returned (.tuple #[.pointer none, .int .i64 1]) ∧ Below w.heap.size w w' := by
  rcases Int.lt_or_le cap 0 with h1 | h1
  · clear h
    go_enter Tryz.func22, Tryz.ntmps22
    go_wp2
    go_ret2
    exact ⟨rfl, Below.refl _ _⟩
  · have h2 : 1099511627776 < cap := by omega
    clear h
    go_enter Tryz.func22, Tryz.ntmps22
    go_wp2
    go_ret2
    exact ⟨rfl, Below.refl _ _⟩
set_option maxHeartbeats 1000000 in
set_option maxRecDepth 100000 in
theorem new_raw (cap : Int) (w : World) (h0 : 0 ≤ cap) (h1 : cap ≤ 1099511627776) :
    Calls Tryz.prog 22 #[.int .i64 cap] w fun e w' => e = .returned (.tuple #[.pointer (some ⟨w.heap.size + 1, 0, none⟩), .int .i64 0]) ∧ w' = (w.alloc (.map #[] 0)).alloc (.cells #[.map (some w.heap.size), .int .i64 cap, .int .i64 (-1), .bool false, .int .i64 0] 92) := by
  have hmm := @run_makeMap Tryz.prog
  go_enter Tryz.func22, Tryz.ntmps22
  go_wp2
  go_ret2
  exact ⟨rfl, rfl⟩
/-- A new disk. -/
theorem new_mem (cap : Nat) (w : World) (h1 : cap ≤ 1099511627776) :
    Calls Tryz.prog 22 #[.int .i64 (cap : Int)] w fun e w' => ∃ b S, e = .returned (.tuple #[.pointer (some ⟨b, 0, none⟩), .int .i64 0]) ∧ Mem S w' b ⟨cap, [], 0, none, false⟩ ∧ (∀ g, S g → w.heap.size ≤ g) ∧ w.heap.size ≤ b ∧ Below w.heap.size w w' := by
  refine (new_raw (cap : Int) w (by omega) (by omega)).mono ?_
  rintro e w' ⟨rfl, rfl⟩
  have hb : Below w.heap.size w ((w.alloc (.map #[] 0)).alloc (.cells #[.map (some w.heap.size), .int .i64 (cap : Int), .int .i64 (-1), .bool false, .int .i64 0] 92)) := ((Below.refl _ _).alloc (Nat.le_refl _) _).alloc (by simp) _
  refine ⟨w.heap.size + 1, fun g => g = w.heap.size, rfl, ⟨w.heap.size, [], -1, ⟨Dk.new_good cap, h1, ?_, ?_, trivial, ⟨rfl, (fun x hx => by cases hx), (fun x hx => by cases hx)⟩, (fun e => by have : w.heap.size + 1 = w.heap.size := e; omega), (fun g hg => by have e : g = w.heap.size := hg; rw [e]; simp; omega), fun _ => rfl, by omega⟩⟩, (fun g hg => by have : g = w.heap.size := hg; omega), Nat.le_succ _, hb⟩
  · have := heap_alloc_new (w.alloc (.map #[] 0)) (.cells #[.map (some w.heap.size), .int .i64 (cap : Int), .int .i64 (-1), .bool false, .int .i64 0] 92)
    have e1 : (w.alloc (.map #[] 0)).heap.size = w.heap.size + 1 := by simp
    rw [e1] at this
    show _ = _
    rw [this]
    simp [Dk.used]
  · exact (MapIs.made Tryz.prog 9 w).same (Below.heap_alloc _ _ _ (by simp))
end Go.Proofs.YthnebhddakfadaaGreatDoor
namespace Go.Proofs.YthnebhddakfadaaGreatDoor
open Go.RowKit Go.Sort
open Dk (File Disk)

theorem less_of_lt : ∀ {a b : List UInt8}, a < b → less a b = true
  | _, [], h => by cases h
  | [], _ :: _, _ => rfl
  | x :: a, y :: b, h => by
    rcases List.cons_lt_cons_iff.1 h with h1 | ⟨rfl, h1⟩
    · exact less_cons.2 (.inl (UInt8.lt_iff_toNat_lt.1 h1))
    · exact less_cons.2 (.inr ⟨rfl, less_of_lt h1⟩)
theorem le_of_less {a b : List UInt8} (h : less a b = true) : a ≤ b := by
  intro hb
  have h1 := less_of_lt hb
  rw [less_asymm h] at h1
  cases h1
theorem up_pairwise {l : List Named} (h : Up l) : List.Pairwise (fun a b => decide (a ≤ b) = true) (l.map (·.1)) := by
  induction l with
  | nil => exact List.Pairwise.nil
  | cons x t ih =>
    refine List.Pairwise.cons (fun y hy => ?_) (ih h.2)
    obtain ⟨z, hz, rfl⟩ := List.mem_map.1 hy
    exact decide_eq_true (le_of_less (h.1 z hz))
theorem strKeys_told (l : List Named) : strKeys (.map (told l)) = l.map (·.1) := by
  induction l with
  | nil => rfl
  | cons x t ih =>
    simp only [told, List.map_cons, strKeys] at ih ⊢
    rw [ih]
    rfl
theorem sorted_names {l : List Named} (h : Up l) {ss : List (List UInt8)} (hp : ss.Perm (strKeys (.map (told l)))) : ss.mergeSort (fun x y => decide (x ≤ y)) = l.map (·.1) := by
  rw [strKeys_told] at hp
  exact (mergeSort_of_perm hp).trans (List.mergeSort_of_pairwise (up_pairwise h))
/-- Names' answer: new memory that holds the names. -/
theorem names_mem (S : Nat → Prop) (b m : Nat) (l : List Named) (left : Int) (d : Disk) (w : World) (h : MemAt S w b m l left d) :
    Calls Tryz.prog 28 #[.pointer (some ⟨b, 0, none⟩)] w fun e w' => ∃ ao c, e = .returned (.slice ao d.files.length c) ∧ w'.ownsRow w.heap.size 9 1 (.slice ao d.files.length c) d.files.length (rv strKind (d.files.map (·.name))) ∧ RSrc strKind w' ao d.files.length c (d.files.map (·.name)) ∧ Below w.heap.size w w' := by
  refine (names_raw b m l w h.box.c0 h.map h.few.2).mono ?_
  rintro e w' ⟨v, ss, rfl, hp, ho, hb⟩
  have hs := sorted_names h.map.1 hp
  have hlen : ss.length = d.files.length := by
    have h1 := hp.length_eq
    rw [strKeys_told, List.length_map, h.rel.length] at h1
    exact h1
  have hn : ss.mergeSort (fun x y => decide (x ≤ y)) = d.files.map (·.name) := by rw [hs]; exact h.rel.names
  rw [hn, hlen] at ho
  have e1 : (d.files.map (·.name)).map encStr = rv strKind (d.files.map (·.name)) := by
    generalize d.files.map (·.name) = q
    induction q with
    | nil => rfl
    | cons x t ih => simp only [List.map_cons, rv, ih]; rfl
  rw [e1] at ho
  obtain ⟨ao, c, rfl, hr, _⟩ := RSrc.own strKind_ok ho (fun _ _ => trivial)
  exact ⟨ao, c, rfl, ho, hr, hb⟩
end Go.Proofs.YthnebhddakfadaaGreatDoor
