/- The walks of disk's Has and Read. -/
import Derived.Test.YtfjhfecjbheipaaJoinD2
import Derived.Test.YtfjhfecjbheipaaCl
namespace Go.Proofs.Ytfjhfecjbheipaa
open Go.RowKit
open Dk (File Disk)

def nofile : Value := filev 0 (.slice none 0 0)
theorem zero_file (w : World) : (zeroValue 58).run Try.prog w = .ok nofile w := by
  simp [zeroValue, nofile, filev]
  kernel_rfl
theorem map_look {w : World} {m : Nat} {l : List Named} (h : MapIs Try.prog 9 w m l) (n : List UInt8) (hn : n.length ≤ maxLen) :
    (Instr.lookup 60 (.map (some m)) (.string ⟨n.toArray⟩) true).run Try.prog w = .ok (.tuple #[(seek l n).getD nofile, .bool (seek l n).isSome]) w :=
  h.look_ok Try.underlying9 Try.underlying60 (zero_file w) n hn
section
variable {P : Program} {w : World} {ops : Array Oper} {rest : List Oper} {o : Oper} {a : Act} {Q : Exit → Act → World → Prop}
/-- A look-up whose run is known. -/
theorem wpList_look (hg : o.guard = none) (m x : Operand) (t : TypeId) (ok : Bool) (hop : o.op = Op.lookup t m x ok) (mv xv r : Value) (hm : a.eval m = mv) (hx : a.eval x = xv) (hrun : (Instr.lookup t mv xv ok).run P w = .ok r w)
    (hK : wpList P ops Q rest (a.put o.dst r) w) : wpList P ops Q (o :: rest) a w := by
  refine wpList_plain hg fun K' hK' => ?_
  unfold Oper.wp
  simp [execOp, hop, hm, hx, hrun, Result.andThen]
  exact hK' _ _ hK
theorem wpList_lay (hg : o.guard = none) (m x v : Operand) (t : TypeId) (hop : o.op = Op.mapUpdate t m x v) (k e : TypeId) (hk : P.underlying k = some .string) (ht : P.underlying t = some (.map k e)) (b : Nat) (l : List Named) (n : List UInt8) (val : Value)
    (hm : a.eval m = .map (some b)) (hx : a.eval x = .string ⟨n.toArray⟩) (hv : a.eval v = val) (hmap : MapIs P k w b l) (hn : n.length ≤ maxLen) (hl : l.length < maxLen)
    (hK : ∀ w', MapIs P k w' b (lay l n val) → w.grownBy w' (some b) → wpList P ops Q rest (a.put o.dst undef) w') : wpList P ops Q (o :: rest) a w := by
  refine wpList_plain hg fun K' hK' => ?_
  obtain ⟨w', hrun, r1, r2⟩ := hmap.store hk ht n hn hl val
  unfold Oper.wp
  simp [execOp, hop, hm, hx, hv, hrun, Result.andThen]
  exact hK' _ _ (hK w' r1 r2)
theorem wpList_strike (hg : o.guard = none) (m x : Operand) (t k : TypeId) (hop : o.op = Op.call { callee := Callee.builtin Builtin.delete, args := #[m, x], argTypes := #[t, k] }) (e : TypeId) (hk : P.underlying k = some .string) (ht : P.underlying t = some (.map k e)) (b : Nat) (l : List Named) (n : List UInt8)
    (hm : a.eval m = .map (some b)) (hx : a.eval x = .string ⟨n.toArray⟩) (hmap : MapIs P k w b l) (hn : n.length ≤ maxLen)
    (hK : ∀ w', MapIs P k w' b (strike l n) → w.grownBy w' (some b) → wpList P ops Q rest (a.put o.dst (.tuple #[])) w') : wpList P ops Q (o :: rest) a w := by
  refine wpList_plain hg fun K' hK' => ?_
  obtain ⟨w', hrun, r1, r2⟩ := hmap.gone hk ht n hn o.type
  unfold Oper.wp
  simp [execOp, hop, resolve, invoke, builtin, hm, hx, hrun, Result.andThen]
  exact hK' _ _ (hK w' r1 r2.grown)
end

theorem own_slice {w : World} {B t k n : Nat} {v : Value} {xs : List Value} (h : w.ownsRow B t k v n xs) : ∃ ao c, v = .slice ao n c := by
  rcases h.2 with ⟨rfl, rfl⟩ | ⟨g, cap, cur, rfl, _⟩
  · exact ⟨none, 0, rfl⟩
  · exact ⟨_, _, rfl⟩
theorem seek_form {w : World} {l : List Named} {fs : List File} (h : Rel w Nobody l fs) (n : List UInt8) : ∃ (s : Int) (ao : Option Addr) (k c : Nat), (seek l n).getD nofile = .agg #[.int .i64 s, .slice ao k c] := by
  cases hx : Dk.look fs n with
  | none => rw [h.none hx]; exact ⟨0, none, 0, 0, rfl⟩
  | some f =>
    obtain ⟨v, h1, _, h3⟩ := h.some hx
    obtain ⟨sv, rfl, ho⟩ := h3 (fun e => e)
    obtain ⟨ao, c, rfl⟩ := own_slice ho
    rw [h1]
    exact ⟨_, ao, _, c, rfl⟩

set_option maxHeartbeats 1000000 in
set_option maxRecDepth 100000 in
theorem has_mem (S : Nat → Prop) (b : Nat) (d : Disk) (n : List UInt8) (w : World) (h : Mem S w b d) (hn : n.length ≤ maxLen) :
    Calls Try.prog 40 #[.pointer (some ⟨b, 0, none⟩), .string ⟨n.toArray⟩] w fun e w' => e = .returned (.bool (Dk.look d.files n).isSome) ∧ Below w.heap.size w w' := by
  obtain ⟨m, l, left, h⟩ := h
  have c0 := h.box.c0
  have hl := map_look h.map n hn
  have hsk : Hid ((seek l n).isSome = (Dk.look d.files n).isSome) := by
    show _ = _
    cases hx : Dk.look d.files n with
    | none => rw [h.rel.none hx]; rfl
    | some f => obtain ⟨v, h1, _⟩ := h.rel.some hx; rw [h1]; rfl
  have HM := keep h
  clear h
  obtain ⟨ob, hob⟩ : ∃ ob, (seek l n).isSome = ob := ⟨_, rfl⟩
  obtain ⟨s, ao, k, c, hov⟩ := seek_form HM.out.rel n
  rw [hob, hov] at hl
  rw [hob] at hsk
  have HL := keep hl
  clear hob hov hl
  go_enter Try.func40, Try.ntmps40
  go_wp2_with fail
  refine (made_box b m _ c0).mono ?_
  rintro e w1 ⟨rfl, rfl⟩
  go_wp2_with (at_lookup; go_must (refine wpList_look rfl _ _ _ _ rfl _ _ _ rfl rfl HL.out ?_))
  go_ret
  exact ⟨by rw [← hsk.out]; rfl, by first | exact Below.refl _ _ | exact (Below.refl _ _).alloc (Nat.le_refl _) _⟩
/-- What is read of a name: an error's number, and bytes. -/
def readOf (fs : List File) (n : List UInt8) : Nat × List UInt8 := if Dk.named n then (match Dk.look fs n with | some f => (0, f.bytes) | none => (3, [])) else (1, [])
theorem look_absent {w : World} {m : Nat} {l : List Named} {fs : List File} (h : MapIs Try.prog 9 w m l) (hr : Rel w Nobody l fs) {n : List UInt8} (hn : n.length ≤ maxLen) (hx : Dk.look fs n = none) :
    (Instr.lookup 60 (.map (some m)) (.string ⟨n.toArray⟩) true).run Try.prog w = .ok (.tuple #[.agg #[.int .i64 0, .slice none 0 0], .bool false]) w := by
  have := map_look h n hn
  rw [hr.none hx] at this
  exact this
theorem look_there {w : World} {m : Nat} {l : List Named} {fs : List File} (h : MapIs Try.prog 9 w m l) (hr : Rel w Nobody l fs) {n : List UInt8} (hn : n.length ≤ maxLen) {f : File} (hx : Dk.look fs n = some f) :
    ∃ ao c, (Instr.lookup 60 (.map (some m)) (.string ⟨n.toArray⟩) true).run Try.prog w = .ok (.tuple #[.agg #[.int .i64 (f.safe : Int), .slice ao f.bytes.length c], .bool true]) w ∧
      w.ownsRow 0 5 1 (.slice ao f.bytes.length c) f.bytes.length (bv f.bytes) ∧ Src w ao f.bytes.length c f.bytes ∧ (n, filev f.safe (.slice ao f.bytes.length c)) ∈ l := by
  have h0 := map_look h n hn
  obtain ⟨v, h1, h2, h3⟩ := hr.some hx
  obtain ⟨sv, rfl, ho⟩ := h3 (fun e => e)
  obtain ⟨ao, c, rfl, hs, _⟩ := Src.of_own ho
  rw [h1] at h0
  exact ⟨ao, c, h0, ho, hs, h2⟩
set_option maxHeartbeats 1000000 in
set_option maxRecDepth 100000 in
theorem read_arg (S : Nat → Prop) (b : Nat) (d : Disk) (n : List UInt8) (w : World) (h : Mem S w b d) (hna : Dk.named n = false) :
    Calls Try.prog 22 #[.pointer (some ⟨b, 0, none⟩), .string ⟨n.toArray⟩] w fun e w' => e = .returned (.tuple #[.slice none 0 0, .int .i64 1]) ∧ Below w.heap.size w w' := by
  obtain ⟨m, l, left, h⟩ := h
  have c0 := h.box.c0
  have HM := keep h
  clear h
  go_enter Try.func22, Try.ntmps22
  go_wp2_with fail
  refine (made_box b m _ c0).mono ?_
  rintro e w1 ⟨rfl, rfl⟩
  go_wp2_with fail
  refine (maybe_any n _).mono ?_
  rintro e w2 ⟨rfl, hb2⟩
  rw [hna]
  have hb3 := keep hb2
  clear hb2
  go_wp2
  go_ret2
  exact ⟨rfl, hb3.out⟩
set_option maxHeartbeats 1000000 in
set_option maxRecDepth 100000 in
theorem read_none (S : Nat → Prop) (b : Nat) (d : Disk) (n : List UInt8) (w : World) (h : Mem S w b d) (hn : n.length ≤ maxLen) (hna : Dk.named n = true) (hx : Dk.look d.files n = none) :
    Calls Try.prog 22 #[.pointer (some ⟨b, 0, none⟩), .string ⟨n.toArray⟩] w fun e w' => e = .returned (.tuple #[.slice none 0 0, .int .i64 3]) ∧ Below w.heap.size w w' := by
  obtain ⟨m, l, left, h⟩ := h
  have c0 := h.box.c0
  have HM := keep h
  clear h
  have HX := keep hx
  clear hx
  go_enter Try.func22, Try.ntmps22
  go_wp2_with fail
  refine (made_box b m _ c0).mono ?_
  rintro e w1 ⟨rfl, rfl⟩
  go_wp2_with fail
  refine (maybe_any n _).mono ?_
  rintro e w2 ⟨rfl, hb2⟩
  rw [hna]
  have hb3 := keep hb2
  have hm2 := HM.out.below hb2
  have c02 := hm2.box.c0
  have HL := keep (look_absent hm2.map hm2.rel hn HX.out)
  clear hb2 hm2 c0
  go_wp2_with (at_lookup; refine wpList_look rfl _ _ _ _ rfl _ _ _ rfl rfl HL.out ?_)
  go_ret2
  exact ⟨rfl, by first | exact hb3.out | exact hb3.out.alloc hb3.out.size _⟩
set_option maxHeartbeats 1000000 in
set_option maxRecDepth 100000 in
theorem read_some (S : Nat → Prop) (b : Nat) (d : Disk) (n nm : List UInt8) (sf : Nat) (fb : List UInt8) (w : World) (h : Mem S w b d) (hn : n.length ≤ maxLen) (hna : Dk.named n = true) (hx : Dk.look d.files n = some ⟨nm, sf, fb⟩) (hfl : fb.length ≤ 140737488355328) :
    Calls Try.prog 22 #[.pointer (some ⟨b, 0, none⟩), .string ⟨n.toArray⟩] w fun e w' => ∃ v, e = .returned (.tuple #[v, .int .i64 0]) ∧ New w w' v fb.length fb := by
  obtain ⟨m, l, left, h⟩ := h
  have c0 := h.box.c0
  have HM := keep h
  clear h
  have HX := keep hx
  clear hx
  go_enter Try.func22, Try.ntmps22
  go_wp2_with fail
  refine (made_box b m _ c0).mono ?_
  rintro e w1 ⟨rfl, rfl⟩
  go_wp2_with fail
  refine (maybe_any n _).mono ?_
  rintro e w2 ⟨rfl, hb2⟩
  rw [hna]
  have hb3 := keep hb2
  have hm2 := HM.out.below hb2
  have c02 := hm2.box.c0
  obtain ⟨ao, c, hl, ho, hs, _⟩ := look_there hm2.map hm2.rel hn HX.out
  have HL := keep hl
  have HS := keep hs
  clear hb2 hm2 c0 hl ho hs HX
  go_wp2_with (at_lookup; refine wpList_look rfl _ _ _ _ rfl _ _ _ rfl rfl HL.out ?_)
  refine (clone_any ao fb.length c fb _ hfl (HS.out.below ((Below.refl _ _).alloc (Nat.le_refl _) _))).mono ?_
  rintro e w3 ⟨v, rfl, hv⟩
  have hv2 := keep (New.after (hb3.out.alloc hb3.out.size _) hv)
  clear hv
  go_wp2
  go_ret2
  exact ⟨_, rfl, hv2.out⟩
end Go.Proofs.Ytfjhfecjbheipaa
