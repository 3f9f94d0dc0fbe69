/- The walks of disk's Has and Read. -/
/- What a raw write of the program's does to its memory, apart from its own walk; the walk of disk's count on a disk. -/
import Derived.Test.YtogphpejdnhnjaaGreatDoorJoinD2
import Derived.Test.YtogphpejdnhnjaaGreatDoorCl
namespace Go.Proofs.YtogphpejdnhnjaaGreatDoor
open Go.RowKit
open Dk (File Disk)

def nofile : Value := filev 0 (.slice none 0 0)
theorem zero_file (w : World) : (zeroValue 230).run Tryz.prog w = .ok nofile w := by
  simp [zeroValue, nofile, filev]
  kernel_rfl
theorem map_look {w : World} {m : Nat} {l : List Named} (h : MapIs Tryz.prog 9 w m l) (n : List UInt8) (hn : n.length ≤ maxLen) :
    (Instr.lookup 83 (.map (some m)) (.string ⟨n.toArray⟩) true).run Tryz.prog w = .ok (.tuple #[(seek l n).getD nofile, .bool (seek l n).isSome]) w :=
  h.look_ok Tryz.underlying9 Tryz.underlying83 (zero_file w) n hn
section
variable {P : Program} {w : World} {ops : Array Oper} {rest : List Oper} {o : Oper} {a : Act} {Q : Exit → Act → World → Prop}
/-- A look-up whose run is known. -/
theorem wpList_look (hg : o.guard = none) (m x : Operand) (t : TypeId) (ok : Bool) (hop : o.op = Op.lookup t m x ok) (mv xv r : Value) (hm : a.eval m = mv) (hx : a.eval x = xv) (hrun : (Instr.lookup t mv xv ok).run P w = .ok r w)
    (hK : wpList P ops Q rest (a.put o.dst r) w) : wpList P ops Q (o :: rest) a w := by
  refine wpList_plain hg fun K' hK' => ?_
  unfold Oper.wp
  simp [execOp, hop, hm, hx, hrun, Result.andThen]
  exact hK' _ _ hK
theorem wpList_lay (hg : o.guard = none) (m x v : Operand) (t : TypeId) (hop : o.op = Op.mapUpdate t m x v) (k e : TypeId) (hk : P.underlying k = some .string) (ht : P.underlying t = some (.map k e)) (b : Nat) (l : List Named) (n : List UInt8) (val : Value)
    (hm : a.eval m = .map (some b)) (hx : a.eval x = .string ⟨n.toArray⟩) (hv : a.eval v = val) (hmap : MapIs P k w b l) (hn : n.length ≤ maxLen) (hl : l.length < maxLen)
    (hK : ∀ w', MapIs P k w' b (lay l n val) → w.grownBy w' (some b) → wpList P ops Q rest (a.put o.dst undef) w') : wpList P ops Q (o :: rest) a w := by
  refine wpList_plain hg fun K' hK' => ?_
  obtain ⟨w', hrun, r1, r2⟩ := hmap.store hk ht n hn hl val
  unfold Oper.wp
  simp [execOp, hop, hm, hx, hv, hrun, Result.andThen]
  exact hK' _ _ (hK w' r1 r2)
theorem wpList_strike (hg : o.guard = none) (m x : Operand) (t k : TypeId) (hop : o.op = Op.call { callee := Callee.builtin Builtin.delete, args := #[m, x], argTypes := #[t, k] }) (e : TypeId) (hk : P.underlying k = some .string) (ht : P.underlying t = some (.map k e)) (b : Nat) (l : List Named) (n : List UInt8)
    (hm : a.eval m = .map (some b)) (hx : a.eval x = .string ⟨n.toArray⟩) (hmap : MapIs P k w b l) (hn : n.length ≤ maxLen)
    (hK : ∀ w', MapIs P k w' b (strike l n) → w.grownBy w' (some b) → wpList P ops Q rest (a.put o.dst (.tuple #[])) w') : wpList P ops Q (o :: rest) a w := by
  refine wpList_plain hg fun K' hK' => ?_
  obtain ⟨w', hrun, r1, r2⟩ := hmap.gone hk ht n hn o.type
  unfold Oper.wp
  simp [execOp, hop, resolve, invoke, builtin, hm, hx, hrun, Result.andThen]
  exact hK' _ _ (hK w' r1 r2.grown)
end

theorem own_slice {w : World} {B t k n : Nat} {v : Value} {xs : List Value} (h : w.ownsRow B t k v n xs) : ∃ ao c, v = .slice ao n c := by
  rcases h.2 with ⟨rfl, rfl⟩ | ⟨g, cap, cur, rfl, _⟩
  · exact ⟨none, 0, rfl⟩
  · exact ⟨_, _, rfl⟩
theorem seek_form {w : World} {l : List Named} {fs : List File} (h : Rel w Nobody l fs) (n : List UInt8) : ∃ (s : Int) (ao : Option Addr) (k c : Nat), (seek l n).getD nofile = .agg #[.int .i64 s, .slice ao k c] := by
  cases hx : Dk.look fs n with
  | none => rw [h.none hx]; exact ⟨0, none, 0, 0, rfl⟩
  | some f =>
    obtain ⟨v, h1, _, h3⟩ := h.some hx
    obtain ⟨sv, rfl, ho⟩ := h3 (fun e => e)
    obtain ⟨ao, c, rfl⟩ := own_slice ho
    rw [h1]
    exact ⟨_, ao, _, c, rfl⟩

/-- What is read of a name: an error's number, and bytes. -/
def readOf (fs : List File) (n : List UInt8) : Nat × List UInt8 := if Dk.named n then (match Dk.look fs n with | some f => (0, f.bytes) | none => (3, [])) else (1, [])
theorem look_absent {w : World} {m : Nat} {l : List Named} {fs : List File} (h : MapIs Tryz.prog 9 w m l) (hr : Rel w Nobody l fs) {n : List UInt8} (hn : n.length ≤ maxLen) (hx : Dk.look fs n = none) :
    (Instr.lookup 83 (.map (some m)) (.string ⟨n.toArray⟩) true).run Tryz.prog w = .ok (.tuple #[.agg #[.int .i64 0, .slice none 0 0], .bool false]) w := by
  have := map_look h n hn
  rw [hr.none hx] at this
  exact this
theorem look_there {w : World} {m : Nat} {l : List Named} {fs : List File} (h : MapIs Tryz.prog 9 w m l) (hr : Rel w Nobody l fs) {n : List UInt8} (hn : n.length ≤ maxLen) {f : File} (hx : Dk.look fs n = some f) :
    ∃ ao c, (Instr.lookup 83 (.map (some m)) (.string ⟨n.toArray⟩) true).run Tryz.prog w = .ok (.tuple #[.agg #[.int .i64 (f.safe : Int), .slice ao f.bytes.length c], .bool true]) w ∧
      w.ownsRow 0 5 1 (.slice ao f.bytes.length c) f.bytes.length (bv f.bytes) ∧ Src w ao f.bytes.length c f.bytes ∧ (n, filev f.safe (.slice ao f.bytes.length c)) ∈ l := by
  have h0 := map_look h n hn
  obtain ⟨v, h1, h2, h3⟩ := hr.some hx
  obtain ⟨sv, rfl, ho⟩ := h3 (fun e => e)
  obtain ⟨ao, c, rfl, hs, _⟩ := Src.of_own ho
  rw [h1] at h0
  exact ⟨ao, c, h0, ho, hs, h2⟩
set_option maxHeartbeats 1000000 in
set_option maxRecDepth 100000 in
theorem read_arg (S : Nat → Prop) (b : Nat) (d : Disk) (n : List UInt8) (w : World) (h : Mem S w b d) (hna : Dk.named n = false) :
    Calls Tryz.prog 69 #[.pointer (some ⟨b, 0, none⟩), .string ⟨n.toArray⟩] w fun e w' => e = .returned (.tuple #[.slice none 0 0, .int .i64 1]) ∧ Below w.heap.size w w' := by
  obtain ⟨m, l, left, h⟩ := h
  have c0 := h.box.c0
  have HM := keep h
  clear h
  go_enter Tryz.func69, Tryz.ntmps69
  go_wp2_with fail
  refine (made_box b m _ c0).mono ?_
  rintro e w1 ⟨rfl, rfl⟩
  go_wp2_with fail
  refine (maybe_any n _).mono ?_
  rintro e w2 ⟨rfl, hb2⟩
  rw [hna]
  have hb3 := keep hb2
  clear hb2
  go_wp2
  go_ret2
  exact ⟨rfl, hb3.out⟩
set_option maxHeartbeats 1000000 in
set_option maxRecDepth 100000 in
theorem read_none (S : Nat → Prop) (b : Nat) (d : Disk) (n : List UInt8) (w : World) (h : Mem S w b d) (hn : n.length ≤ maxLen) (hna : Dk.named n = true) (hx : Dk.look d.files n = none) :
    Calls Tryz.prog 69 #[.pointer (some ⟨b, 0, none⟩), .string ⟨n.toArray⟩] w fun e w' => e = .returned (.tuple #[.slice none 0 0, .int .i64 3]) ∧ Below w.heap.size w w' := by
  obtain ⟨m, l, left, h⟩ := h
  have c0 := h.box.c0
  have HM := keep h
  clear h
  have HX := keep hx
  clear hx
  go_enter Tryz.func69, Tryz.ntmps69
  go_wp2_with fail
  refine (made_box b m _ c0).mono ?_
  rintro e w1 ⟨rfl, rfl⟩
  go_wp2_with fail
  refine (maybe_any n _).mono ?_
  rintro e w2 ⟨rfl, hb2⟩
  rw [hna]
  have hb3 := keep hb2
  have hm2 := HM.out.below hb2
  have c02 := hm2.box.c0
  have HL := keep (look_absent hm2.map hm2.rel hn HX.out)
  clear hb2 hm2 c0
  go_wp2_with (at_lookup; refine wpList_look rfl _ _ _ _ rfl _ _ _ rfl rfl HL.out ?_)
  go_ret2
  exact ⟨rfl, by first | exact hb3.out | exact hb3.out.alloc hb3.out.size _⟩
set_option maxHeartbeats 1000000 in
set_option maxRecDepth 100000 in
theorem read_some (S : Nat → Prop) (b : Nat) (d : Disk) (n nm : List UInt8) (sf : Nat) (fb : List UInt8) (w : World) (h : Mem S w b d) (hn : n.length ≤ maxLen) (hna : Dk.named n = true) (hx : Dk.look d.files n = some ⟨nm, sf, fb⟩) (hfl : fb.length ≤ 140737488355328) :
    Calls Tryz.prog 69 #[.pointer (some ⟨b, 0, none⟩), .string ⟨n.toArray⟩] w fun e w' => ∃ v, e = .returned (.tuple #[v, .int .i64 0]) ∧ New w w' v fb.length fb := by
  obtain ⟨m, l, left, h⟩ := h
  have c0 := h.box.c0
  have HM := keep h
  clear h
  have HX := keep hx
  clear hx
  go_enter Tryz.func69, Tryz.ntmps69
  go_wp2_with fail
  refine (made_box b m _ c0).mono ?_
  rintro e w1 ⟨rfl, rfl⟩
  go_wp2_with fail
  refine (maybe_any n _).mono ?_
  rintro e w2 ⟨rfl, hb2⟩
  rw [hna]
  have hb3 := keep hb2
  have hm2 := HM.out.below hb2
  have c02 := hm2.box.c0
  obtain ⟨ao, c, hl, ho, hs, _⟩ := look_there hm2.map hm2.rel hn HX.out
  have HL := keep hl
  have HS := keep hs
  clear hb2 hm2 c0 hl ho hs HX
  go_wp2_with (at_lookup; refine wpList_look rfl _ _ _ _ rfl _ _ _ rfl rfl HL.out ?_)
  refine (clone_any ao fb.length c fb _ hfl (HS.out.below ((Below.refl _ _).alloc (Nat.le_refl _) _))).mono ?_
  rintro e w3 ⟨v, rfl, hv⟩
  have hv2 := keep (New.after (hb3.out.alloc hb3.out.size _) hv)
  clear hv
  go_wp2
  go_ret2
  exact ⟨_, rfl, hv2.out⟩
end Go.Proofs.YtogphpejdnhnjaaGreatDoor
namespace Go.Proofs.YtogphpejdnhnjaaGreatDoor
open Go.RowKit
open Dk (File Disk)

theorem MemAt.stay {S : Nat → Prop} {w w' : World} {b m : Nat} {l : List Named} {left : Int} {d : Disk} (h : MemAt S w b m l left d) (hk : Below w.heap.size w w') : Mem (more S w w') w' b d ∧ Kept (Go.Proofs.YtogphpejdnhnjaaGreatDoor.mine S b) w w' := by
  refine ⟨⟨m, l, left, (h.below hk).wide (fun g hg => .inl hg) (fun e => ?_) (fun g hg => ?_)⟩, Kept.of_below hk⟩
  · rcases e with e | e
    · exact h.out e
    · have := h.box.lt; omega
  · rcases hg with hg | hg
    · exact Nat.lt_of_lt_of_le (h.lt g hg) hk.size
    · exact hg.2
theorem MemAt.grow {S : Nat → Prop} {w w1 w2 : World} {b m : Nat} {l : List Named} {left : Int} {d : Disk} (hw : b < w.heap.size) (hs : ¬ S b) (hS : ∀ g, S g → g < w2.heap.size) (h : MemAt S w2 b m l left d) (h1 : Kept (Go.Proofs.YtogphpejdnhnjaaGreatDoor.mine S b) w w1) (h2 : Kept (Go.Proofs.YtogphpejdnhnjaaGreatDoor.mine S b) w1 w2) : Mem (more S w w2) w2 b d ∧ Kept (Go.Proofs.YtogphpejdnhnjaaGreatDoor.mine S b) w w2 := by
  refine ⟨⟨m, l, left, h.wide (fun g hg => .inl hg) (fun e => ?_) (fun g hg => ?_)⟩, h1.trans h2⟩
  · rcases e with e | e
    · exact hs e
    · omega
  · rcases hg with hg | hg
    · exact hS g hg
    · exact hg.2
/-- A file laid in. -/
theorem MemAt.laid {S S' : Nat → Prop} {w w' : World} {b m : Nat} {l : List Named} {left : Int} {d : Disk} {n : List UInt8} {v : Value} {f : File} {fs : List File} (h : MemAt S w b m l left d) (hmap : MapIs Tryz.prog 9 w' m (lay l n v)) (hfit : Fits w' v f) (hname : f.name = n) (hfs : fs = Dk.put d.files f)
    (hkeep : ∀ x ∈ l, x.1 ≠ n → ∀ g, arr x.2 = some g → w'.heap[g]? = w.heap[g]?) (hbox : Box w' b m ((d.cap : Int) - (Dk.used fs : Int)) left d.dark (d.done : Int))
    (hv : ∀ g, arr v = some g → S' g ∧ g ≠ m ∧ ∀ y ∈ l, y.1 ≠ n → arr y.2 ≠ some g) (hss : ∀ g, S g → S' g) (hb : ¬ S' b) (hlt : ∀ g, S' g → g < w'.heap.size) (hg : Dk.Good { d with files := fs }) : MemAt S' w' b m (lay l n v) left { d with files := fs } :=
  ⟨hg, h.capb, hbox, hmap, by
    subst hname
    show Rel w' Nobody (lay l f.name v) fs
    rw [hfs]
    exact Rel.lay hfit h.map.1 (h.rel.turn (fun _ e => e.elim) (fun x hx hne g hgx => hkeep x hx hne g hgx)), h.foot.lay h.map.1 hss hv, hb, hlt, h.lefts, h.range⟩
/-- A file struck. -/
theorem MemAt.struck {S : Nat → Prop} {w w' : World} {b m : Nat} {l : List Named} {left : Int} {d : Disk} {n : List UInt8} {fs : List File} (h : MemAt S w b m l left d) (hmap : MapIs Tryz.prog 9 w' m (strike l n)) (hfs : fs = Dk.drop d.files n)
    (hkeep : ∀ x ∈ l, x.1 ≠ n → ∀ g, arr x.2 = some g → w'.heap[g]? = w.heap[g]?) (hbox : Box w' b m ((d.cap : Int) - (Dk.used fs : Int)) left d.dark (d.done : Int)) (hsz : w.heap.size ≤ w'.heap.size) (hg : Dk.Good { d with files := fs }) : MemAt S w' b m (strike l n) left { d with files := fs } := by
  refine ⟨hg, h.capb, hbox, hmap, ?_, h.foot.strike n, h.out, fun g hgs => Nat.lt_of_lt_of_le (h.lt g hgs) hsz, h.lefts, h.range⟩
  show Rel w' Nobody (strike l n) fs
  rw [hfs]
  have h1 : Rel w Nobody (strike l n) (Dk.drop d.files n) := Rel.strike n h.rel
  exact h1.turn (fun _ e => e) (fun x hx _ g hgx => hkeep x (strike_mem hx).1 (strike_mem hx).2 g hgx)

theorem count_mem (S : Nat → Prop) (b m : Nat) (l : List Named) (left : Int) (d : Disk) (w : World) (h : MemAt S w b m l left d) (hd : d.dark = false) (ho : d.done ≤ 4611686018427387904) :
    Calls Tryz.prog 201 #[.pointer (some ⟨b, 0, none⟩)] w fun e w' => ∃ left', e = .returned (.int .i64 (if (Dk.tick d).1 then 0 else 5)) ∧ MemAt S w' b m l left' (Dk.tick d).2 ∧ Kept (At b) w w' := by
  have hbx := h.box
  have hlf := h.lefts hd
  have hne : ∀ g, S g → ¬ At b g := fun g hg e => h.out (by rw [← (show g = b from e)]; exact hg)
  have core : ∀ {w' : World} {left' : Int} {d' : Disk}, Kept (At b) w w' → Box w' b m ((d'.cap : Int) - (Dk.used d'.files : Int)) left' d'.dark (d'.done : Int) → Dk.Good d' → d'.cap = d.cap → d'.files = d.files → (d'.dark = false → left' = leftOf d'.left) → (-1 ≤ left' ∧ left' < 9223372036854775808) → MemAt S w' b m l left' d' := by
    intro w' left' d' hk hb hg hc hf hl hr
    refine ⟨hg, by rw [hc]; exact h.capb, hb, h.map.same (hk.block m (h.lt m h.foot.mine) (hne m h.foot.mine)), ?_, h.foot, h.out, fun g hgs => Nat.lt_of_lt_of_le (h.lt g hgs) hk.size, hl, hr⟩
    rw [hf]
    exact h.rel.turn (fun _ e => e) (fun x hx _ g hgx => hk.block g (h.lt g (h.foot.arrs x hx g hgx).1) (hne g (h.foot.arrs x hx g hgx).1))
  have gd : Dk.Good (Dk.tick d).2 := by
    unfold Dk.tick
    cases hl : d.left with
    | none => exact ⟨h.good.rising, h.good.names, h.good.safes, h.good.room, fun _ => rfl⟩
    | some k =>
      cases k with
      | zero => exact ⟨h.good.rising, h.good.names, h.good.safes, h.good.room, fun _ => rfl⟩
      | succ k => exact ⟨h.good.rising, h.good.names, h.good.safes, h.good.room, fun e => by rw [show ({ d with done := d.done + 1, left := some k } : Disk).dark = d.dark from rfl, hd] at e; cases e⟩
  have hr := h.range
  cases hl : d.left with
  | none =>
    have et : Dk.tick d = (true, { d with done := d.done + 1 }) := by unfold Dk.tick; rw [hl]
    rw [hl] at hlf
    rw [hlf] at hbx
    refine (count_none b m _ d.dark _ w hbx (by omega) (by omega)).mono ?_
    rintro e w' ⟨rfl, hb', hk⟩
    rw [et] at gd ⊢
    refine ⟨-1, rfl, core hk ?_ gd rfl rfl (fun _ => by rw [show ({ d with done := d.done + 1 } : Disk).left = d.left from rfl, hl]; rfl) (by omega), hk⟩
    show Box w' b m _ _ _ ((d.done + 1 : Nat) : Int)
    rw [show ((d.done + 1 : Nat) : Int) = (d.done : Int) + 1 from by omega]
    exact hb'
  | some k =>
    cases k with
    | zero =>
      have et : Dk.tick d = (false, { d with dark := true, left := none }) := by unfold Dk.tick; rw [hl]
      rw [hl] at hlf
      rw [hlf] at hbx
      refine (count_cut b m _ d.dark _ w hbx).mono ?_
      rintro e w' ⟨rfl, hb', hk⟩
      rw [et] at gd ⊢
      exact ⟨0, rfl, core hk hb' gd rfl rfl (fun e => by cases e) (by omega), hk⟩
    | succ k =>
      have et : Dk.tick d = (true, { d with done := d.done + 1, left := some k }) := by unfold Dk.tick; rw [hl]
      rw [hl] at hlf
      have e1 : leftOf (some (k + 1)) = (k : Int) + 1 := by simp [leftOf]
      rw [e1] at hlf
      rw [hlf] at hbx
      refine (count_some b m _ k d.dark _ w hbx (by omega) (by omega) (by omega)).mono ?_
      rintro e w' ⟨rfl, hb', hk⟩
      rw [et] at gd ⊢
      refine ⟨(k : Int), rfl, core hk ?_ gd rfl rfl (fun _ => rfl) (by omega), hk⟩
      show Box w' b m _ _ _ ((d.done + 1 : Nat) : Int)
      rw [show ((d.done + 1 : Nat) : Int) = (d.done : Int) + 1 from by omega]
      exact hb'
theorem used_ge (l : List File) : 16 * l.length ≤ Dk.used l := by
  induction l with
  | nil => simp [Dk.used]
  | cons f t ih => simp only [Dk.used, List.length_cons, Dk.cost]; omega
theorem MemAt.few {S : Nat → Prop} {w : World} {b m : Nat} {l : List Named} {left : Int} {d : Disk} (h : MemAt S w b m l left d) : l.length < maxLen ∧ l.length ≤ 1099511627776 := by
  have h1 := h.rel.length
  have h2 := used_ge d.files
  have h3 := h.good.room
  have h4 := h.capb
  unfold maxLen
  omega
theorem used_mem {l : List File} {f : File} (h : f ∈ l) : Dk.cost f ≤ Dk.used l := by
  induction l with
  | nil => cases h
  | cons g t ih =>
    rcases List.mem_cons.1 h with rfl | h
    · simp only [Dk.used]; omega
    · have := ih h
      simp only [Dk.used]; omega
/-- A cell of a block of the call's own, behind what turns the disk alone. -/
theorem local_cell {w w' : World} {b i : Nat} {o : Obj} {v : Value} (hk : Kept (At b) (w.alloc o) w') (hb : b < w.heap.size) (hc : (w.alloc o).cell? ⟨w.heap.size, i, none⟩ = some v) : w'.cell? ⟨w.heap.size, i, none⟩ = some v := by
  rw [hk.cell (p := ⟨w.heap.size, i, none⟩) (by simp) (fun e => by have : w.heap.size = b := e; omega)]
  exact hc
theorem one_name (w : World) (n : List UInt8) (t : TypeId) : RSrc strKind (w.alloc (.cells #[.string ⟨n.toArray⟩] t)) (some ⟨w.heap.size, 0, none⟩) 1 1 [n] :=
  ⟨rfl, Nat.le_refl _, (fun e => by cases e), fun ad had j u hu => by
    cases had
    have := rec_cells (k := strKind) w t n j u (by simpa [rv] using hu)
    exact this, fun _ _ => trivial⟩
theorem two_names (w : World) (n n2 : List UInt8) (t : TypeId) : RSrc strKind (w.alloc (.cells #[.string ⟨n.toArray⟩, .string ⟨n2.toArray⟩] t)) (some ⟨w.heap.size, 0, none⟩) 2 2 [n, n2] :=
  ⟨rfl, Nat.le_refl _, (fun e => by cases e), fun ad had j u hu => by
    cases had
    rw [Addr.add_mid, Nat.zero_add, cell_of_row _ _ _ _ _ _ (heap_alloc_new w _)]
    simpa [rv, strKind] using hu, fun _ _ => trivial⟩
end Go.Proofs.YtogphpejdnhnjaaGreatDoor
