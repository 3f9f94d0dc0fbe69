/- The walks of disk's cost, made, mayBe and count. -/
/- The walks of disk's count, Free, Ops, Off, Cut over the five cells. -/
/- The walk of disk's ready. -/
import Derived.Test.YthnebhddakfadaaGreatDoorJoinMe
import Derived.Lib.Bytealg
import Derived.Laws.LoneSync
import Derived.BigQuiet
import Derived.Deep.QuietTactic
namespace Go.Proofs.YthnebhddakfadaaGreatDoor
open Go.RowKit

set_option maxHeartbeats 1000000 in
set_option maxRecDepth 100000 in
theorem index_any (s : ByteArray) (w : World) :
    Calls Tryz.prog 138 #[.string s, .int .u8 0] w fun e w' => e = .returned (.int .i64 (Lib.indexByte s.data.toList 0)) ∧ w' = w := by
  go_enter Tryz.func138, Tryz.ntmps138
  go_wp2
  rw [run_callFunc_extern Tryz.func207 (by kernel_rfl) (by kernel_rfl) (by kernel_rfl) (e := Extern.BytealgIndexByte.indexByte) (by kernel_rfl), Lib.run_indexByteString]
  simp only [Result.andThen]
  rw [Oper.upon_value]
  go_wp2
  go_ret
  exact ⟨rfl, rfl⟩

theorem index_cons (b : UInt8) (t : List UInt8) : Lib.indexByte (b :: t) 0 < 0 ↔ b ≠ 0 ∧ Lib.indexByte t 0 < 0 := by
  have h1 := Lib.indexByte_ge t 0
  simp only [Lib.indexByte]
  by_cases hb : b = 0
  · subst hb; simp
  · have : (b == 0) = false := by simpa using hb
    by_cases h2 : Lib.indexByte t 0 = -1
    · simp [this, h2, hb]
    · have h3 : (Lib.indexByte t 0 == -1) = false := by simpa using h2
      simp [this, h3, hb]
      omega
theorem index_neg (l : List UInt8) : Lib.indexByte l 0 < 0 ↔ l.all (fun b => !(b == 0)) = true := by
  induction l with
  | nil => exact ⟨fun _ => rfl, fun _ => by decide⟩
  | cons b t ih => rw [index_cons, ih, List.all_cons]; simp

set_option maxHeartbeats 1000000 in
set_option maxRecDepth 100000 in
theorem cost_any (n : List UInt8) (ao : Option Addr) (m c : Nat) (w : World) (hn : n.length ≤ 4611686018427387904) (hm : m ≤ 4611686018427380000) :
    Calls Tryz.prog 70 #[.string ⟨n.toArray⟩, .slice ao m c] w fun e w' => e = .returned (.int .i64 (16 + (n.length : Int) + (m : Int))) ∧ w' = w := by
  go_enter Tryz.func70, Tryz.ntmps70
  go_wp2
  go_ret
  exact ⟨rfl, rfl⟩

theorem neq_map (w : World) (o : Option Nat) : (binOp .neq 85 (.map o) (.map none)).run Tryz.prog w = .ok (.bool o.isSome) w := by
  have h : ∀ d : Nat, (Op.equalIn (d + 1) 85 (.map o) (.map none)).run Tryz.prog w = .ok o.isNone w := fun d => by
    cases o <;> simp [Op.equalIn, run_underlying Tryz.underlying85]
  simp only [binOp]
  cases o <;> simp [Op.equal, Op.maxDepth, h 9999]

set_option maxHeartbeats 1000000 in
set_option maxRecDepth 100000 in
theorem made_box (b m : Nat) (w : World) (h : w.cell? ⟨b, 0, none⟩ = some (.map (some m))) :
    Calls Tryz.prog 41 #[.pointer (some ⟨b, 0, none⟩)] w fun e w' => e = .returned (.bool true) ∧ w' = w := by
  have hn := fun w => neq_map w (some m)
  simp only [Option.isSome_some] at hn
  go_enter Tryz.func41, Tryz.ntmps41
  go_wp2
  go_ret
  exact ⟨rfl, rfl⟩
theorem named_false {n : List UInt8} (h : Dk.named n = false) : n = [] ∨ 100 < n.length ∨ ¬ Lib.indexByte n 0 < 0 := by
  rcases Nat.eq_zero_or_pos n.length with h0 | h0
  · exact .inl (List.length_eq_zero_iff.1 h0)
  · rcases Nat.lt_or_ge 100 n.length with h1 | h1
    · exact .inr (.inl h1)
    · refine .inr (.inr fun e => ?_)
      rw [index_neg] at e
      unfold Dk.named at h
      rw [e] at h
      simp at h
      omega
theorem named_true {n : List UInt8} (h : Dk.named n = true) : 1 ≤ n.length ∧ n.length ≤ 100 ∧ Lib.indexByte n 0 < 0 := by
  unfold Dk.named at h
  simp only [Bool.and_eq_true, decide_eq_true_eq] at h
  exact ⟨h.1.1, h.1.2, (index_neg n).2 h.2⟩
set_option maxHeartbeats 1000000 in
set_option maxRecDepth 100000 in
theorem maybe_yes (n : List UInt8) (w : World) (hn : Dk.named n = true) :
    Calls Tryz.prog 94 #[.string ⟨n.toArray⟩] w fun e w' => e = .returned (.bool true) ∧ Below w.heap.size w w' := by
  obtain ⟨h1, h2, h3⟩ := named_true hn
  have h1' : n.isEmpty = false := by cases n with | nil => simp at h1 | cons => rfl
  have h2' : (n.length : Int) ≤ 100 := by omega
  clear h1 h2 hn
  obtain ⟨z, hz⟩ : ∃ z, Lib.indexByte n 0 = z := ⟨_, rfl⟩
  have hi := index_any ⟨n.toArray⟩
  rw [show (⟨n.toArray⟩ : ByteArray).data.toList = n from rfl, hz] at hi
  have HI := keep hi
  rw [hz] at h3
  clear hi hz
  go_enter Tryz.func94, Tryz.ntmps94
  go_wp2_with fail
  refine (HI.out _).mono ?_
  rintro e w1 ⟨rfl, rfl⟩
  go_wp2
  go_ret
  exact ⟨rfl, Below.refl _ _⟩
set_option maxHeartbeats 1000000 in
set_option maxRecDepth 100000 in
theorem maybe_no (n : List UInt8) (w : World) (hn : Dk.named n = false) :
    Calls Tryz.prog 94 #[.string ⟨n.toArray⟩] w fun e w' => e = .returned (.bool false) ∧ Below w.heap.size w w' := by
  have hc := named_false hn
  clear hn
  cases n with
  | nil =>
    clear hc
    go_enter Tryz.func94, Tryz.ntmps94
    go_wp2
    go_ret
    exact ⟨rfl, Below.refl _ _⟩
  | cons c t =>
    obtain ⟨n, hn⟩ : ∃ n, c :: t = n := ⟨_, rfl⟩
    have h1' : n.isEmpty = false := by rw [← hn]; rfl
    rw [hn] at hc ⊢
    rcases Nat.lt_or_ge 100 n.length with hl | hl
    · have h2' : ¬ (n.length : Int) ≤ 100 := by omega
      clear hc hn hl
      go_enter Tryz.func94, Tryz.ntmps94
      go_wp2
      go_ret
      exact ⟨rfl, Below.refl _ _⟩
    · have h2' : (n.length : Int) ≤ 100 := by omega
      have h3 : ¬ Lib.indexByte n 0 < 0 := by
        rcases hc with e | e | e
        · rw [e] at h1'; cases h1'
        · omega
        · exact e
      clear hc hn hl
      obtain ⟨z, hz⟩ : ∃ z, Lib.indexByte n 0 = z := ⟨_, rfl⟩
      have hi := index_any ⟨n.toArray⟩
      rw [show (⟨n.toArray⟩ : ByteArray).data.toList = n from rfl, hz] at hi
      have HI := keep hi
      rw [hz] at h3
      clear hi hz
      go_enter Tryz.func94, Tryz.ntmps94
      go_wp2_with fail
      refine (HI.out _).mono ?_
      rintro e w1 ⟨rfl, rfl⟩
      go_wp2
      go_ret
      exact ⟨by show Ending.returned (.bool (decide (z < 0))) = _; rw [decide_eq_false (by omega)], Below.refl _ _⟩
theorem maybe_any (n : List UInt8) (w : World) :
    Calls Tryz.prog 94 #[.string ⟨n.toArray⟩] w fun e w' => e = .returned (.bool (Dk.named n)) ∧ Below w.heap.size w w' := by
  cases h : Dk.named n with
  | true => exact maybe_yes n w h
  | false => exact maybe_no n w h

theorem run_add1 (w : World) (a : Addr) (x : Int) (hc : w.cell? a = some (.int .i64 x)) (hz : w.frozen? a = false) (h0 : 0 ≤ x) (h1 : x ≤ 4611686018427387904) :
    (callFunc 163 #[.pointer (some a), .int .i64 1]).run Tryz.prog w = .ok (.value (.int .i64 (x + 1))) (w.setCell a (.int .i64 (x + 1))) :=
  run_call_add Tryz.func163 (by kernel_rfl) (by kernel_rfl) (by kernel_rfl) .i64 (by kernel_rfl) hc hz (by
    simp [go_sem, IntKind.wrap_i64]
    omega)
theorem run_load (w : World) (a : Addr) (x : Int) (hc : w.cell? a = some (.int .i64 x)) :
    (callFunc 91 #[.pointer (some a)]).run Tryz.prog w = .ok (.value (.int .i64 x)) w :=
  run_call_load Tryz.func91 (by kernel_rfl) (by kernel_rfl) (by kernel_rfl) .i64 (by kernel_rfl) hc
end Go.Proofs.YthnebhddakfadaaGreatDoor
namespace Go.Proofs.YthnebhddakfadaaGreatDoor
open Go.RowKit

def At (b : Nat) (g : Nat) : Prop := g = b
theorem Kept.at_set {a w : World} {b : Nat} (h : Kept (At b) a w) (i : Nat) (v : Value) : Kept (At b) a (w.setCell ⟨b, i, none⟩ v) := Kept.setCell (p := ⟨b, i, none⟩) h (.inl rfl) v
theorem setCell_cell (w : World) (b i j : Nat) (v : Value) (h : i ≠ j) : (w.setCell ⟨b, i, none⟩ v).cell? ⟨b, j, none⟩ = w.cell? ⟨b, j, none⟩ := World.cell?_setCell_other w _ _ v (by intro e; cases e; exact h rfl)

set_option maxHeartbeats 1000000 in
set_option maxRecDepth 100000 in
theorem count_cut (b m : Nat) (free : Int) (off : Bool) (ops : Int) (w : World) (h : Box w b m free 0 off ops) :
    Calls Tryz.prog 71 #[.pointer (some ⟨b, 0, none⟩)] w fun e w' => e = .returned (.int .i64 5) ∧ Box w' b m free 0 true ops ∧ Kept (At b) w w' := by
  have c0 := h.c0
  have c1 := h.c1
  have c2 := h.c2
  have c3 := h.c3
  have c4 := h.c4
  have f0 := h.warm
  have HB := keep h
  clear h
  go_enter Tryz.func71, Tryz.ntmps71
  go_wp2
  go_ret
  refine ⟨rfl, HB.out.set3 true, (Kept.refl _ _).at_set _ _⟩
set_option maxHeartbeats 1000000 in
set_option maxRecDepth 100000 in
theorem count_none (b m : Nat) (free : Int) (off : Bool) (ops : Int) (w : World) (h : Box w b m free (-1) off ops) (h0 : 0 ≤ ops) (h1 : ops ≤ 4611686018427387904) :
    Calls Tryz.prog 71 #[.pointer (some ⟨b, 0, none⟩)] w fun e w' => e = .returned (.int .i64 0) ∧ Box w' b m free (-1) off (ops + 1) ∧ Kept (At b) w w' := by
  have ha := run_add1 w ⟨b, 4, none⟩ ops h.c4 (h.warm 4) h0 h1
  have c0 := h.c0
  have c1 := h.c1
  have c2 := h.c2
  have c3 := h.c3
  have c4 := h.c4
  have f0 := h.warm
  have HB := keep h
  clear h
  go_enter Tryz.func71, Tryz.ntmps71
  go_wp2
  go_ret
  refine ⟨rfl, HB.out.set4 _, (Kept.refl _ _).at_set _ _⟩
set_option maxHeartbeats 1000000 in
set_option maxRecDepth 100000 in
theorem count_some (b m : Nat) (free : Int) (k : Nat) (off : Bool) (ops : Int) (w : World) (h : Box w b m free ((k : Int) + 1) off ops) (hk : (k : Int) + 1 < 9223372036854775808) (h0 : 0 ≤ ops) (h1 : ops ≤ 4611686018427387904) :
    Calls Tryz.prog 71 #[.pointer (some ⟨b, 0, none⟩)] w fun e w' => e = .returned (.int .i64 0) ∧ Box w' b m free (k : Int) off (ops + 1) ∧ Kept (At b) w w' := by
  have ha := run_add1 (w.setCell ⟨b, 2, none⟩ (.int .i64 (k : Int))) ⟨b, 4, none⟩ ops ((h.set2 _).c4) ((h.set2 _).warm 4) h0 h1
  have e1 : ((k : Int) + 1 == 0) = false := by rw [beq_eq_false_iff_ne]; omega
  have e2 : ((k : Int) + 1 != -1) = true := by rw [bne_iff_ne]; omega
  have e3 : (k : Int) + 1 - 1 = (k : Int) := by omega
  have c0 := h.c0
  have c1 := h.c1
  have c2 := h.c2
  have c3 := h.c3
  have c4 := h.c4
  have f0 := h.warm
  have HB := keep h
  clear h
  go_enter Tryz.func71, Tryz.ntmps71
  go_wp2
  go_ret
  refine ⟨rfl, (HB.out.set2 _).set4 _, ((Kept.refl _ _).at_set _ _).at_set _ _⟩
set_option maxHeartbeats 1000000 in
set_option maxRecDepth 100000 in
theorem free_box (b m : Nat) (free left : Int) (off : Bool) (ops : Int) (w : World) (h : Box w b m free left off ops) :
    Calls Tryz.prog 51 #[.pointer (some ⟨b, 0, none⟩)] w fun e w' => e = .returned (.int .i64 free) ∧ Below w.heap.size w w' := by
  have c0 := h.c0
  have c1 := h.c1
  have c2 := h.c2
  have c3 := h.c3
  have c4 := h.c4
  have f0 := h.warm
  have HB := keep h
  clear h
  go_enter Tryz.func51, Tryz.ntmps51
  go_wp2_with fail
  refine (made_box b m _ (by first | exact c0 | simpa using c0)).mono ?_
  rintro e w1 ⟨rfl, rfl⟩
  go_wp2
  go_ret
  exact ⟨rfl, Below.refl _ _⟩
set_option maxHeartbeats 1000000 in
set_option maxRecDepth 100000 in
theorem ops_box (b m : Nat) (free left : Int) (off : Bool) (ops : Int) (w : World) (h : Box w b m free left off ops) :
    Calls Tryz.prog 12 #[.pointer (some ⟨b, 0, none⟩)] w fun e w' => e = .returned (.int .i64 ops) ∧ Below w.heap.size w w' := by
  have hl := run_load w ⟨b, 4, none⟩ ops h.c4
  have c0 := h.c0
  have c1 := h.c1
  have c2 := h.c2
  have c3 := h.c3
  have c4 := h.c4
  have f0 := h.warm
  have HB := keep h
  clear h
  go_enter Tryz.func12, Tryz.ntmps12
  go_wp2_with fail
  refine (made_box b m _ (by first | exact c0 | simpa using c0)).mono ?_
  rintro e w1 ⟨rfl, rfl⟩
  go_wp2
  go_ret
  exact ⟨rfl, Below.refl _ _⟩
set_option maxHeartbeats 1000000 in
set_option maxRecDepth 100000 in
theorem off_box (b m : Nat) (free left : Int) (off : Bool) (ops : Int) (w : World) (h : Box w b m free left off ops) :
    Calls Tryz.prog 50 #[.pointer (some ⟨b, 0, none⟩)] w fun e w' => e = .returned (.bool off) ∧ Below w.heap.size w w' := by
  have c0 := h.c0
  have c1 := h.c1
  have c2 := h.c2
  have c3 := h.c3
  have c4 := h.c4
  have f0 := h.warm
  have HB := keep h
  clear h
  go_enter Tryz.func50, Tryz.ntmps50
  go_wp2_with fail
  refine (made_box b m _ (by first | exact c0 | simpa using c0)).mono ?_
  rintro e w1 ⟨rfl, rfl⟩
  go_wp2
  go_ret
  exact ⟨rfl, Below.refl _ _⟩
end Go.Proofs.YthnebhddakfadaaGreatDoor
namespace Go.Proofs.YthnebhddakfadaaGreatDoor
open Go.RowKit

/-- Texts as records of one cell. -/
def strKind : Kind (List UInt8) where
  size := 1
  vals s := [.string ⟨s.toArray⟩]
  held _ _ := True
theorem strKind_ok : strKind.Ok :=
  ⟨by decide, fun _ => rfl, fun e u hu => by
    simp only [strKind, List.mem_cons, List.not_mem_nil, or_false] at hu
    subst hu
    rfl, fun _ _ => trivial⟩
/-- The error that a raw write has ahead of its own. -/
def ahead (off : Bool) (ns : List (List UInt8)) : Int := if ns.all Dk.named then (if off then 5 else 0) else 1

theorem strs_at {w : World} {ao : Option Addr} {n c : Nat} {ns : List (List UInt8)} (h : RSrc strKind w ao n c ns) (hn : 0 < n) : ∃ b off, ao = some ⟨b, off, none⟩ ∧ b < w.heap.size ∧ ∀ i s, ns[i]? = some s → w.cell? ⟨b, off + i, none⟩ = some (.string ⟨s.toArray⟩) := by
  obtain ⟨b, off, h1, h2, h3⟩ := h.form strKind_ok hn
  refine ⟨b, off, h1, h2, fun i s hs => ?_⟩
  have := h3 i s hs 0 _ rfl
  simpa [strKind] using this
theorem all_take_at {ns : List (List UInt8)} {t : Nat} {s : List UInt8} (hs : ns[t]? = some s) : (ns.take (t + 1)).all Dk.named = ((ns.take t).all Dk.named && Dk.named s) := by
  rw [List.take_add_one, hs]
  simp
theorem all_bad {ns : List (List UInt8)} {t : Nat} {s : List UInt8} (hs : ns[t]? = some s) (h : Dk.named s = false) : ns.all Dk.named = false := by
  rw [List.all_eq_false]
  exact ⟨s, List.mem_of_getElem? hs, by simp [h]⟩

set_option maxHeartbeats 1000000 in
set_option maxRecDepth 100000 in
theorem ready_box (b m : Nat) (free left : Int) (off : Bool) (ops : Int) (ao : Option Addr) (n c : Nat) (ns : List (List UInt8)) (w : World) (h : Box w b m free left off ops) (hs : RSrc strKind w ao n c ns) (hn : n ≤ 4611686018427387904) :
    Calls Tryz.prog 69 #[.pointer (some ⟨b, 0, none⟩), .slice ao n c] w fun e w' => e = .returned (.int .i64 (ahead off ns)) ∧ Below w.heap.size w w' := by
  have HB := keep h
  have HS := keep hs
  have c0 := h.c0
  clear h hs
  go_enter Tryz.func69, Tryz.ntmps69
  go_wp2_with fail
  refine (made_box b m _ c0).mono ?_
  rintro e w1 ⟨rfl, rfl⟩
  go_wp2_with fail
  go_loopw [12] (fun i wr => ∃ t : Nat, t ≤ n ∧ i = .int .i64 (t : Int) ∧ Hid ((ns.take t).all Dk.named = true) ∧ Hid (Below w1.heap.size w1 wr)) (fun i _ => n - (intOf i).toNat)
  case atStart => exact ⟨0, Nat.zero_le _, rfl, by exact rfl, Below.refl _ _⟩
  case round =>
    obtain ⟨t, ht, rfl, hd, hb⟩ := hrel
    have hlen := keep HS.out.len
    rcases Nat.lt_or_ge t n with hlt | hge
    · obtain ⟨bb, off2, rfl, hbl, hat⟩ := strs_at HS.out (by omega)
      obtain ⟨s, hs⟩ : ∃ s, ns[t]? = some s := ⟨ns[t]'(by rw [hlen.out]; exact hlt), List.getElem?_eq_getElem _⟩
      have hcell : wr.cell? ⟨bb, off2 + t, none⟩ = some (.string ⟨s.toArray⟩) := by
        rw [hb.out.cell (p := ⟨bb, off2 + t, none⟩) hbl]; exact hat t s hs
      clear hat
      have HS2 := keep hs
      clear hs
      have i1 : (t : Int) < (n : Int) := by omega
      have i0 : (0 : Int) ≤ (t : Int) := by omega
      go_wp2_with fail
      refine (maybe_any s _).mono ?_
      rintro e w2 ⟨rfl, hb2⟩
      have hb3 := keep (hb.out.trans (hb2.mono hb.out.size))
      cases hna : Dk.named s with
      | true =>
        have hd' : Hid ((ns.take (t + 1)).all Dk.named = true) := by
          show _ = _
          rw [all_take_at HS2.out, hd.out, hna]; rfl
        clear hb2
        go_wp2
        go_roundw
        case rel => exact ⟨t + 1, by omega, by first | rfl | go_num, hd', hb3⟩
        case measure => simp [intOf]; omega
      | false =>
        have hbad := keep (all_bad HS2.out hna)
        clear hb2
        go_wp2
        go_ret
        exact ⟨by unfold ahead; rw [hbad.out]; rfl, hb3.out⟩
    · obtain rfl : t = n := by omega
      have hall : Hid (ns.all Dk.named = true) := by
        have := hd.out
        rw [List.take_of_length_le (by rw [hlen.out]; exact Nat.le_refl _)] at this
        exact this
      have c3 : wr.cell? ⟨b, 3, none⟩ = some (.bool off) := by rw [hb.out.cell (p := ⟨b, 3, none⟩) HB.out.lt]; exact HB.out.c3
      cases off with
      | true =>
        go_wp2
        go_ret
        exact ⟨by unfold ahead; rw [hall.out]; rfl, hb.out⟩
      | false =>
        go_wp2
        go_ret
        exact ⟨by unfold ahead; rw [hall.out]; rfl, hb.out⟩
end Go.Proofs.YthnebhddakfadaaGreatDoor
