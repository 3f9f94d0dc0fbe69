/- The walks of disk's count, Free, Ops, Off, Cut over the five cells. -/
/- The walk of disk's ready. -/
import Derived.Test.YtogphpejdnhnjaaGreatDoorLf
import Derived.Deep.QuietTactic
namespace Go.Proofs.YtogphpejdnhnjaaGreatDoor
open Go.RowKit

def At (b : Nat) (g : Nat) : Prop := g = b
theorem Kept.at_set {a w : World} {b : Nat} (h : Kept (At b) a w) (i : Nat) (v : Value) : Kept (At b) a (w.setCell ⟨b, i, none⟩ v) := Kept.setCell (p := ⟨b, i, none⟩) h (.inl rfl) v
theorem setCell_cell (w : World) (b i j : Nat) (v : Value) (h : i ≠ j) : (w.setCell ⟨b, i, none⟩ v).cell? ⟨b, j, none⟩ = w.cell? ⟨b, j, none⟩ := World.cell?_setCell_other w _ _ v (by intro e; cases e; exact h rfl)

set_option maxHeartbeats 1000000 in
set_option maxRecDepth 100000 in
theorem count_cut (b m : Nat) (free : Int) (off : Bool) (ops : Int) (w : World) (h : Box w b m free 0 off ops) :
    Calls Tryz.prog 201 #[.pointer (some ⟨b, 0, none⟩)] w fun e w' => e = .returned (.int .i64 5) ∧ Box w' b m free 0 true ops ∧ Kept (At b) w w' := by
  have c0 := h.c0
  have c1 := h.c1
  have c2 := h.c2
  have c3 := h.c3
  have c4 := h.c4
  have f0 := h.warm
  have HB := keep h
  clear h
  go_enter Tryz.func201, Tryz.ntmps201
  go_wp2
  go_ret
  refine ⟨rfl, HB.out.set3 true, (Kept.refl _ _).at_set _ _⟩
set_option maxHeartbeats 1000000 in
set_option maxRecDepth 100000 in
theorem count_none (b m : Nat) (free : Int) (off : Bool) (ops : Int) (w : World) (h : Box w b m free (-1) off ops) (h0 : 0 ≤ ops) (h1 : ops ≤ 4611686018427387904) :
    Calls Tryz.prog 201 #[.pointer (some ⟨b, 0, none⟩)] w fun e w' => e = .returned (.int .i64 0) ∧ Box w' b m free (-1) off (ops + 1) ∧ Kept (At b) w w' := by
  have ha := run_add1 w ⟨b, 4, none⟩ ops h.c4 (h.warm 4) h0 h1
  have c0 := h.c0
  have c1 := h.c1
  have c2 := h.c2
  have c3 := h.c3
  have c4 := h.c4
  have f0 := h.warm
  have HB := keep h
  clear h
  go_enter Tryz.func201, Tryz.ntmps201
  go_wp2
  go_ret
  refine ⟨rfl, HB.out.set4 _, (Kept.refl _ _).at_set _ _⟩
set_option maxHeartbeats 1000000 in
set_option maxRecDepth 100000 in
theorem count_some (b m : Nat) (free : Int) (k : Nat) (off : Bool) (ops : Int) (w : World) (h : Box w b m free ((k : Int) + 1) off ops) (hk : (k : Int) + 1 < 9223372036854775808) (h0 : 0 ≤ ops) (h1 : ops ≤ 4611686018427387904) :
    Calls Tryz.prog 201 #[.pointer (some ⟨b, 0, none⟩)] w fun e w' => e = .returned (.int .i64 0) ∧ Box w' b m free (k : Int) off (ops + 1) ∧ Kept (At b) w w' := by
  have ha := run_add1 (w.setCell ⟨b, 2, none⟩ (.int .i64 (k : Int))) ⟨b, 4, none⟩ ops ((h.set2 _).c4) ((h.set2 _).warm 4) h0 h1
  have e1 : ((k : Int) + 1 == 0) = false := by rw [beq_eq_false_iff_ne]; omega
  have e2 : ((k : Int) + 1 != -1) = true := by rw [bne_iff_ne]; omega
  have e3 : (k : Int) + 1 - 1 = (k : Int) := by omega
  have c0 := h.c0
  have c1 := h.c1
  have c2 := h.c2
  have c3 := h.c3
  have c4 := h.c4
  have f0 := h.warm
  have HB := keep h
  clear h
  go_enter Tryz.func201, Tryz.ntmps201
  go_wp2
  go_ret
  refine ⟨rfl, (HB.out.set2 _).set4 _, ((Kept.refl _ _).at_set _ _).at_set _ _⟩
end Go.Proofs.YtogphpejdnhnjaaGreatDoor
namespace Go.Proofs.YtogphpejdnhnjaaGreatDoor
open Go.RowKit

/-- Texts as records of one cell. -/
def strKind : Kind (List UInt8) where
  size := 1
  vals s := [.string ⟨s.toArray⟩]
  held _ _ := True
theorem strKind_ok : strKind.Ok :=
  ⟨by decide, fun _ => rfl, fun e u hu => by
    simp only [strKind, List.mem_cons, List.not_mem_nil, or_false] at hu
    subst hu
    rfl, fun _ _ => trivial⟩
/-- The error that a raw write has ahead of its own. -/
def ahead (off : Bool) (ns : List (List UInt8)) : Int := if ns.all Dk.named then (if off then 5 else 0) else 1

theorem strs_at {w : World} {ao : Option Addr} {n c : Nat} {ns : List (List UInt8)} (h : RSrc strKind w ao n c ns) (hn : 0 < n) : ∃ b off, ao = some ⟨b, off, none⟩ ∧ b < w.heap.size ∧ ∀ i s, ns[i]? = some s → w.cell? ⟨b, off + i, none⟩ = some (.string ⟨s.toArray⟩) := by
  obtain ⟨b, off, h1, h2, h3⟩ := h.form strKind_ok hn
  refine ⟨b, off, h1, h2, fun i s hs => ?_⟩
  have := h3 i s hs 0 _ rfl
  simpa [strKind] using this
theorem all_take_at {ns : List (List UInt8)} {t : Nat} {s : List UInt8} (hs : ns[t]? = some s) : (ns.take (t + 1)).all Dk.named = ((ns.take t).all Dk.named && Dk.named s) := by
  rw [List.take_add_one, hs]
  simp
theorem all_bad {ns : List (List UInt8)} {t : Nat} {s : List UInt8} (hs : ns[t]? = some s) (h : Dk.named s = false) : ns.all Dk.named = false := by
  rw [List.all_eq_false]
  exact ⟨s, List.mem_of_getElem? hs, by simp [h]⟩

set_option maxHeartbeats 1000000 in
set_option maxRecDepth 100000 in
theorem ready_box (b m : Nat) (free left : Int) (off : Bool) (ops : Int) (ao : Option Addr) (n c : Nat) (ns : List (List UInt8)) (w : World) (h : Box w b m free left off ops) (hs : RSrc strKind w ao n c ns) (hn : n ≤ 4611686018427387904) :
    Calls Tryz.prog 200 #[.pointer (some ⟨b, 0, none⟩), .slice ao n c] w fun e w' => e = .returned (.int .i64 (ahead off ns)) ∧ Below w.heap.size w w' := by
  have HB := keep h
  have HS := keep hs
  have c0 := h.c0
  clear h hs
  go_enter Tryz.func200, Tryz.ntmps200
  go_wp2_with fail
  refine (made_box b m _ c0).mono ?_
  rintro e w1 ⟨rfl, rfl⟩
  go_wp2_with fail
  go_loopw [12] (fun i wr => ∃ t : Nat, t ≤ n ∧ i = .int .i64 (t : Int) ∧ Hid ((ns.take t).all Dk.named = true) ∧ Hid (Below w1.heap.size w1 wr)) (fun i _ => n - (intOf i).toNat)
  case atStart => exact ⟨0, Nat.zero_le _, rfl, by exact rfl, Below.refl _ _⟩
  case round =>
    obtain ⟨t, ht, rfl, hd, hb⟩ := hrel
    have hlen := keep HS.out.len
    rcases Nat.lt_or_ge t n with hlt | hge
    · obtain ⟨bb, off2, rfl, hbl, hat⟩ := strs_at HS.out (by omega)
      obtain ⟨s, hs⟩ : ∃ s, ns[t]? = some s := ⟨ns[t]'(by rw [hlen.out]; exact hlt), List.getElem?_eq_getElem _⟩
      have hcell : wr.cell? ⟨bb, off2 + t, none⟩ = some (.string ⟨s.toArray⟩) := by
        rw [hb.out.cell (p := ⟨bb, off2 + t, none⟩) hbl]; exact hat t s hs
      clear hat
      have HS2 := keep hs
      clear hs
      have i1 : (t : Int) < (n : Int) := by omega
      have i0 : (0 : Int) ≤ (t : Int) := by omega
      go_wp2_with fail
      refine (maybe_any s _).mono ?_
      rintro e w2 ⟨rfl, hb2⟩
      have hb3 := keep (hb.out.trans (hb2.mono hb.out.size))
      cases hna : Dk.named s with
      | true =>
        have hd' : Hid ((ns.take (t + 1)).all Dk.named = true) := by
          show _ = _
          rw [all_take_at HS2.out, hd.out, hna]; rfl
        clear hb2
        go_wp2
        go_roundw
        case rel => exact ⟨t + 1, by omega, by first | rfl | go_num, hd', hb3⟩
        case measure => simp [intOf]; omega
      | false =>
        have hbad := keep (all_bad HS2.out hna)
        clear hb2
        go_wp2
        go_ret
        exact ⟨by unfold ahead; rw [hbad.out]; rfl, hb3.out⟩
    · obtain rfl : t = n := by omega
      have hall : Hid (ns.all Dk.named = true) := by
        have := hd.out
        rw [List.take_of_length_le (by rw [hlen.out]; exact Nat.le_refl _)] at this
        exact this
      have c3 : wr.cell? ⟨b, 3, none⟩ = some (.bool off) := by rw [hb.out.cell (p := ⟨b, 3, none⟩) HB.out.lt]; exact HB.out.c3
      cases off with
      | true =>
        go_wp2
        go_ret
        exact ⟨by unfold ahead; rw [hall.out]; rfl, hb.out⟩
      | false =>
        go_wp2
        go_ret
        exact ⟨by unfold ahead; rw [hall.out]; rfl, hb.out⟩
end Go.Proofs.YtogphpejdnhnjaaGreatDoor
