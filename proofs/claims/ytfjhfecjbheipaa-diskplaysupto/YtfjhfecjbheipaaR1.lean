/- The walks of the document's Has, Free, right, step, New, Cut. -/
import Derived.Test.YtfjhfecjbheipaaR0
import Derived.Deep.QuietTactic
import Derived.BigQuiet
namespace Go.Proofs.Ytfjhfecjbheipaa
open Go.RowKit
open Dk (File Disk)

set_option maxHeartbeats 1000000 in
set_option maxRecDepth 100000 in
theorem rhas_any (U : Nat → Prop) (q : Nat) (ao : Option Addr) (n c : Nat) (es : List Ent) (fs : List File) (nm : List UInt8) (w : World) (c1 : w.cell? ⟨q, 1, none⟩ = some (.slice ao n c)) (h : Rows4 U w ao n c es fs) (hn : n ≤ 1099511627776) :
    Calls Try.prog 28 #[.pointer (some ⟨q, 0, none⟩), .string ⟨nm.toArray⟩] w fun e w' => e = .returned (.bool (Dk.look fs nm).isSome) ∧ Below w.heap.size w w' := by
  have HR := keep h
  have HA := keep (rat_any U q ao n c es fs nm w c1 h hn)
  clear h
  go_enter Try.func28, Try.ntmps28
  go_wp2_with fail
  refine HA.out.mono ?_
  rintro e w1 ⟨he, hb⟩
  have HB := keep hb
  clear hb
  rcases he with ⟨h1, rfl⟩ | ⟨i, f, h1, h2, rfl⟩
  · have H1 := keep h1
    clear h1
    go_wp2
    go_ret
    exact ⟨by rw [H1.out]; rfl, HB.out⟩
  · have H2 := keep h2
    clear h1 h2
    have i0 : (0 : Int) ≤ (i : Int) := by omega
    go_wp2
    go_ret
    exact ⟨by rw [H2.out]; rfl, HB.out⟩
set_option maxHeartbeats 1000000 in
set_option maxRecDepth 100000 in
theorem rfree_any (U : Nat → Prop) (q : Nat) (N : Nat) (ao : Option Addr) (n c : Nat) (es : List Ent) (fs : List File) (w : World) (c0 : w.cell? ⟨q, 0, none⟩ = some (.int .i64 (N : Int))) (c1 : w.cell? ⟨q, 1, none⟩ = some (.slice ao n c)) (h : Rows4 U w ao n c es fs) (hn : n ≤ 1099511627776) (hN : N ≤ 1099511627776) (hu : Dk.used fs ≤ 2305843009213693952) :
    Calls Try.prog 10 #[.pointer (some ⟨q, 0, none⟩)] w fun e w' => e = .returned (.int .i64 ((N : Int) - (Dk.used fs : Int))) ∧ Below w.heap.size w w' := by
  have HR := keep h
  have HLEN := keep h.len
  have HU := keep hu
  clear h hu
  go_enter Try.func10, Try.ntmps10
  go_wp2_with fail
  go_loopw [3, 4] (fun v i wr => ∃ t : Nat, t ≤ n ∧ i = .int .i64 (t : Int) ∧ v = .int .i64 ((N : Int) - (Dk.used (fs.take t) : Int)) ∧ Hid (Below w.heap.size w wr)) (fun _ i _ => n - (intOf i).toNat)
  case atStart => exact ⟨0, Nat.zero_le _, rfl, by simp [Dk.used], Below.refl _ _⟩
  case round =>
    obtain ⟨t, ht, rfl, rfl, hb⟩ := hrel
    have cr := below_cell hb.out c1
    rcases Nat.lt_or_ge t n with hlt | hge
    · obtain ⟨f, hf⟩ : ∃ f, fs[t]? = some f := ⟨fs[t]'(by have := HLEN.out; omega), List.getElem?_eq_getElem _⟩
      obtain ⟨b, off, rfl, _, hat⟩ := (HR.out.below hb.out).at_ (by omega)
      obtain ⟨p, k, _, hc0, _, hc2⟩ := hat t f hf
      have j0 : (0 : Int) ≤ (t : Int) := by omega
      have j1 : (t : Int) < (n : Int) := by omega
      have hst : Dk.used (fs.take (t + 1)) = Dk.used (fs.take t) + (16 + f.name.length + f.bytes.length) := by
        rw [List.take_add_one, hf]
        exact Dk.used_snoc _ f
      have hle : ∀ k, Dk.used (fs.take k) ≤ Dk.used fs := fun k => by
        have h1 : ∀ (a b : List File), Dk.used a ≤ Dk.used (a ++ b) := fun a b => by
          induction a with
          | nil => simp [Dk.used]
          | cons x t ih => simp only [List.cons_append, Dk.used]; omega
        have h2 := h1 (fs.take k) (fs.drop k)
        rwa [List.take_append_drop] at h2
      have hl1 := hle (t + 1)
      have hU := HU.out
      obtain ⟨u, hu⟩ : ∃ u, Dk.used (fs.take t) = u := ⟨_, rfl⟩
      rw [hu] at hst ⊢
      have HS := keep hst
      have b1 : u + (16 + f.name.length + f.bytes.length) ≤ 2305843009213693952 := by omega
      clear hat hf hst hle hl1 hU hu
      obtain ⟨x, hx⟩ : ∃ x, f.name.length = x := ⟨_, rfl⟩
      obtain ⟨y, hy⟩ : ∃ y, f.bytes.length = y := ⟨_, rfl⟩
      rw [hx, hy] at b1 HS
      rw [hy] at hc2
      have hsz : (⟨f.name.toArray⟩ : ByteArray).size = x := hx
      clear hx hy
      go_wp2_with fail
      go_quiet (fail)
      have hb2 : Hid (Below w.heap.size w (wr.drewN nq)) := hb.out.trans (below_drewN _ _ _)
      go_wp2
      go_roundw
      case rel => exact ⟨t + 1, by omega, by first | rfl | go_num, by rw [HS.out]; simp; omega, hb2⟩
      case measure => simp [intOf]; omega
    · obtain rfl : t = n := by omega
      have hall : Hid (fs.take t = fs) := List.take_of_length_le (by have := HLEN.out; omega)
      go_wp2
      go_ret
      exact ⟨by rw [hall.out]; rfl, hb.out⟩
set_option maxHeartbeats 1000000 in
set_option maxRecDepth 100000 in
theorem rright_any (ok : Bool) (q : Nat) (N : Int) (v : Value) (done left : Int) (dark : Bool) (w : World) (h : RBox w q N v done left dark) : Calls Try.prog 50 #[.pointer (some ⟨q, 0, none⟩), .bool ok] w fun e w' => e = .returned (.int .i64 (if ok then (if dark then 5 else 0) else 1)) ∧ Below w.heap.size w w' := by
  have c3 := h.c3
  have c4 := h.c4
  have c2 := h.c2
  have f0 := h.warm
  have HB := keep h
  clear h
  cases ok
  all_goals cases dark
  all_goals (
  go_enter Try.func50, Try.ntmps50
  go_wp2
  go_ret
  exact ⟨rfl, Below.refl _ _⟩)
set_option maxHeartbeats 1000000 in
set_option maxRecDepth 100000 in
theorem rstep_cut (q : Nat) (N : Int) (v : Value) (done : Int) (dark : Bool) (w : World) (h : RBox w q N v done 0 dark) : Calls Try.prog 51 #[.pointer (some ⟨q, 0, none⟩)] w fun e w' => e = .returned (.bool false) ∧ RBox w' q N v done (-1) true ∧ Kept (At q) w w' := by
  have c3 := h.c3
  have c4 := h.c4
  have c2 := h.c2
  have f0 := h.warm
  have HB := keep h
  clear h
  go_enter Try.func51, Try.ntmps51
  go_wp2
  go_ret
  exact ⟨rfl, (HB.out.set4 true).set3 (-1), ((Kept.refl _ _).at_set _ _).at_set _ _⟩
set_option maxHeartbeats 1000000 in
set_option maxRecDepth 100000 in
theorem rstep_none (q : Nat) (N : Int) (v : Value) (done : Int) (dark : Bool) (w : World) (h : RBox w q N v done (-1) dark) (h0 : 0 ≤ done) (h1 : done ≤ 4611686018427387904) : Calls Try.prog 51 #[.pointer (some ⟨q, 0, none⟩)] w fun e w' => e = .returned (.bool true) ∧ RBox w' q N v (done + 1) (-1) dark ∧ Kept (At q) w w' := by
  have c3 := h.c3
  have c4 := h.c4
  have c2 := h.c2
  have f0 := h.warm
  have HB := keep h
  clear h
  go_enter Try.func51, Try.ntmps51
  go_wp2
  go_ret
  exact ⟨rfl, HB.out.set2 _, (Kept.refl _ _).at_set _ _⟩
set_option maxHeartbeats 1000000 in
set_option maxRecDepth 100000 in
theorem rstep_some (q : Nat) (N : Int) (v : Value) (done : Int) (k : Nat) (dark : Bool) (w : World) (h : RBox w q N v done ((k : Int) + 1) dark) (hk : (k : Int) + 1 < 9223372036854775808) (h0 : 0 ≤ done) (h1 : done ≤ 4611686018427387904) : Calls Try.prog 51 #[.pointer (some ⟨q, 0, none⟩)] w fun e w' => e = .returned (.bool true) ∧ RBox w' q N v (done + 1) (k : Int) dark ∧ Kept (At q) w w' := by
  have e1 : ((k : Int) + 1 == 0) = false := by rw [beq_eq_false_iff_ne]; omega
  have e2 : (0 : Int) < (k : Int) + 1 := by omega
  have e3 : (k : Int) + 1 - 1 = (k : Int) := by omega
  have c3 := h.c3
  have c4 := h.c4
  have c2 := h.c2
  have f0 := h.warm
  have HB := keep h
  clear h
  go_enter Try.func51, Try.ntmps51
  go_wp2
  go_ret
  exact ⟨rfl, (HB.out.set3 _).set2 _, ((Kept.refl _ _).at_set _ _).at_set _ _⟩
set_option maxHeartbeats 1000000 in
set_option maxRecDepth 100000 in
theorem rcut_neg (z : Int) (hz : z < 0) (q : Nat) (w : World) : Calls Try.prog 37 #[.pointer (some ⟨q, 0, none⟩), .int .i64 z] w fun e w' => e = .returned (.int .i64 1) ∧ Below w.heap.size w w' := by
  go_enter Try.func37, Try.ntmps37
  go_wp2
  go_ret
  exact ⟨rfl, Below.refl _ _⟩
set_option maxHeartbeats 1000000 in
set_option maxRecDepth 100000 in
theorem rcut_any (z : Int) (hz : ¬ z < 0) (q : Nat) (N : Int) (v : Value) (done left : Int) (dark : Bool) (w : World) (h : RBox w q N v done left dark) : Calls Try.prog 37 #[.pointer (some ⟨q, 0, none⟩), .int .i64 z] w fun e w' => e = .returned (.int .i64 0) ∧ RBox w' q N v done (if dark then left else z) dark ∧ Kept (At q) w w' := by
  have c3 := h.c3
  have c4 := h.c4
  have c2 := h.c2
  have f0 := h.warm
  have HB := keep h
  clear h
  cases dark
  · go_enter Try.func37, Try.ntmps37
    go_wp2
    go_ret
    exact ⟨rfl, HB.out.set3 _, (Kept.refl _ _).at_set _ _⟩
  · go_enter Try.func37, Try.ntmps37
    go_wp2
    go_ret
    exact ⟨rfl, HB.out, Kept.refl _ _⟩
set_option maxHeartbeats 1000000 in
set_option maxRecDepth 100000 in
theorem rnew_arg (cap : Int) (w : World) (h : cap < 0 ∨ 1099511627776 < cap) :
    Calls Try.prog 26 #[.int .i64 cap] w fun e w' => e = .returned (.tuple #[.pointer none, .int .i64 1]) ∧ Below w.heap.size w w' := by
  rcases Int.lt_or_le cap 0 with h1 | h1
  · clear h
    go_enter Try.func26, Try.ntmps26
    go_wp2
    go_ret2
    exact ⟨rfl, Below.refl _ _⟩
  · have h2 : 1099511627776 < cap := by omega
    clear h
    go_enter Try.func26, Try.ntmps26
    go_wp2
    go_ret2
    exact ⟨rfl, Below.refl _ _⟩
set_option maxHeartbeats 1000000 in
set_option maxRecDepth 100000 in
theorem rnew_raw (cap : Int) (w : World) (h0 : 0 ≤ cap) (h1 : cap ≤ 1099511627776) :
    Calls Try.prog 26 #[.int .i64 cap] w fun e w' => e = .returned (.tuple #[.pointer (some ⟨w.heap.size, 0, none⟩), .int .i64 0]) ∧ w' = w.alloc (.cells #[.int .i64 cap, .slice none 0 0, .int .i64 0, .int .i64 (-1), .bool false] 41) := by
  go_enter Try.func26, Try.ntmps26
  go_wp2
  go_ret2
  exact ⟨rfl, rfl⟩
end Go.Proofs.Ytfjhfecjbheipaa
