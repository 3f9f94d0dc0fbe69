/- The document's disk as it lies in memory; the walks of its Named, at, Has. -/
/- The walks of the document's Has, Free, right, step, New, Cut. -/
/- The walks of the document's put and drop. -/
/- The document's disk and its plain files; the walk of its step; what its raw writes leave; no other walk. -/
import Derived.Test.YthnebhddakfadaaGreatDoorJoinOi
import Derived.Deep.QuietTactic
import Derived.BigQuiet
import Derived.Test.YthnebhddakfadaaGreatDoorJoinDp
namespace Go.Proofs.YthnebhddakfadaaGreatDoor
open Go.RowKit
open Dk (File Disk)

/-- The five cells of the document's disk. -/
def RBox (w : World) (q : Nat) (N : Int) (v : Value) (done left : Int) (dark : Bool) : Prop :=
  w.heap[q]? = some (.cells #[.int .i64 N, v, .int .i64 done, .int .i64 left, .bool dark] 41 (0, 0))
section
variable {w : World} {q : Nat} {N : Int} {v : Value} {done left : Int} {dark : Bool}
theorem RBox.c0 (h : RBox w q N v done left dark) : w.cell? ⟨q, 0, none⟩ = some (.int .i64 N) := cell_of_row _ _ _ _ _ _ h
theorem RBox.c1 (h : RBox w q N v done left dark) : w.cell? ⟨q, 1, none⟩ = some v := cell_of_row _ _ _ _ _ _ h
theorem RBox.c2 (h : RBox w q N v done left dark) : w.cell? ⟨q, 2, none⟩ = some (.int .i64 done) := cell_of_row _ _ _ _ _ _ h
theorem RBox.c3 (h : RBox w q N v done left dark) : w.cell? ⟨q, 3, none⟩ = some (.int .i64 left) := cell_of_row _ _ _ _ _ _ h
theorem RBox.c4 (h : RBox w q N v done left dark) : w.cell? ⟨q, 4, none⟩ = some (.bool dark) := cell_of_row _ _ _ _ _ _ h
theorem RBox.warm (h : RBox w q N v done left dark) (i : Nat) : w.frozen? ⟨q, i, none⟩ = false := by unfold RBox at h; simp [World.frozen?, h]
theorem RBox.lt (h : RBox w q N v done left dark) : q < w.heap.size := (Array.getElem?_eq_some_iff.1 h).1
theorem RBox.same {w' : World} (h : RBox w q N v done left dark) (hb : w'.heap[q]? = w.heap[q]?) : RBox w' q N v done left dark := hb.trans h
theorem RBox.set1 (h : RBox w q N v done left dark) (x : Value) : RBox (w.setCell ⟨q, 1, none⟩ x) q N x done left dark := set_row h 1 _
theorem RBox.set2 (h : RBox w q N v done left dark) (x : Int) : RBox (w.setCell ⟨q, 2, none⟩ (.int .i64 x)) q N v x left dark := set_row h 2 _
theorem RBox.set3 (h : RBox w q N v done left dark) (x : Int) : RBox (w.setCell ⟨q, 3, none⟩ (.int .i64 x)) q N v done x dark := set_row h 3 _
theorem RBox.set4 (h : RBox w q N v done left dark) (x : Bool) : RBox (w.setCell ⟨q, 4, none⟩ (.bool x)) q N v done left x := set_row h 4 _
end
/-- What a call on the document's disk at q turns, and what others may turn beside it. -/
def beside (F : Nat → Prop) (q : Nat) (g : Nat) : Prop := F g ∨ g = q
/-- Rows of files, whatever becomes of the blocks of U. -/
structure Rows4 (U : Nat → Prop) (w : World) (ao : Option Addr) (n c : Nat) (es : List Ent) (fs : List File) : Prop where
  rows : Steady U w fun w => RSrc fileKind w ao n c es
  same : es.map plainE = fs.map plainF
  len : n = fs.length
theorem Rows4.here {U : Nat → Prop} {w : World} {ao : Option Addr} {n c : Nat} {es : List Ent} {fs : List File} (h : Rows4 U w ao n c es fs) : RSrc fileKind w ao n c es := h.rows.here
theorem Rows4.next {U : Nat → Prop} {w w' : World} {ao : Option Addr} {n c : Nat} {es : List Ent} {fs : List File} (h : Rows4 U w ao n c es fs) (hk : Kept U w w') : Rows4 U w' ao n c es fs := ⟨h.rows.next hk, h.same, h.len⟩
theorem Rows4.below {U : Nat → Prop} {w w' : World} {ao : Option Addr} {n c : Nat} {es : List Ent} {fs : List File} (h : Rows4 U w ao n c es fs) (hk : Below w.heap.size w w') : Rows4 U w' ao n c es fs := h.next (Kept.of_below hk)
theorem plain_at {es : List Ent} {fs : List File} (h : es.map plainE = fs.map plainF) {i : Nat} {f : File} (hf : fs[i]? = some f) : ∃ e, es[i]? = some e ∧ e.name = f.name ∧ e.safe = (f.safe : Int) ∧ e.bytes = f.bytes := by
  have h1 := congrArg (fun l => l[i]?) h
  simp only [List.getElem?_map, hf, Option.map_some] at h1
  cases he : es[i]? with
  | none => rw [he] at h1; cases h1
  | some e =>
    rw [he] at h1
    simp only [Option.map_some, Option.some.injEq, plainE, plainF, Prod.mk.injEq] at h1
    exact ⟨e, rfl, h1.1, h1.2.1, h1.2.2⟩
/-- The i-th file's cells. -/
theorem Rows4.at_ {U : Nat → Prop} {w : World} {ao : Option Addr} {n c : Nat} {es : List Ent} {fs : List File} (h : Rows4 U w ao n c es fs) (hn : 0 < n) : ∃ b off, ao = some ⟨b, off, none⟩ ∧ b < w.heap.size ∧ ∀ i f, fs[i]? = some f → ∃ p k, es[i]? = some ⟨f.name, (f.safe : Int), p, k, f.bytes⟩ ∧
    w.cell? ⟨b, off + i * 3, none⟩ = some (.string ⟨f.name.toArray⟩) ∧ w.cell? ⟨b, off + i * 3 + 1, none⟩ = some (.int .i64 (f.safe : Int)) ∧ w.cell? ⟨b, off + i * 3 + 2, none⟩ = some (.slice p f.bytes.length k) := by
  obtain ⟨b, off, h1, h2, h3⟩ := h.here.form fileKind_ok hn
  refine ⟨b, off, h1, h2, fun i f hf => ?_⟩
  obtain ⟨e, he, q1, q2, q3⟩ := plain_at h.same hf
  obtain ⟨nm, sf, p, k, bs⟩ := e
  simp only at q1 q2 q3
  subst q1 q2 q3
  refine ⟨p, k, he, ?_, ?_, ?_⟩
  · have := h3 i _ he 0 _ rfl
    simpa [fileKind] using this
  · have := h3 i _ he 1 _ rfl
    simpa [fileKind, Nat.add_assoc] using this
  · have := h3 i _ he 2 _ rfl
    simpa [fileKind, Nat.add_assoc] using this

set_option maxHeartbeats 1000000 in
set_option maxRecDepth 100000 in
theorem rnamed_any (s : List UInt8) (w : World) : Calls Tryz.prog 76 #[.string ⟨s.toArray⟩] w fun e w' => e = .returned (.bool (Dk.named s)) ∧ Below w.heap.size w w' := by
  go_enter Tryz.func76, Tryz.ntmps76
  rcases Nat.lt_or_ge s.length 1 with h1 | h1
  · have i1 : (s.length : Int) < 1 := by omega
    go_wp2
    go_ret
    exact ⟨by unfold Dk.named; rw [decide_eq_false (by omega)]; rfl, Below.refl _ _⟩
  · have i1 : ¬ (s.length : Int) < 1 := by omega
    rcases Nat.lt_or_ge 100 s.length with h2 | h2
    · have i2 : 100 < (s.length : Int) := by omega
      go_wp2
      go_ret
      exact ⟨by unfold Dk.named; rw [decide_eq_false (show ¬ s.length ≤ 100 by omega), Bool.and_false]; rfl, Below.refl _ _⟩
    · have i2 : ¬ 100 < (s.length : Int) := by omega
      go_wp2
      go_loop [3] (fun i => ∃ t : Nat, t ≤ s.length ∧ i = .int .i64 (t : Int) ∧ Hid ((s.take t).all (fun b => !(b == 0)) = true)) (fun i => s.length - (intOf i).toNat)
      case atStart => exact ⟨0, Nat.zero_le _, rfl, by exact rfl⟩
      case round =>
        obtain ⟨t, ht, rfl, hd⟩ := hrel
        rcases Nat.lt_or_ge t s.length with hlt | hge
        · have j0 : (0 : Int) ≤ (t : Int) := by omega
          have j1 : (t : Int) < (s.length : Int) := by omega
          have hst : s[t]? = some s[t] := List.getElem?_eq_getElem hlt
          go_wp2_with fail
          · rename_i hz _
            have hz0 : s[t] = 0 := by
              have h3 : (((s[t]).toNat : Int) == 0) = true := hz
              rw [beq_iff_eq] at h3
              exact UInt8.toNat_inj.1 (by rw [show (0 : UInt8).toNat = 0 from rfl]; omega)
            go_ret
            refine ⟨?_, Below.refl _ _⟩
            unfold Dk.named
            rw [show s.all (fun b => !(b == 0)) = false from List.all_eq_false.2 ⟨s[t], List.getElem_mem hlt, by simp [hz0]⟩, Bool.and_false]
            rfl
          · rename_i hz
            have hz0 : s[t] ≠ 0 := fun e => by
              have h3 : (((s[t]).toNat : Int) == 0) = false := hz
              rw [e] at h3
              simp at h3
            refine ⟨⟨t + 1, by omega, by first | rfl | go_num, ?_⟩, by simp [intOf]; omega⟩
            show _ = _
            rw [List.take_add_one, hst, List.all_append, hd.out]
            simpa using hz0
        · obtain rfl : t = s.length := by omega
          have hall := hd.out
          rw [List.take_of_length_le (Nat.le_refl _)] at hall
          have HA := keep hall
          clear hall
          go_wp2
          go_ret
          refine ⟨?_, Below.refl _ _⟩
          unfold Dk.named
          rw [HA.out, decide_eq_true h1, decide_eq_true h2]
          rfl
theorem look_take_none {fs : List File} {t : Nat} {f : File} {nm : List UInt8} (hf : fs[t]? = some f) (h : Dk.look (fs.take t) nm = none) (hn : ¬ f.name = nm) : Dk.look (fs.take (t + 1)) nm = none := by
  rw [List.take_add_one, hf]
  exact (Dk.look_snoc _ f nm h).trans (if_neg hn)
set_option maxHeartbeats 1000000 in
set_option maxRecDepth 100000 in
theorem rat_any (U : Nat → Prop) (q : Nat) (ao : Option Addr) (n c : Nat) (es : List Ent) (fs : List File) (nm : List UInt8) (w : World) (c1 : w.cell? ⟨q, 1, none⟩ = some (.slice ao n c)) (h : Rows4 U w ao n c es fs) (hn : n ≤ 1099511627776) :
    Calls Tryz.prog 118 #[.pointer (some ⟨q, 0, none⟩), .string ⟨nm.toArray⟩] w fun e w' => ((Dk.look fs nm = none ∧ e = .returned (.int .i64 (-1))) ∨ (∃ (i : Nat) (f : File), fs[i]? = some f ∧ Dk.look fs nm = some f ∧ e = .returned (.int .i64 (i : Int)))) ∧ Below w.heap.size w w' := by
  have HR := keep h
  have hlen := h.len
  clear h
  go_enter Tryz.func118, Tryz.ntmps118
  go_wp2_with fail
  go_loopw [5] (fun i wr => ∃ t : Nat, t ≤ n ∧ i = .int .i64 (t : Int) ∧ Hid (Dk.look (fs.take t) nm = none) ∧ Hid (Below w.heap.size w wr)) (fun i _ => n - (intOf i).toNat)
  case atStart => exact ⟨0, Nat.zero_le _, rfl, by exact rfl, Below.refl _ _⟩
  case round =>
    obtain ⟨t, ht, rfl, hd, hb⟩ := hrel
    have cr := below_cell hb.out c1
    rcases Nat.lt_or_ge t n with hlt | hge
    · obtain ⟨f, hf⟩ : ∃ f, fs[t]? = some f := ⟨fs[t]'(by omega), List.getElem?_eq_getElem _⟩
      obtain ⟨b, off, rfl, _, hat⟩ := (HR.out.below hb.out).at_ (by omega)
      obtain ⟨p, k, _, hc0, _, _⟩ := hat t f hf
      have j0 : (0 : Int) ≤ (t : Int) := by omega
      have j1 : (t : Int) < (n : Int) := by omega
      have HF := keep hf
      clear hat hf
      by_cases hn2 : f.name = nm
      · have e2 : (f.name == nm) = true := by simpa using hn2
        have hl := keep (Dk.look_take_some HF.out hd.out hn2)
        clear hn2
        go_wp2
        go_ret
        exact ⟨.inr ⟨t, f, HF.out, hl.out, rfl⟩, hb.out⟩
      · have e2 : (f.name == nm) = false := by simpa using hn2
        have hl := keep (look_take_none HF.out hd.out hn2)
        clear hn2
        go_wp2
        go_roundw
        case rel => exact ⟨t + 1, by omega, by first | rfl | go_num, hl, hb⟩
        case measure => simp [intOf]; omega
    · obtain rfl : t = n := by omega
      have hall : Hid (Dk.look fs nm = none) := by
        have := hd.out
        rwa [List.take_of_length_le (by omega)] at this
      go_wp2
      go_ret
      exact ⟨.inl ⟨hall.out, rfl⟩, hb.out⟩
end Go.Proofs.YthnebhddakfadaaGreatDoor
namespace Go.Proofs.YthnebhddakfadaaGreatDoor
open Go.RowKit
open Dk (File Disk)

set_option maxHeartbeats 1000000 in
set_option maxRecDepth 100000 in
theorem rhas_any (U : Nat → Prop) (q : Nat) (ao : Option Addr) (n c : Nat) (es : List Ent) (fs : List File) (nm : List UInt8) (w : World) (c1 : w.cell? ⟨q, 1, none⟩ = some (.slice ao n c)) (h : Rows4 U w ao n c es fs) (hn : n ≤ 1099511627776) :
    Calls Tryz.prog 77 #[.pointer (some ⟨q, 0, none⟩), .string ⟨nm.toArray⟩] w fun e w' => e = .returned (.bool (Dk.look fs nm).isSome) ∧ Below w.heap.size w w' := by
  have HR := keep h
  have HA := keep (rat_any U q ao n c es fs nm w c1 h hn)
  clear h
  go_enter Tryz.func77, Tryz.ntmps77
  go_wp2_with fail
  refine HA.out.mono ?_
  rintro e w1 ⟨he, hb⟩
  have HB := keep hb
  clear hb
  rcases he with ⟨h1, rfl⟩ | ⟨i, f, h1, h2, rfl⟩
  · have H1 := keep h1
    clear h1
    go_wp2
    go_ret
    exact ⟨by rw [H1.out]; rfl, HB.out⟩
  · have H2 := keep h2
    clear h1 h2
    have i0 : (0 : Int) ≤ (i : Int) := by omega
    go_wp2
    go_ret
    exact ⟨by rw [H2.out]; rfl, HB.out⟩
set_option maxHeartbeats 1000000 in
set_option maxRecDepth 100000 in
theorem rfree_any (U : Nat → Prop) (q : Nat) (N : Nat) (ao : Option Addr) (n c : Nat) (es : List Ent) (fs : List File) (w : World) (c0 : w.cell? ⟨q, 0, none⟩ = some (.int .i64 (N : Int))) (c1 : w.cell? ⟨q, 1, none⟩ = some (.slice ao n c)) (h : Rows4 U w ao n c es fs) (hn : n ≤ 1099511627776) (hN : N ≤ 1099511627776) (hu : Dk.used fs ≤ 2305843009213693952) :
    Calls Tryz.prog 79 #[.pointer (some ⟨q, 0, none⟩)] w fun e w' => e = .returned (.int .i64 ((N : Int) - (Dk.used fs : Int))) ∧ Below w.heap.size w w' := by
  have HR := keep h
  have HLEN := keep h.len
  have HU := keep hu
  clear h hu
  go_enter Tryz.func79, Tryz.ntmps79
  go_wp2_with fail
  go_loopw [3, 4] (fun v i wr => ∃ t : Nat, t ≤ n ∧ i = .int .i64 (t : Int) ∧ v = .int .i64 ((N : Int) - (Dk.used (fs.take t) : Int)) ∧ Hid (Below w.heap.size w wr)) (fun _ i _ => n - (intOf i).toNat)
  case atStart => exact ⟨0, Nat.zero_le _, rfl, by simp [Dk.used], Below.refl _ _⟩
  case round =>
    obtain ⟨t, ht, rfl, rfl, hb⟩ := hrel
    have cr := below_cell hb.out c1
    rcases Nat.lt_or_ge t n with hlt | hge
    · obtain ⟨f, hf⟩ : ∃ f, fs[t]? = some f := ⟨fs[t]'(by have := HLEN.out; omega), List.getElem?_eq_getElem _⟩
      obtain ⟨b, off, rfl, _, hat⟩ := (HR.out.below hb.out).at_ (by omega)
      obtain ⟨p, k, _, hc0, _, hc2⟩ := hat t f hf
      have j0 : (0 : Int) ≤ (t : Int) := by omega
      have j1 : (t : Int) < (n : Int) := by omega
      have hst : Dk.used (fs.take (t + 1)) = Dk.used (fs.take t) + (16 + f.name.length + f.bytes.length) := by
        rw [List.take_add_one, hf]
        exact Dk.used_snoc _ f
      have hle : ∀ k, Dk.used (fs.take k) ≤ Dk.used fs := fun k => by
        have h1 : ∀ (a b : List File), Dk.used a ≤ Dk.used (a ++ b) := fun a b => by
          induction a with
          | nil => simp [Dk.used]
          | cons x t ih => simp only [List.cons_append, Dk.used]; omega
        have h2 := h1 (fs.take k) (fs.drop k)
        rwa [List.take_append_drop] at h2
      have hl1 := hle (t + 1)
      have hU := HU.out
      obtain ⟨u, hu⟩ : ∃ u, Dk.used (fs.take t) = u := ⟨_, rfl⟩
      rw [hu] at hst ⊢
      have HS := keep hst
      have b1 : u + (16 + f.name.length + f.bytes.length) ≤ 2305843009213693952 := by omega
      clear hat hf hst hle hl1 hU hu
      obtain ⟨x, hx⟩ : ∃ x, f.name.length = x := ⟨_, rfl⟩
      obtain ⟨y, hy⟩ : ∃ y, f.bytes.length = y := ⟨_, rfl⟩
      rw [hx, hy] at b1 HS
      rw [hy] at hc2
      have hsz : (⟨f.name.toArray⟩ : ByteArray).size = x := hx
      clear hx hy
      go_wp2_with fail
      go_quiet (fail)
      have hb2 : Hid (Below w.heap.size w (wr.drewN nq)) := hb.out.trans (below_drewN _ _ _)
      go_wp2
      go_roundw
      case rel => exact ⟨t + 1, by omega, by first | rfl | go_num, by rw [HS.out]; simp; omega, hb2⟩
      case measure => simp [intOf]; omega
    · obtain rfl : t = n := by omega
      have hall : Hid (fs.take t = fs) := List.take_of_length_le (by have := HLEN.out; omega)
      go_wp2
      go_ret
      exact ⟨by rw [hall.out]; rfl, hb.out⟩
set_option maxHeartbeats 1000000 in
set_option maxRecDepth 100000 in
theorem rnew_arg (cap : Int) (w : World) (h : cap < 0 ∨ 1099511627776 < cap) :
    Calls Tryz.prog 75 #[.int .i64 cap] w fun e w' => e = .returned (.tuple #[.pointer none, .int .i64 1]) ∧ Below w.heap.size w w' := by
  rcases Int.lt_or_le cap 0 with h1 | h1
  · clear h
    go_enter Tryz.func75, Tryz.ntmps75
    go_wp2
    go_ret2
    exact ⟨rfl, Below.refl _ _⟩
  · have h2 : 1099511627776 < cap := by omega
    clear h
    go_enter Tryz.func75, Tryz.ntmps75
    go_wp2
    go_ret2
    exact ⟨rfl, Below.refl _ _⟩
set_option maxHeartbeats 1000000 in
set_option maxRecDepth 100000 in
theorem rnew_raw (cap : Int) (w : World) (h0 : 0 ≤ cap) (h1 : cap ≤ 1099511627776) :
    Calls Tryz.prog 75 #[.int .i64 cap] w fun e w' => e = .returned (.tuple #[.pointer (some ⟨w.heap.size, 0, none⟩), .int .i64 0]) ∧ w' = w.alloc (.cells #[.int .i64 cap, .slice none 0 0, .int .i64 0, .int .i64 (-1), .bool false] 41) := by
  go_enter Tryz.func75, Tryz.ntmps75
  go_wp2
  go_ret2
  exact ⟨rfl, rfl⟩
end Go.Proofs.YthnebhddakfadaaGreatDoor
namespace Go.Proofs.YthnebhddakfadaaGreatDoor
open Go.RowKit
open Dk (File Disk)

theorem op_less : ∀ a b : List UInt8, Op.bytesLess a b = less a b
  | _, [] => by cases ‹List UInt8› <;> rfl
  | [], _ :: _ => rfl
  | a :: x, b :: y => by
    have ih := op_less x y
    simp only [Op.bytesLess, less, ih]
theorem infoR : (Tryz.prog.info? 27).map (fun i => (i.zero, i.size, i.bytes)) = some (some (.agg #[.string ⟨#[]⟩, .int .i64 0, .slice none 0 0]), 3, 48) := by kernel_rfl
/-- Rows of files that a call has begun: those of fs, their bytes where they were. -/
structure Begun (U : Nat → Prop) (w wr : World) (v : Value) (fs : List File) (es : List Ent) : Prop where
  own : wr.ownsRow w.heap.size 27 3 v fs.length (rv fileKind es)
  held : ∀ e ∈ es, Steady U w fun w => fileKind.held w e
  same : es.map plainE = fs.map plainF
  bel : Below w.heap.size w wr
theorem Begun.nil (U : Nat → Prop) (w wr : World) (h : Below w.heap.size w wr) : Begun U w wr (.slice none 0 0) [] [] := ⟨World.ownsRow_nil _ _ _ _, (fun _ h => by cases h), rfl, h⟩
/-- One file more. -/
theorem Begun.more {U : Nat → Prop} {w wr w' w5 : World} {v v5 : Value} {fs : List File} {es : List Ent} (h : Begun U w wr v fs es) (hb : Below wr.heap.size wr w') {f : File} {e : Ent} (he : Steady U w fun w => fileKind.held w e) (hp : plainE e = plainF f)
    (ho : w5.ownsRow w.heap.size 27 3 v5 (fs.length + 1) (rv fileKind (es ++ [e]))) (hg : w'.grownBy w5 v.ownBlock) : Begun U w w5 v5 (fs ++ [f]) (es ++ [e]) :=
  ⟨by rw [List.length_append]; exact ho, fun x hx => by
    rcases List.mem_append.1 hx with h1 | h1
    · exact h.held x h1
    · rw [List.mem_singleton] at h1; subst h1; exact he, by rw [List.map_append, List.map_append, h.same, List.map_cons, hp]; rfl,
    (h.bel.trans (hb.mono h.bel.size)).grown hg (Nat.le_trans h.bel.size hb.size) (fun g hg => (h.own.lt g hg).1)⟩
/-- At its end it is rows of files. -/
theorem Begun.rows {U : Nat → Prop} {w wr w' : World} {v : Value} {fs : List File} {es : List Ent} (h : Begun U w wr v fs es) (hU : ∀ g, U g → g < w.heap.size) (hk : Kept U wr w') : ∃ ao c, v = .slice ao fs.length c ∧ Rows4 U w' ao fs.length c es fs := by
  obtain ⟨ao, c, rfl, _, _⟩ := RSrc.own fileKind_ok h.own (fun e he => h.held e he wr (Kept.of_below h.bel))
  refine ⟨ao, c, rfl, ⟨fun w2 hk2 => ?_, h.same, rfl⟩⟩
  obtain ⟨ao', c', e, hr, _⟩ := RSrc.own fileKind_ok (own_steady h.own hU w2 (hk.trans hk2)) (fun e he => h.held e he w2 ((Kept.of_below h.bel).trans (hk.trans hk2)))
  cases e
  exact hr
theorem Rows4.held {U : Nat → Prop} {w : World} {ao : Option Addr} {n c : Nat} {es : List Ent} {fs : List File} (h : Rows4 U w ao n c es fs) {e : Ent} (he : e ∈ es) : Steady U w fun w => fileKind.held w e := fun w' hk => (h.rows w' hk).held e he

set_option maxHeartbeats 1000000 in
set_option maxRecDepth 100000 in
theorem rput_any (U : Nat → Prop) (q : Nat) (N : Int) (ao : Option Addr) (n c : Nat) (es : List Ent) (fs : List File) (done left : Int) (dark : Bool) (gn : List UInt8) (gs : Nat) (gp : Option Addr) (gk : Nat) (gb : List UInt8) (w : World) (hb : RBox w q N (.slice ao n c) done left dark) (h : Rows4 U w ao n c es fs) (hn : n ≤ 1099511627776) (hq : U q) (hU : ∀ g, U g → g < w.heap.size) (hr : Dk.Rising fs) (hh : Steady U w fun w => Src w gp gb.length gk gb) :
    Calls Tryz.prog 78 #[.pointer (some ⟨q, 0, none⟩), .agg #[.string ⟨gn.toArray⟩, .int .i64 (gs : Int), .slice gp gb.length gk]] w fun e w' => e = .returned (.tuple #[]) ∧ (∃ ao' c' es', RBox w' q N (.slice ao' (Dk.put fs ⟨gn, gs, gb⟩).length c') done left dark ∧ Rows4 U w' ao' (Dk.put fs ⟨gn, gs, gb⟩).length c' es' (Dk.put fs ⟨gn, gs, gb⟩)) ∧ Kept (At q) w w' := by
  have HR := keep h
  have HB := keep hb
  have HLEN := keep h.len
  have HH := keep hh
  have HRI := keep hr
  have c1 := hb.c1
  obtain ⟨i0, hi, hz0, hz1, hz2⟩ := info_parts3 infoR
  clear h hb hh hr
  go_enter Tryz.func78, Tryz.ntmps78
  go_wp2_with fail
  have hW : ∃ W0, w.alloc (.cells #[.string ⟨gn.toArray⟩, .int .i64 (gs : Int), .slice gp gb.length gk] 27) = W0 := ⟨_, rfl⟩
  obtain ⟨W0, hW⟩ := hW
  rw [hW]
  have hb0 : Below w.heap.size w W0 := by rw [← hW]; exact (Below.refl _ _).alloc (Nat.le_refl _) _
  have g0 : W0.heap[w.heap.size]? = some (.cells #[.string ⟨gn.toArray⟩, .int .i64 (gs : Int), .slice gp gb.length gk] 27) := by rw [← hW]; exact heap_alloc_new w _
  have G0 := keep g0
  have HB0 := keep hb0
  have hsz : w.heap.size < W0.heap.size := (Array.getElem?_eq_some_iff.1 g0).1
  clear g0 hb0 hW
  have HHE : Hid (Steady U W0 fun w => fileKind.held w (⟨gn, (gs : Int), gp, gk, gb⟩ : Ent)) := fun w' hk' => HH.out w' ((Kept.of_below HB0.out).trans hk')
  go_loopw [4, 5, 6] (fun v dn i wr => ∃ (t : Nat) (es' : List Ent), t ≤ n ∧ i = .int .i64 (t : Int) ∧
      ((dn = .bool false ∧ Hid (∀ g ∈ fs.take t, less g.name gn = true) ∧ Hid (Begun U W0 wr v (fs.take t) es')) ∨ (dn = .bool true ∧ Hid (∃ g ∈ fs.take t, less g.name gn = false) ∧ Hid (Begun U W0 wr v (Dk.put (fs.take t) ⟨gn, gs, gb⟩) es')))) (fun _ _ i _ => n - (intOf i).toNat)
  case atStart => exact ⟨0, [], Nat.zero_le _, rfl, .inl ⟨rfl, (fun g hg => by simp at hg), Begun.nil U W0 W0 (Below.refl _ _)⟩⟩
  case round =>
    obtain ⟨t, es', ht, rfl, hcase⟩ := hrel
    obtain ⟨hk⟩ : Nonempty (Hid (Below W0.heap.size W0 wr)) := by
      rcases hcase with ⟨_, _, hg⟩ | ⟨_, _, hg⟩
      · exact ⟨hg.out.bel⟩
      · exact ⟨hg.out.bel⟩
    rcases Nat.lt_or_ge t n with hlt | hge
    · obtain ⟨f, hf⟩ : ∃ f, fs[t]? = some f := ⟨fs[t]'(by have := HLEN.out; omega), List.getElem?_eq_getElem _⟩
      obtain ⟨b, off, rfl, hbl, hat⟩ := HR.out.at_ (by omega)
      obtain ⟨p, k, hek, hw0, hw1, hw2⟩ := hat t f hf
      have hhe : Hid (Steady U W0 fun w => fileKind.held w (⟨f.name, (f.safe : Int), p, k, f.bytes⟩ : Ent)) := (HR.out.held (List.mem_of_getElem? hek)).below HB0.out
      have j0 : (0 : Int) ≤ (t : Int) := by omega
      have j1 : (t : Int) < (n : Int) := by omega
      have hst := keep (show fs.take (t + 1) = fs.take t ++ [f] by rw [List.take_add_one, hf]; rfl)
      have hri : Hid (Dk.Rising (fs.take t ++ [f])) := by rw [← hst.out]; exact Dk.rising_take HRI.out _
      obtain ⟨fnm, fsf, fbs⟩ := f
      have FACTS : Hid (∀ wx, Below W0.heap.size W0 wx → wx.cell? ⟨q, 1, none⟩ = some (.slice (some ⟨b, off, none⟩) n c) ∧ wx.cell? ⟨w.heap.size, 0, none⟩ = some (.string ⟨gn.toArray⟩) ∧ wx.cell? ⟨w.heap.size, 1, none⟩ = some (.int .i64 (gs : Int)) ∧ wx.cell? ⟨w.heap.size, 2, none⟩ = some (.slice gp gb.length gk) ∧
          wx.cell? ⟨b, off + t * 3, none⟩ = some (.string ⟨fnm.toArray⟩) ∧ wx.cell? ⟨b, off + t * 3 + 1, none⟩ = some (.int .i64 (fsf : Int)) ∧ wx.cell? ⟨b, off + t * 3 + 2, none⟩ = some (.slice p fbs.length k)) := fun wx hx => by
        have hx2 : Below w.heap.size w wx := HB0.out.trans (hx.mono HB0.out.size)
        exact ⟨below_cell hx2 c1, below_cell hx (cell_of_row _ _ _ _ _ _ G0.out), below_cell hx (cell_of_row _ _ _ _ _ _ G0.out), below_cell hx (cell_of_row _ _ _ _ _ _ G0.out), below_cell hx2 hw0, below_cell hx2 hw1, below_cell hx2 hw2⟩
      clear hat hf hek hw0 hw1 hw2
      have hlen : (fs.take t).length ≤ 1099511627776 := by rw [List.length_take]; omega
      have hlen2 : (Dk.put (fs.take t) ⟨gn, gs, gb⟩).length ≤ 1099511627777 := by have := Dk.put_length (fs.take t) ⟨gn, gs, gb⟩; omega
      have hln := keep hlen
      obtain ⟨cr, k0, k1, k2, hc0, hc1, hc2⟩ := FACTS.out wr hk.out
      rcases hcase with ⟨rfl, hle, hg⟩ | ⟨rfl, hex, hg⟩
      · cases hcmp : less fnm gn with
        | true =>
          have hop : Op.bytesLess fnm gn = true := (op_less _ _).trans hcmp
          have e2 : (fnm == gn) = false := by
            rw [beq_eq_false_iff_ne]
            intro e
            rw [e, less_irrefl] at hcmp
            cases hcmp
          have hle2 : Hid (∀ g ∈ fs.take (t + 1), less g.name gn = true) := fun g hg => by
            rw [hst.out] at hg
            rcases List.mem_append.1 hg with h1 | h1
            · exact hle.out g h1
            · rw [List.mem_singleton] at h1; rw [h1]; exact hcmp
          clear hcmp
          go_wp2_with fail
          go_quiet (fail)
          obtain ⟨wS, hwS⟩ : ∃ ws, ws = wr.drewN nq := ⟨_, rfl⟩
          rw [← hwS]
          have ewS := keep (show Below wr.heap.size wr wS by rw [hwS]; exact below_drewN _ _ _)
          have bS := keep (hk.out.trans (ewS.out.mono hk.out.size))
          clear hwS nq
          clear cr k0 k1 k2 hc0 hc1 hc2
          obtain ⟨cr, k0, k1, k2, hc0, hc1, hc2⟩ := FACTS.out wS bS.out
          go_wp2_with fail
          go_quiet (fail)
          obtain ⟨wT, hwT⟩ : ∃ ws, ws = wS.drewN nq := ⟨_, rfl⟩
          rw [← hwT]
          have ewT := keep (show Below wS.heap.size wS wT by rw [hwT]; exact below_drewN _ _ _)
          have bT := keep (bS.out.trans (ewT.out.mono bS.out.size))
          clear hwT nq
          clear cr k0 k1 k2 hc0 hc1 hc2
          obtain ⟨cr, k0, k1, k2, hc0, hc1, hc2⟩ := FACTS.out wT bT.out
          have ba1 := keep (((ewS.out.trans (ewT.out.mono ewS.out.size))).alloc ((ewS.out.trans (ewT.out.mono ewS.out.size))).size (.cells #[.string ⟨fnm.toArray⟩, .int .i64 (fsf : Int), .slice p fbs.length k] 27))
          have ow1 := keep (own_block (w' := wT.alloc (.cells #[.string ⟨fnm.toArray⟩, .int .i64 (fsf : Int), .slice p fbs.length k] 27)) hg.out.own (fun gg hgg => ba1.out.block gg (own_size hg.out.own hgg)))
          have sz1 := keep (show W0.heap.size ≤ (wT.alloc (.cells #[.string ⟨fnm.toArray⟩, .int .i64 (fsf : Int), .slice p fbs.length k] 27)).heap.size from Nat.le_trans hg.out.bel.size ba1.out.size)
          go_wp2_with (at_builtin; refine wpList_append_rec fileKind_ok rfl _ _ 22 27 rfl W0.heap.size i0 _ 48 Tryz.underlying22 hi hz0 hz1 hz2 rfl u4 _ es' rfl ow1.out _ 1 (⟨fnm, (fsf : Int), p, k, fbs⟩ : Ent) rfl (rec_cells (k := fileKind) _ _ (⟨fnm, (fsf : Int), p, k, fbs⟩ : Ent)) (by unfold maxLen; omega) (by omega) sz1.out ?_; intro v5 w5 ho hg; have hO1 := keep ho; have hG1 := keep hg; clear ho hg)
          have g1 := keep (hg.out.more (f := ⟨fnm, fsf, fbs⟩) ba1.out hhe.out rfl hO1.out hG1.out)
          rw [← hst.out] at g1
          go_wp2
          go_roundw
          case rel => exact ⟨t + 1, es' ++ [(⟨fnm, (fsf : Int), p, k, fbs⟩ : Ent)], by omega, by first | rfl | go_num, .inl ⟨rfl, hle2, g1⟩⟩
          case measure => simp [intOf]; omega
        | false =>
          have hop : Op.bytesLess fnm gn = false := (op_less _ _).trans hcmp
          have hex2 : Hid (∃ g ∈ fs.take (t + 1), less g.name gn = false) := ⟨⟨fnm, fsf, fbs⟩, by rw [hst.out]; simp, hcmp⟩
          have hput := keep (Dk.put_snoc_ge (f := ⟨gn, gs, gb⟩) (k := ⟨fnm, fsf, fbs⟩) hle.out hcmp)
          by_cases hn2 : fnm = gn
          · have e2 : (fnm == gn) = true := by simpa using hn2
            rw [if_pos hn2, List.append_nil, ← hst.out] at hput
            clear hcmp hn2
            go_wp2_with fail
            go_quiet (fail)
            obtain ⟨wS, hwS⟩ : ∃ ws, ws = wr.drewN nq := ⟨_, rfl⟩
            rw [← hwS]
            have ewS := keep (show Below wr.heap.size wr wS by rw [hwS]; exact below_drewN _ _ _)
            have bS := keep (hk.out.trans (ewS.out.mono hk.out.size))
            clear hwS nq
            clear cr k0 k1 k2 hc0 hc1 hc2
            obtain ⟨cr, k0, k1, k2, hc0, hc1, hc2⟩ := FACTS.out wS bS.out
            have ba1 := keep ((ewS.out).alloc (ewS.out).size (.cells #[.string ⟨gn.toArray⟩, .int .i64 (gs : Int), .slice gp gb.length gk] 27))
            have ow1 := keep (own_block (w' := wS.alloc (.cells #[.string ⟨gn.toArray⟩, .int .i64 (gs : Int), .slice gp gb.length gk] 27)) hg.out.own (fun gg hgg => ba1.out.block gg (own_size hg.out.own hgg)))
            have sz1 := keep (show W0.heap.size ≤ (wS.alloc (.cells #[.string ⟨gn.toArray⟩, .int .i64 (gs : Int), .slice gp gb.length gk] 27)).heap.size from Nat.le_trans hg.out.bel.size ba1.out.size)
            go_wp2_with (at_builtin; refine wpList_append_rec fileKind_ok rfl _ _ 22 27 rfl W0.heap.size i0 _ 48 Tryz.underlying22 hi hz0 hz1 hz2 rfl u4 _ es' rfl ow1.out _ 1 (⟨gn, (gs : Int), gp, gk, gb⟩ : Ent) rfl (rec_cells (k := fileKind) _ _ (⟨gn, (gs : Int), gp, gk, gb⟩ : Ent)) (by unfold maxLen; omega) (by omega) sz1.out ?_; intro v5 w5 ho hg; have hO1 := keep ho; have hG1 := keep hg; clear ho hg)
            have g1 := keep (hg.out.more (f := ⟨gn, gs, gb⟩) ba1.out HHE.out rfl hO1.out hG1.out)
            have b5 := keep g1.out.bel
            clear cr k0 k1 k2 hc0 hc1 hc2
            obtain ⟨cr, k0, k1, k2, hc0, hc1, hc2⟩ := FACTS.out w5 b5.out
            go_wp2_with fail
            go_quiet (fail)
            obtain ⟨wT, hwT⟩ : ∃ ws, ws = w5.drewN nq := ⟨_, rfl⟩
            rw [← hwT]
            have ewT := keep (show Below w5.heap.size w5 wT by rw [hwT]; exact below_drewN _ _ _)
            have bT := keep (b5.out.trans (ewT.out.mono b5.out.size))
            clear hwT nq
            clear cr k0 k1 k2 hc0 hc1 hc2
            obtain ⟨cr, k0, k1, k2, hc0, hc1, hc2⟩ := FACTS.out wT bT.out
            have g2 : Hid (Begun U W0 wT v5 (Dk.put (fs.take (t + 1)) ⟨gn, gs, gb⟩) (es' ++ [(⟨gn, (gs : Int), gp, gk, gb⟩ : Ent)])) := by
              show Begun U W0 wT v5 (Dk.put (fs.take (t + 1)) ⟨gn, gs, gb⟩) (es' ++ [(⟨gn, (gs : Int), gp, gk, gb⟩ : Ent)])
              rw [hput.out]
              exact ⟨own_block g1.out.own (fun gg hgg => ewT.out.block gg (own_size g1.out.own hgg)), g1.out.held, g1.out.same, bT.out⟩
            go_wp2
            go_roundw
            case rel => exact ⟨t + 1, es' ++ [(⟨gn, (gs : Int), gp, gk, gb⟩ : Ent)], by omega, by first | rfl | go_num, .inr ⟨rfl, hex2, g2⟩⟩
            case measure => simp [intOf]; omega
          · have e2 : (fnm == gn) = false := by simpa using hn2
            rw [if_neg hn2, ← hst.out] at hput
            clear hcmp hn2
            go_wp2_with fail
            go_quiet (fail)
            obtain ⟨wS, hwS⟩ : ∃ ws, ws = wr.drewN nq := ⟨_, rfl⟩
            rw [← hwS]
            have ewS := keep (show Below wr.heap.size wr wS by rw [hwS]; exact below_drewN _ _ _)
            have bS := keep (hk.out.trans (ewS.out.mono hk.out.size))
            clear hwS nq
            clear cr k0 k1 k2 hc0 hc1 hc2
            obtain ⟨cr, k0, k1, k2, hc0, hc1, hc2⟩ := FACTS.out wS bS.out
            have ba1 := keep ((ewS.out).alloc (ewS.out).size (.cells #[.string ⟨gn.toArray⟩, .int .i64 (gs : Int), .slice gp gb.length gk] 27))
            have ow1 := keep (own_block (w' := wS.alloc (.cells #[.string ⟨gn.toArray⟩, .int .i64 (gs : Int), .slice gp gb.length gk] 27)) hg.out.own (fun gg hgg => ba1.out.block gg (own_size hg.out.own hgg)))
            have sz1 := keep (show W0.heap.size ≤ (wS.alloc (.cells #[.string ⟨gn.toArray⟩, .int .i64 (gs : Int), .slice gp gb.length gk] 27)).heap.size from Nat.le_trans hg.out.bel.size ba1.out.size)
            go_wp2_with (at_builtin; refine wpList_append_rec fileKind_ok rfl _ _ 22 27 rfl W0.heap.size i0 _ 48 Tryz.underlying22 hi hz0 hz1 hz2 rfl u4 _ es' rfl ow1.out _ 1 (⟨gn, (gs : Int), gp, gk, gb⟩ : Ent) rfl (rec_cells (k := fileKind) _ _ (⟨gn, (gs : Int), gp, gk, gb⟩ : Ent)) (by unfold maxLen; omega) (by omega) sz1.out ?_; intro v5 w5 ho hg; have hO1 := keep ho; have hG1 := keep hg; clear ho hg)
            have g1 := keep (hg.out.more (f := ⟨gn, gs, gb⟩) ba1.out HHE.out rfl hO1.out hG1.out)
            have b5 := keep g1.out.bel
            clear cr k0 k1 k2 hc0 hc1 hc2
            obtain ⟨cr, k0, k1, k2, hc0, hc1, hc2⟩ := FACTS.out w5 b5.out
            go_wp2_with fail
            go_quiet (fail)
            obtain ⟨wT, hwT⟩ : ∃ ws, ws = w5.drewN nq := ⟨_, rfl⟩
            rw [← hwT]
            have ewT := keep (show Below w5.heap.size w5 wT by rw [hwT]; exact below_drewN _ _ _)
            have bT := keep (b5.out.trans (ewT.out.mono b5.out.size))
            clear hwT nq
            clear cr k0 k1 k2 hc0 hc1 hc2
            obtain ⟨cr, k0, k1, k2, hc0, hc1, hc2⟩ := FACTS.out wT bT.out
            have hl3 : (fs.take t ++ [(⟨gn, gs, gb⟩ : File)]).length ≤ 1099511627777 := by rw [List.length_append]; have := hln.out; simp; omega
            have ba2 := keep ((ewT.out).alloc (ewT.out).size (.cells #[.string ⟨fnm.toArray⟩, .int .i64 (fsf : Int), .slice p fbs.length k] 27))
            have ow2 := keep (own_block (w' := wT.alloc (.cells #[.string ⟨fnm.toArray⟩, .int .i64 (fsf : Int), .slice p fbs.length k] 27)) g1.out.own (fun gg hgg => ba2.out.block gg (own_size g1.out.own hgg)))
            have sz2 := keep (show W0.heap.size ≤ (wT.alloc (.cells #[.string ⟨fnm.toArray⟩, .int .i64 (fsf : Int), .slice p fbs.length k] 27)).heap.size from Nat.le_trans g1.out.bel.size ba2.out.size)
            go_wp2_with (at_builtin; refine wpList_append_rec fileKind_ok rfl _ _ 22 27 rfl W0.heap.size i0 _ 48 Tryz.underlying22 hi hz0 hz1 hz2 rfl v5 _ (es' ++ [(⟨gn, (gs : Int), gp, gk, gb⟩ : Ent)]) rfl ow2.out _ 1 (⟨fnm, (fsf : Int), p, k, fbs⟩ : Ent) rfl (rec_cells (k := fileKind) _ _ (⟨fnm, (fsf : Int), p, k, fbs⟩ : Ent)) (by unfold maxLen; omega) (by omega) sz2.out ?_; intro v6 w6 ho hg; have hO2 := keep ho; have hG2 := keep hg; clear ho hg)
            have g2 := keep (g1.out.more (f := ⟨fnm, fsf, fbs⟩) ba2.out hhe.out rfl hO2.out hG2.out)
            rw [← hput.out] at g2
            go_wp2
            go_roundw
            case rel => exact ⟨t + 1, es' ++ [(⟨gn, (gs : Int), gp, gk, gb⟩ : Ent)] ++ [(⟨fnm, (fsf : Int), p, k, fbs⟩ : Ent)], by omega, by first | rfl | go_num, .inr ⟨rfl, hex2, g2⟩⟩
            case measure => simp [intOf]; omega
      · have hpd := Dk.put_snoc_done (f := ⟨gn, gs, gb⟩) hri.out hex.out
        have e2 : (fnm == gn) = false := by simpa using hpd.2
        have hput := keep hpd.1
        have hex2 : Hid (∃ g ∈ fs.take (t + 1), less g.name gn = false) := by
          obtain ⟨g, h1, h2⟩ := hex.out
          exact ⟨g, by rw [hst.out]; simp [h1], h2⟩
        clear hpd
        go_wp2_with fail
        go_quiet (fail)
        obtain ⟨wS, hwS⟩ : ∃ ws, ws = wr.drewN nq := ⟨_, rfl⟩
        rw [← hwS]
        have ewS := keep (show Below wr.heap.size wr wS by rw [hwS]; exact below_drewN _ _ _)
        have bS := keep (hk.out.trans (ewS.out.mono hk.out.size))
        clear hwS nq
        clear cr k0 k1 k2 hc0 hc1 hc2
        obtain ⟨cr, k0, k1, k2, hc0, hc1, hc2⟩ := FACTS.out wS bS.out
        go_wp2_with fail
        go_quiet (fail)
        obtain ⟨wT, hwT⟩ : ∃ ws, ws = wS.drewN nq := ⟨_, rfl⟩
        rw [← hwT]
        have ewT := keep (show Below wS.heap.size wS wT by rw [hwT]; exact below_drewN _ _ _)
        have bT := keep (bS.out.trans (ewT.out.mono bS.out.size))
        clear hwT nq
        clear cr k0 k1 k2 hc0 hc1 hc2
        obtain ⟨cr, k0, k1, k2, hc0, hc1, hc2⟩ := FACTS.out wT bT.out
        have ba1 := keep (((ewS.out.trans (ewT.out.mono ewS.out.size))).alloc ((ewS.out.trans (ewT.out.mono ewS.out.size))).size (.cells #[.string ⟨fnm.toArray⟩, .int .i64 (fsf : Int), .slice p fbs.length k] 27))
        have ow1 := keep (own_block (w' := wT.alloc (.cells #[.string ⟨fnm.toArray⟩, .int .i64 (fsf : Int), .slice p fbs.length k] 27)) hg.out.own (fun gg hgg => ba1.out.block gg (own_size hg.out.own hgg)))
        have sz1 := keep (show W0.heap.size ≤ (wT.alloc (.cells #[.string ⟨fnm.toArray⟩, .int .i64 (fsf : Int), .slice p fbs.length k] 27)).heap.size from Nat.le_trans hg.out.bel.size ba1.out.size)
        go_wp2_with (at_builtin; refine wpList_append_rec fileKind_ok rfl _ _ 22 27 rfl W0.heap.size i0 _ 48 Tryz.underlying22 hi hz0 hz1 hz2 rfl u4 _ es' rfl ow1.out _ 1 (⟨fnm, (fsf : Int), p, k, fbs⟩ : Ent) rfl (rec_cells (k := fileKind) _ _ (⟨fnm, (fsf : Int), p, k, fbs⟩ : Ent)) (by unfold maxLen; omega) (by omega) sz1.out ?_; intro v5 w5 ho hg; have hO1 := keep ho; have hG1 := keep hg; clear ho hg)
        have g1 := keep (hg.out.more (f := ⟨fnm, fsf, fbs⟩) ba1.out hhe.out rfl hO1.out hG1.out)
        rw [← hput.out, ← hst.out] at g1
        go_wp2
        go_roundw
        case rel => exact ⟨t + 1, es' ++ [(⟨fnm, (fsf : Int), p, k, fbs⟩ : Ent)], by omega, by first | rfl | go_num, .inr ⟨rfl, hex2, g1⟩⟩
        case measure => simp [intOf]; omega
    · obtain rfl : t = n := by omega
      have htk : fs.take t = fs := List.take_of_length_le (by have := HLEN.out; omega)
      have hln : fs.length ≤ 1099511627776 := by have := HLEN.out; omega
      rw [htk] at hcase
      clear htk
      have cr := below_cell (HB0.out.trans (hk.out.mono HB0.out.size)) c1
      have k0 := below_cell hk.out (cell_of_row _ _ _ _ _ _ G0.out : W0.cell? ⟨w.heap.size, 0, none⟩ = some (.string ⟨gn.toArray⟩))
      have k1 := below_cell hk.out (cell_of_row _ _ _ _ _ _ G0.out : W0.cell? ⟨w.heap.size, 1, none⟩ = some (.int .i64 (gs : Int)))
      have k2 := below_cell hk.out (cell_of_row _ _ _ _ _ _ G0.out : W0.cell? ⟨w.heap.size, 2, none⟩ = some (.slice gp gb.length gk))
      rcases hcase with ⟨rfl, hle, hg⟩ | ⟨rfl, hex, hg⟩
      · have hput := keep (Dk.put_less (f := ⟨gn, gs, gb⟩) hle.out)
        have ba1 := keep ((Below.refl wr.heap.size wr).alloc (Nat.le_refl _) (.cells #[.string ⟨gn.toArray⟩, .int .i64 (gs : Int), .slice gp gb.length gk] 27))
        have ow1 := keep (own_block (w' := wr.alloc (.cells #[.string ⟨gn.toArray⟩, .int .i64 (gs : Int), .slice gp gb.length gk] 27)) hg.out.own (fun gg hgg => ba1.out.block gg (own_size hg.out.own hgg)))
        have sz1 := keep (show W0.heap.size ≤ (wr.alloc (.cells #[.string ⟨gn.toArray⟩, .int .i64 (gs : Int), .slice gp gb.length gk] 27)).heap.size from Nat.le_trans hg.out.bel.size ba1.out.size)
        have FIN : Hid (∀ v5 w5, w5.ownsRow W0.heap.size 27 3 v5 (fs.length + 1) (rv fileKind (es' ++ [(⟨gn, (gs : Int), gp, gk, gb⟩ : Ent)])) → (wr.alloc (.cells #[.string ⟨gn.toArray⟩, .int .i64 (gs : Int), .slice gp gb.length gk] 27)).grownBy w5 u4.ownBlock → Hid (Begun U W0 w5 v5 (Dk.put fs ⟨gn, gs, gb⟩) (es' ++ [(⟨gn, (gs : Int), gp, gk, gb⟩ : Ent)]))) := fun v5 w5 h1 h2 => by
          have g1 := hg.out.more (f := ⟨gn, gs, gb⟩) ba1.out HHE.out rfl h1 h2
          rw [← hput.out] at g1
          exact g1
        go_wp2_with (at_builtin; refine wpList_append_rec fileKind_ok rfl _ _ 22 27 rfl W0.heap.size i0 _ 48 Tryz.underlying22 hi hz0 hz1 hz2 rfl u4 _ es' rfl ow1.out _ 1 (⟨gn, (gs : Int), gp, gk, gb⟩ : Ent) rfl (rec_cells (k := fileKind) _ _ (⟨gn, (gs : Int), gp, gk, gb⟩ : Ent)) (by unfold maxLen; omega) (by omega) sz1.out ?_; intro v5 w5 ho hgr; obtain ⟨ao5, c5, rfl⟩ := own_slice ho; have gF := FIN.out _ _ ho hgr; have hrb := keep (HB.out.same (w' := w5) ((HB0.out.trans (gF.out.bel.mono HB0.out.size)).block q HB.out.lt)); have f0 := hrb.out.warm; have cq := hrb.out.c1; clear ho hgr)
        go_end0
        obtain ⟨ao', c', e, hrows⟩ := gF.out.rows (fun g hg => Nat.lt_of_lt_of_le (hU g hg) HB0.out.size) (w' := w5.setCell ⟨q, 1, none⟩ (.slice ao5 (fs.length + 1) c5)) ((Kept.refl _ _).setCell (p := ⟨q, 1, none⟩) (.inl hq) _)
        rw [hput.out, List.length_append] at hrows ⊢
        rw [hput.out, List.length_append] at e
        cases e
        exact ⟨rfl, ⟨_, _, _, hrb.out.set1 _, hrows⟩, (Kept.of_below (HB0.out.trans (gF.out.bel.mono HB0.out.size))).at_set _ _⟩
      · have gF := hg
        clear hg cr
        have hrb := HB.out.same (w' := wr) ((HB0.out.trans (gF.out.bel.mono HB0.out.size)).block q HB.out.lt)
        have f0 := hrb.warm
        have cq := hrb.c1
        have HRB := keep hrb
        clear hrb
        obtain ⟨ao1, c2, rfl⟩ := own_slice gF.out.own
        go_wp2
        go_end0
        obtain ⟨ao', c', e, hrows⟩ := gF.out.rows (fun g hg => Nat.lt_of_lt_of_le (hU g hg) HB0.out.size) (w' := wr.setCell ⟨q, 1, none⟩ (.slice ao1 (Dk.put fs ⟨gn, gs, gb⟩).length c2)) ((Kept.refl _ _).setCell (p := ⟨q, 1, none⟩) (.inl hq) _)
        cases e
        exact ⟨rfl, ⟨_, _, _, HRB.out.set1 _, hrows⟩, (Kept.of_below (HB0.out.trans (gF.out.bel.mono HB0.out.size))).at_set _ _⟩
end Go.Proofs.YthnebhddakfadaaGreatDoor
namespace Go.Proofs.YthnebhddakfadaaGreatDoor
open Go.RowKit
open Dk (File Disk)

/-- The document's disk r at block q, whatever becomes of the blocks of F. -/
structure RefAt (F : Nat → Prop) (w : World) (q : Nat) (ao : Option Addr) (n c : Nat) (es : List Ent) (r : Disk) : Prop where
  box : RBox w q (r.cap : Int) (.slice ao n c) (r.done : Int) (leftOf r.left) r.dark
  rows : Rows4 (beside F q) w ao n c es r.files
  good : Dk.Good r
  capb : r.cap ≤ 1099511627776
  out : ¬ F q
  lt : ∀ g, F g → g < w.heap.size
  leftb : ∀ k, r.left = some k → (k : Int) < 9223372036854775808
def Ref (F : Nat → Prop) (w : World) (q : Nat) (r : Disk) : Prop := ∃ ao n c es, RefAt F w q ao n c es r
theorem RefAt.few {F : Nat → Prop} {w : World} {q : Nat} {ao : Option Addr} {n c : Nat} {es : List Ent} {r : Disk} (h : RefAt F w q ao n c es r) : n ≤ 1099511627776 := by
  have h1 := used_ge r.files
  have h2 := h.good.room
  have h3 := h.capb
  have h4 := h.rows.len
  omega
theorem RefAt.move {F F' : Nat → Prop} {w w' : World} {q : Nat} {ao : Option Addr} {n c : Nat} {es : List Ent} {r : Disk} (h : RefAt F w q ao n c es r) (hk : Kept F w w') (hf : ∀ g, g < w.heap.size → F' g → F g) (hq : ¬ F' q) (hl : ∀ g, F' g → g < w'.heap.size) : RefAt F' w' q ao n c es r :=
  ⟨h.box.same (hk.block q h.box.lt h.out), ⟨h.rows.rows.next' (hk.wide (fun g _ e => .inl e)) (fun g hg e => by
    rcases e with e | e
    · exact .inl (hf g hg e)
    · exact .inr e), h.rows.same, h.rows.len⟩, h.good, h.capb, hq, hl, h.leftb⟩
theorem RefAt.below {F : Nat → Prop} {w w' : World} {q : Nat} {ao : Option Addr} {n c : Nat} {es : List Ent} {r : Disk} (h : RefAt F w q ao n c es r) (hk : Below w.heap.size w w') : RefAt F w' q ao n c es r :=
  h.move (Kept.of_below hk) (fun _ _ e => e) h.out (fun g hg => Nat.lt_of_lt_of_le (h.lt g hg) hk.size)
theorem RefAt.stay {F : Nat → Prop} {w w' : World} {q : Nat} {ao : Option Addr} {n c : Nat} {es : List Ent} {r : Disk} (h : RefAt F w q ao n c es r) (hk : Below w.heap.size w w') : Ref F w' q r ∧ Kept (At q) w w' := ⟨⟨_, _, _, _, h.below hk⟩, Kept.of_below hk⟩
/-- The same rows, the counts turned. -/
theorem RefAt.turn {F : Nat → Prop} {w w' : World} {q : Nat} {ao : Option Addr} {n c : Nat} {es : List Ent} {r r' : Disk} (h : RefAt F w q ao n c es r) (hk : Kept (At q) w w') (hb : RBox w' q (r'.cap : Int) (.slice ao n c) (r'.done : Int) (leftOf r'.left) r'.dark) (hf : r'.files = r.files) (hg : Dk.Good r') (hc : r'.cap = r.cap) (hl : ∀ k, r'.left = some k → (k : Int) < 9223372036854775808) : RefAt F w' q ao n c es r' :=
  ⟨hb, by rw [hf]; exact h.rows.next (hk.wide (fun g _ e => .inr e)), hg, by rw [hc]; exact h.capb, h.out, fun g hgf => Nat.lt_of_lt_of_le (h.lt g hgf) hk.size, hl⟩
/-- Behind put and drop. -/
theorem RefAt.files {F : Nat → Prop} {w w' : World} {q : Nat} {ao : Option Addr} {n c : Nat} {es : List Ent} {r : Disk} {fs : List File} {ao' : Option Addr} {c' : Nat} {es' : List Ent} (h : RefAt F w q ao n c es r) (hk : Kept (At q) w w') (hb : RBox w' q (r.cap : Int) (.slice ao' fs.length c') (r.done : Int) (leftOf r.left) r.dark) (hr : Rows4 (beside F q) w' ao' fs.length c' es' fs) (hg : Dk.Good { r with files := fs }) : RefAt F w' q ao' fs.length c' es' { r with files := fs } :=
  ⟨hb, hr, hg, h.capb, h.out, fun g hgf => Nat.lt_of_lt_of_le (h.lt g hgf) hk.size, h.leftb⟩
end Go.Proofs.YthnebhddakfadaaGreatDoor
