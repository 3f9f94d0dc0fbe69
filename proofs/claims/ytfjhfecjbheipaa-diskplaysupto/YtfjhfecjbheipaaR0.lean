/- The document's disk as it lies in memory; the walks of its Named, at, Has. -/
import Derived.Test.YtfjhfecjbheipaaPe
namespace Go.Proofs.Ytfjhfecjbheipaa
open Go.RowKit
open Dk (File Disk)

/-- The five cells of the document's disk. -/
def RBox (w : World) (q : Nat) (N : Int) (v : Value) (done left : Int) (dark : Bool) : Prop :=
  w.heap[q]? = some (.cells #[.int .i64 N, v, .int .i64 done, .int .i64 left, .bool dark] 41 (0, 0))
section
variable {w : World} {q : Nat} {N : Int} {v : Value} {done left : Int} {dark : Bool}
theorem RBox.c0 (h : RBox w q N v done left dark) : w.cell? ⟨q, 0, none⟩ = some (.int .i64 N) := cell_of_row _ _ _ _ _ _ h
theorem RBox.c1 (h : RBox w q N v done left dark) : w.cell? ⟨q, 1, none⟩ = some v := cell_of_row _ _ _ _ _ _ h
theorem RBox.c2 (h : RBox w q N v done left dark) : w.cell? ⟨q, 2, none⟩ = some (.int .i64 done) := cell_of_row _ _ _ _ _ _ h
theorem RBox.c3 (h : RBox w q N v done left dark) : w.cell? ⟨q, 3, none⟩ = some (.int .i64 left) := cell_of_row _ _ _ _ _ _ h
theorem RBox.c4 (h : RBox w q N v done left dark) : w.cell? ⟨q, 4, none⟩ = some (.bool dark) := cell_of_row _ _ _ _ _ _ h
theorem RBox.warm (h : RBox w q N v done left dark) (i : Nat) : w.frozen? ⟨q, i, none⟩ = false := by unfold RBox at h; simp [World.frozen?, h]
theorem RBox.lt (h : RBox w q N v done left dark) : q < w.heap.size := (Array.getElem?_eq_some_iff.1 h).1
theorem RBox.same {w' : World} (h : RBox w q N v done left dark) (hb : w'.heap[q]? = w.heap[q]?) : RBox w' q N v done left dark := hb.trans h
theorem RBox.set1 (h : RBox w q N v done left dark) (x : Value) : RBox (w.setCell ⟨q, 1, none⟩ x) q N x done left dark := set_row h 1 _
theorem RBox.set2 (h : RBox w q N v done left dark) (x : Int) : RBox (w.setCell ⟨q, 2, none⟩ (.int .i64 x)) q N v x left dark := set_row h 2 _
theorem RBox.set3 (h : RBox w q N v done left dark) (x : Int) : RBox (w.setCell ⟨q, 3, none⟩ (.int .i64 x)) q N v done x dark := set_row h 3 _
theorem RBox.set4 (h : RBox w q N v done left dark) (x : Bool) : RBox (w.setCell ⟨q, 4, none⟩ (.bool x)) q N v done left x := set_row h 4 _
end
/-- What a call on the document's disk at q turns, and what others may turn beside it. -/
def beside (F : Nat → Prop) (q : Nat) (g : Nat) : Prop := F g ∨ g = q
/-- Rows of files, whatever becomes of the blocks of U. -/
structure Rows4 (U : Nat → Prop) (w : World) (ao : Option Addr) (n c : Nat) (es : List Ent) (fs : List File) : Prop where
  rows : Steady U w fun w => RSrc fileKind w ao n c es
  same : es.map plainE = fs.map plainF
  len : n = fs.length
theorem Rows4.here {U : Nat → Prop} {w : World} {ao : Option Addr} {n c : Nat} {es : List Ent} {fs : List File} (h : Rows4 U w ao n c es fs) : RSrc fileKind w ao n c es := h.rows.here
theorem Rows4.next {U : Nat → Prop} {w w' : World} {ao : Option Addr} {n c : Nat} {es : List Ent} {fs : List File} (h : Rows4 U w ao n c es fs) (hk : Kept U w w') : Rows4 U w' ao n c es fs := ⟨h.rows.next hk, h.same, h.len⟩
theorem Rows4.below {U : Nat → Prop} {w w' : World} {ao : Option Addr} {n c : Nat} {es : List Ent} {fs : List File} (h : Rows4 U w ao n c es fs) (hk : Below w.heap.size w w') : Rows4 U w' ao n c es fs := h.next (Kept.of_below hk)
theorem plain_at {es : List Ent} {fs : List File} (h : es.map plainE = fs.map plainF) {i : Nat} {f : File} (hf : fs[i]? = some f) : ∃ e, es[i]? = some e ∧ e.name = f.name ∧ e.safe = (f.safe : Int) ∧ e.bytes = f.bytes := by
  have h1 := congrArg (fun l => l[i]?) h
  simp only [List.getElem?_map, hf, Option.map_some] at h1
  cases he : es[i]? with
  | none => rw [he] at h1; cases h1
  | some e =>
    rw [he] at h1
    simp only [Option.map_some, Option.some.injEq, plainE, plainF, Prod.mk.injEq] at h1
    exact ⟨e, rfl, h1.1, h1.2.1, h1.2.2⟩
/-- The i-th file's cells. -/
theorem Rows4.at_ {U : Nat → Prop} {w : World} {ao : Option Addr} {n c : Nat} {es : List Ent} {fs : List File} (h : Rows4 U w ao n c es fs) (hn : 0 < n) : ∃ b off, ao = some ⟨b, off, none⟩ ∧ b < w.heap.size ∧ ∀ i f, fs[i]? = some f → ∃ p k, es[i]? = some ⟨f.name, (f.safe : Int), p, k, f.bytes⟩ ∧
    w.cell? ⟨b, off + i * 3, none⟩ = some (.string ⟨f.name.toArray⟩) ∧ w.cell? ⟨b, off + i * 3 + 1, none⟩ = some (.int .i64 (f.safe : Int)) ∧ w.cell? ⟨b, off + i * 3 + 2, none⟩ = some (.slice p f.bytes.length k) := by
  obtain ⟨b, off, h1, h2, h3⟩ := h.here.form fileKind_ok hn
  refine ⟨b, off, h1, h2, fun i f hf => ?_⟩
  obtain ⟨e, he, q1, q2, q3⟩ := plain_at h.same hf
  obtain ⟨nm, sf, p, k, bs⟩ := e
  simp only at q1 q2 q3
  subst q1 q2 q3
  refine ⟨p, k, he, ?_, ?_, ?_⟩
  · have := h3 i _ he 0 _ rfl
    simpa [fileKind] using this
  · have := h3 i _ he 1 _ rfl
    simpa [fileKind, Nat.add_assoc] using this
  · have := h3 i _ he 2 _ rfl
    simpa [fileKind, Nat.add_assoc] using this

set_option maxHeartbeats 1000000 in
set_option maxRecDepth 100000 in
theorem rnamed_any (s : List UInt8) (w : World) : Calls Try.prog 27 #[.string ⟨s.toArray⟩] w fun e w' => e = .returned (.bool (Dk.named s)) ∧ Below w.heap.size w w' := by
  go_enter Try.func27, Try.ntmps27
  rcases Nat.lt_or_ge s.length 1 with h1 | h1
  · have i1 : (s.length : Int) < 1 := by omega
    go_wp2
    go_ret
    exact ⟨by unfold Dk.named; rw [decide_eq_false (by omega)]; rfl, Below.refl _ _⟩
  · have i1 : ¬ (s.length : Int) < 1 := by omega
    rcases Nat.lt_or_ge 100 s.length with h2 | h2
    · have i2 : 100 < (s.length : Int) := by omega
      go_wp2
      go_ret
      exact ⟨by unfold Dk.named; rw [decide_eq_false (show ¬ s.length ≤ 100 by omega), Bool.and_false]; rfl, Below.refl _ _⟩
    · have i2 : ¬ 100 < (s.length : Int) := by omega
      go_wp2
      go_loop [3] (fun i => ∃ t : Nat, t ≤ s.length ∧ i = .int .i64 (t : Int) ∧ Hid ((s.take t).all (fun b => !(b == 0)) = true)) (fun i => s.length - (intOf i).toNat)
      case atStart => exact ⟨0, Nat.zero_le _, rfl, by exact rfl⟩
      case round =>
        obtain ⟨t, ht, rfl, hd⟩ := hrel
        rcases Nat.lt_or_ge t s.length with hlt | hge
        · have j0 : (0 : Int) ≤ (t : Int) := by omega
          have j1 : (t : Int) < (s.length : Int) := by omega
          have hst : s[t]? = some s[t] := List.getElem?_eq_getElem hlt
          go_wp2_with fail
          · rename_i hz _
            have hz0 : s[t] = 0 := by
              have h3 : (((s[t]).toNat : Int) == 0) = true := hz
              rw [beq_iff_eq] at h3
              exact UInt8.toNat_inj.1 (by rw [show (0 : UInt8).toNat = 0 from rfl]; omega)
            go_ret
            refine ⟨?_, Below.refl _ _⟩
            unfold Dk.named
            rw [show s.all (fun b => !(b == 0)) = false from List.all_eq_false.2 ⟨s[t], List.getElem_mem hlt, by simp [hz0]⟩, Bool.and_false]
            rfl
          · rename_i hz
            have hz0 : s[t] ≠ 0 := fun e => by
              have h3 : (((s[t]).toNat : Int) == 0) = false := hz
              rw [e] at h3
              simp at h3
            refine ⟨⟨t + 1, by omega, by first | rfl | go_num, ?_⟩, by simp [intOf]; omega⟩
            show _ = _
            rw [List.take_add_one, hst, List.all_append, hd.out]
            simpa using hz0
        · obtain rfl : t = s.length := by omega
          have hall := hd.out
          rw [List.take_of_length_le (Nat.le_refl _)] at hall
          have HA := keep hall
          clear hall
          go_wp2
          go_ret
          refine ⟨?_, Below.refl _ _⟩
          unfold Dk.named
          rw [HA.out, decide_eq_true h1, decide_eq_true h2]
          rfl
theorem look_take_none {fs : List File} {t : Nat} {f : File} {nm : List UInt8} (hf : fs[t]? = some f) (h : Dk.look (fs.take t) nm = none) (hn : ¬ f.name = nm) : Dk.look (fs.take (t + 1)) nm = none := by
  rw [List.take_add_one, hf]
  exact (Dk.look_snoc _ f nm h).trans (if_neg hn)
set_option maxHeartbeats 1000000 in
set_option maxRecDepth 100000 in
theorem rat_any (U : Nat → Prop) (q : Nat) (ao : Option Addr) (n c : Nat) (es : List Ent) (fs : List File) (nm : List UInt8) (w : World) (c1 : w.cell? ⟨q, 1, none⟩ = some (.slice ao n c)) (h : Rows4 U w ao n c es fs) (hn : n ≤ 1099511627776) :
    Calls Try.prog 49 #[.pointer (some ⟨q, 0, none⟩), .string ⟨nm.toArray⟩] w fun e w' => ((Dk.look fs nm = none ∧ e = .returned (.int .i64 (-1))) ∨ (∃ (i : Nat) (f : File), fs[i]? = some f ∧ Dk.look fs nm = some f ∧ e = .returned (.int .i64 (i : Int)))) ∧ Below w.heap.size w w' := by
  have HR := keep h
  have hlen := h.len
  clear h
  go_enter Try.func49, Try.ntmps49
  go_wp2_with fail
  go_loopw [5] (fun i wr => ∃ t : Nat, t ≤ n ∧ i = .int .i64 (t : Int) ∧ Hid (Dk.look (fs.take t) nm = none) ∧ Hid (Below w.heap.size w wr)) (fun i _ => n - (intOf i).toNat)
  case atStart => exact ⟨0, Nat.zero_le _, rfl, by exact rfl, Below.refl _ _⟩
  case round =>
    obtain ⟨t, ht, rfl, hd, hb⟩ := hrel
    have cr := below_cell hb.out c1
    rcases Nat.lt_or_ge t n with hlt | hge
    · obtain ⟨f, hf⟩ : ∃ f, fs[t]? = some f := ⟨fs[t]'(by omega), List.getElem?_eq_getElem _⟩
      obtain ⟨b, off, rfl, _, hat⟩ := (HR.out.below hb.out).at_ (by omega)
      obtain ⟨p, k, _, hc0, _, _⟩ := hat t f hf
      have j0 : (0 : Int) ≤ (t : Int) := by omega
      have j1 : (t : Int) < (n : Int) := by omega
      have HF := keep hf
      clear hat hf
      by_cases hn2 : f.name = nm
      · have e2 : (f.name == nm) = true := by simpa using hn2
        have hl := keep (Dk.look_take_some HF.out hd.out hn2)
        clear hn2
        go_wp2
        go_ret
        exact ⟨.inr ⟨t, f, HF.out, hl.out, rfl⟩, hb.out⟩
      · have e2 : (f.name == nm) = false := by simpa using hn2
        have hl := keep (look_take_none HF.out hd.out hn2)
        clear hn2
        go_wp2
        go_roundw
        case rel => exact ⟨t + 1, by omega, by first | rfl | go_num, hl, hb⟩
        case measure => simp [intOf]; omega
    · obtain rfl : t = n := by omega
      have hall : Hid (Dk.look fs nm = none) := by
        have := hd.out
        rwa [List.take_of_length_le (by omega)] at this
      go_wp2
      go_ret
      exact ⟨.inl ⟨hall.out, rfl⟩, hb.out⟩
end Go.Proofs.Ytfjhfecjbheipaa
