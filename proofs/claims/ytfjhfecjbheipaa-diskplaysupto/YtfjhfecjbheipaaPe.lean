/- Files' rows and the plain files that they stand for; a crash, file by file; no walk. -/
import Derived.Test.YtfjhfecjbheipaaKf
import Derived.Test.YtfjhfecjbheipaaLo
namespace Go.Proofs.Ytfjhfecjbheipaa
open Go.RowKit
open Dk (File Disk)

abbrev Plain := List UInt8 × Int × List UInt8
def plainE (e : Ent) : Plain := (e.name, e.safe, e.bytes)
def plainF (f : File) : Plain := (f.name, (f.safe : Int), f.bytes)
/-- What is not older than B. -/
def Old (B : Nat) (g : Nat) : Prop := g < B
theorem RSrc.next {α : Type} {k : Kind α} {U : Nat → Prop} {w w' : World} {ao : Option Addr} {n c : Nat} {es : List α} (h : Steady U w fun w => RSrc k w ao n c es) (hk : Kept U w w') : RSrc k w' ao n c es := h w' hk
/-- A row of files that a call made, its bytes new too. -/
theorem files_steady {B : Nat} {w : World} {v : Value} {n t : Nat} {es : List Ent} (h : w.ownsRow B t 3 v n (rv fileKind es)) (hh : ∀ e ∈ es, Steady (Old B) w fun w => fileKind.held w e) : ∃ ao c, v = .slice ao n c ∧ c ≤ maxLen ∧ Steady (Old B) w fun w => RSrc fileKind w ao n c es := by
  obtain ⟨ao, c, rfl, _, hc⟩ := RSrc.own fileKind_ok h (fun e he => (hh e he).here)
  refine ⟨ao, c, rfl, hc, fun w' hk => ?_⟩
  obtain ⟨ao', c', e, hr, _⟩ := RSrc.own fileKind_ok (own_steady h (fun g hg => hg) w' hk) (fun e he => hh e he w' hk)
  cases e
  exact hr
theorem Src.old_steady {B n : Nat} {w : World} {v : Value} {l : List UInt8} (h : w.ownsRow B 5 1 v n (bv l)) : ∃ ao c, v = .slice ao n c ∧ c ≤ maxLen ∧ Steady (Old B) w fun w => Src w ao n c l := by
  obtain ⟨ao, c, rfl, _, hc⟩ := Src.of_own h
  refine ⟨ao, c, rfl, hc, fun w' hk => ?_⟩
  obtain ⟨ao', c', e, hr, _⟩ := Src.of_own (own_steady h (fun g hg => hg) w' hk)
  cases e
  exact hr
/-- As far as a crash has come. -/
def part (fs : List File) (ps : List Nat) (t : Nat) : List File := (Dk.keptAll fs ps).take t ++ fs.drop t
theorem part_zero (fs : List File) (ps : List Nat) : part fs ps 0 = fs := by simp [part]
theorem part_all (fs : List File) (ps : List Nat) : part fs ps fs.length = Dk.keptAll fs ps := by
  unfold part
  rw [List.take_of_length_le (by rw [Dk.keptAll_length]; exact Nat.le_refl _), List.drop_eq_nil_of_le (Nat.le_refl _), List.append_nil]
theorem put_at {A B : List File} {f f' : File} (hr : Dk.Rising (A ++ f :: B)) (hn : f'.name = f.name) : Dk.put (A ++ f :: B) f' = A ++ f' :: B := by
  induction A with
  | nil =>
    simp only [List.nil_append, Dk.put]
    rw [hn, less_irrefl]
    simp
  | cons a t ih =>
    have h1 := hr.1 f (by simp)
    simp only [List.cons_append, Dk.put]
    rw [hn, h1, if_pos rfl, ih hr.2]
theorem part_split {fs : List File} {ps : List Nat} {t : Nat} {f : File} (hf : fs[t]? = some f) : part fs ps t = (Dk.keptAll fs ps).take t ++ f :: fs.drop (t + 1) ∧ part fs ps (t + 1) = (Dk.keptAll fs ps).take t ++ Dk.kept f (Dk.pick ps t) :: fs.drop (t + 1) := by
  have hlt := (List.getElem?_eq_some_iff.1 hf).1
  constructor
  · unfold part
    rw [List.drop_eq_getElem_cons hlt, (List.getElem?_eq_some_iff.1 hf).2]
  · unfold part
    rw [List.take_add_one, Dk.keptAll_at, hf]
    simp
theorem part_look {fs : List File} {ps : List Nat} {t : Nat} {f : File} (hf : fs[t]? = some f) (hr : Dk.Rising (part fs ps t)) : Dk.look (part fs ps t) f.name = some f := Dk.look_mem hr (by rw [(part_split hf).1]; simp)
theorem part_next {fs : List File} {ps : List Nat} {t : Nat} {f : File} (hf : fs[t]? = some f) (hr : Dk.Rising (part fs ps t)) : Dk.put (part fs ps t) (Dk.kept f (Dk.pick ps t)) = part fs ps (t + 1) := by
  rw [(part_split hf).2]
  have h1 := (part_split (ps := ps) hf).1
  rw [h1] at hr ⊢
  exact put_at hr rfl
/-- A pick as a uint. -/
def up (z : Int) : Nat := (z % 18446744073709551616).toNat
theorem up_lt (z : Int) : up z < 18446744073709551616 := by
  unfold up
  have h1 := Int.emod_nonneg z (show (18446744073709551616 : Int) ≠ 0 by decide)
  have h2 := Int.emod_lt_of_pos z (show (0 : Int) < 18446744073709551616 by decide)
  omega
theorem up_eq (z : Int) : z % 18446744073709551616 = ((up z : Nat) : Int) := by
  unfold up
  have h1 := Int.emod_nonneg z (show (18446744073709551616 : Int) ≠ 0 by decide)
  omega
theorem pick_up (zs : List Int) (t : Nat) : Dk.pick (zs.map up) t = up (zs.getD t 0) := by
  unfold Dk.pick
  rw [List.getD_eq_getElem?_getD, List.getElem?_map, List.getD_eq_getElem?_getD]
  cases zs[t]? with
  | none => rfl
  | some z => rfl
theorem ints_at {w : World} {ao : Option Addr} {n c : Nat} {zs : List Int} (h : RSrc intKind w ao n c zs) (hn : 0 < n) : ∃ b off, ao = some ⟨b, off, none⟩ ∧ b < w.heap.size ∧ ∀ i z, zs[i]? = some z → w.cell? ⟨b, off + i, none⟩ = some (.int .i64 z) := by
  obtain ⟨b, off, h1, h2, h3⟩ := h.form intKind_ok hn
  refine ⟨b, off, h1, h2, fun i s hs => ?_⟩
  have := h3 i s hs 0 _ rfl
  simpa [intKind] using this
end Go.Proofs.Ytfjhfecjbheipaa
