/- The walk of the document's next: hashes taken in order. -/
import Derived.Test.YtelebhcaljepaaaDoorKi
namespace Go.Proofs.YtelebhcaljepaaaDoor
open Go.RowKit

/-- A taker in memory: what it still has, whether there was none. -/
structure Tk (z : Nat) (w : World) (t : Nat) (s : List (List UInt8) × Bool) : Prop where
  ge : z ≤ t
  row : ∃ ao n c, w.heap[t]? = some (.cells #[.slice ao n c, .bool s.2] 66) ∧ RSrc strKind w ao n c s.1 ∧ ∀ ad, ao = some ad → ad.block < z
theorem Tk.below {z : Nat} {w w' : World} {t : Nat} {s : List (List UInt8) × Bool} (h : Tk z w t s) (hb : Below w.heap.size w w') : Tk z w' t s := by
  obtain ⟨ao, n, c, h1, h2, h3⟩ := h.row
  exact ⟨h.ge, ao, n, c, (hb.block t (Array.getElem?_eq_some_iff.1 h1).1).trans h1, h2.below strKind_ok hb, h3⟩
set_option maxHeartbeats 2000000 in
set_option maxRecDepth 100000 in
theorem rnext_any (z t : Nat) (s : List (List UInt8) × Bool) (w : World) (h : Tk z w t s) :
    Calls Tryd.prog 60 #[.pointer (some ⟨t, 0, none⟩)] w fun e w' => e = .returned (.string ⟨(Mt.nx [] s).1.toArray⟩) ∧ Tk z w' t (Mt.nx [] s).2 ∧ Below z w w' := by
  obtain ⟨l, bad⟩ := s
  obtain ⟨ao, n, c, hrow, hs, hz⟩ := h.row
  have HGE := keep h.ge
  have HR := keep hrow
  have HS := keep hs
  have HZ := keep hz
  have hn := hs.len
  have hcap := hs.cap
  have c0 : w.cell? ⟨t, 0, none⟩ = some (.slice ao n c) := cell_of_row _ _ _ _ _ _ hrow
  have f0 : w.frozen? ⟨t, 0, none⟩ = false := by simp [World.frozen?, hrow]
  have f1 : w.frozen? ⟨t, 1, none⟩ = false := by simp [World.frozen?, hrow]
  have c1 : w.cell? ⟨t, 1, none⟩ = some (.bool bad) := cell_of_row _ _ _ _ _ _ hrow
  clear h hrow hz
  cases l with
  | nil =>
    have n0 : n = 0 := by simpa using hn.symm
    subst n0
    have bz : Hid (Below z w (w.setCell ⟨t, 1, none⟩ (.bool true))) := (Below.refl _ _).setCell (p := ⟨t, 1, none⟩) HGE.out _
    have R2 := keep (put_row HR.out 1 (.bool true))
    clear hn hs
    go_enter Tryd.func60, Tryd.ntmps60
    go_wp2
    go_ret
    exact ⟨rfl, ⟨HGE.out, ao, 0, c, R2.out, strs_z HS.out HZ.out bz.out, HZ.out⟩, bz.out⟩
  | cons a r =>
    have hn1 : n = r.length + 1 := by simpa using hn.symm
    obtain ⟨b, off, rfl, _, hcell⟩ := strs_at hs (by omega)
    have ca := hcell 0 a rfl
    rw [Nat.add_zero] at ca
    have TL := keep (strs_tail HS.out 1 (by omega))
    have nn0 : ¬ (n : Int) = 0 := by omega
    have n1 : (1 : Int) ≤ (n : Int) := by omega
    have n2 : (n : Int) ≤ (c : Int) := by omega
    have n3 : (0 : Int) < (n : Int) := by omega
    have e1 : (n : Int) - 1 = ((n - 1 : Nat) : Int) := by omega
    have e2 : (c : Int) - 1 = ((c - 1 : Nat) : Int) := by omega
    clear hcell hs hn
    by_cases hc1 : c = 1
    · have bz : Hid (Below z w (w.setCell ⟨t, 0, none⟩ (.slice (some ⟨b, off, none⟩) 0 0))) := (Below.refl _ _).setCell (p := ⟨t, 0, none⟩) HGE.out _
      have R2 := keep (put_row HR.out 0 (.slice (some ⟨b, off, none⟩) 0 0))
      have hr0 : r = [] := List.length_eq_zero_iff.1 (by omega)
      subst hr0
      have hn2 : n = 1 := by simpa using hn1
      subst hn2
      subst hc1
      clear hn1
      have E0 : Hid (RSrc strKind (w.setCell ⟨t, 0, none⟩ (.slice (some ⟨b, off, none⟩) 0 0)) (some ⟨b, off, none⟩) 0 0 []) := ⟨rfl, Nat.le_refl _, (fun e => by cases e), (fun ad had j u hu => by simp [rv] at hu), fun e he => by cases he⟩
      go_enter Tryd.func60, Tryd.ntmps60
      go_wp2
      go_ret
      exact ⟨rfl, ⟨HGE.out, _, 0, 0, R2.out, E0.out, HZ.out⟩, bz.out⟩
    · have bz : Hid (Below z w (w.setCell ⟨t, 0, none⟩ (.slice (some ⟨b, off + 1, none⟩) (n - 1) (c - 1)))) := (Below.refl _ _).setCell (p := ⟨t, 0, none⟩) HGE.out _
      have R2 := keep (put_row HR.out 0 (.slice (some ⟨b, off + 1, none⟩) (n - 1) (c - 1)))
      have Z2 : Hid (∀ ad, (some ⟨b, off + 1, none⟩ : Option Addr) = some ad → ad.block < z) := fun ad had => by cases had; exact HZ.out ⟨b, off, none⟩ rfl
      clear hn1
      go_enter Tryd.func60, Tryd.ntmps60
      go_wp2
      go_ret
      exact ⟨rfl, ⟨HGE.out, _, n - 1, c - 1, R2.out, strs_z TL.out Z2.out bz.out, Z2.out⟩, bz.out⟩
end Go.Proofs.YtelebhcaljepaaaDoor
