/- Bytes that a call made; a row of one byte; no walk. -/
import Derived.Test.YtogphpejdnhnjaaGreatDoorK
import Derived.Deep.OwnRows
namespace Go.Proofs.YtogphpejdnhnjaaGreatDoor
open Go.RowKit

/-- v: n bytes l in memory that a call made since w; nothing of w is turned. -/
def New (w w' : World) (v : Value) (n : Nat) (l : List UInt8) : Prop := w'.ownsRow w.heap.size 5 1 v n (bv l) ∧ Below w.heap.size w w'
theorem New.src {w w' : World} {v : Value} {n : Nat} {l : List UInt8} (h : New w w' v n l) : ∃ ao c, v = .slice ao n c ∧ Src w' ao n c l ∧ c ≤ maxLen := Src.of_own h.1
theorem New.len {w w' : World} {v : Value} {n : Nat} {l : List UInt8} (h : New w w' v n l) : l.length = n := by have := h.1.1; rw [bv_length] at this; omega
theorem New.after {w w1 w2 : World} {v : Value} {n : Nat} {l : List UInt8} (hb : Below w.heap.size w w1) (h : New w1 w2 v n l) : New w w2 v n l := by
  refine ⟨⟨h.1.1, ?_⟩, hb.trans (h.2.mono hb.size)⟩
  rcases h.1.2 with h0 | ⟨g, cap, cur, e, hg, r⟩
  · exact .inl h0
  · exact .inr ⟨g, cap, cur, e, Nat.le_trans hb.size hg, r⟩
theorem src_nil (w : World) : Src w none 0 0 [] := Src.empty (fun _ => rfl)
theorem Src.built (w : World) (b : UInt8) : Src (w.alloc (.cells #[.int .u8 (b.toNat : Int)] 5)) (some ⟨w.heap.size, 0, none⟩) 1 1 [b] :=
  Src.mk_bytes rfl (Nat.le_refl _) (fun i hi => by
    obtain rfl : i = 0 := by omega
    rw [cell_of_row _ _ _ _ _ _ (heap_alloc_new w _)]
    rfl)
theorem Src.builtI (w : World) (x : Int) (b : UInt8) (h : x = (b.toNat : Int)) : Src (w.alloc (.cells #[.int .u8 x] 5)) (some ⟨w.heap.size, 0, none⟩) 1 1 [b] := by subst h; exact Src.built w b

theorem conv_src {w : World} {ao : Option Addr} {m c : Nat} {l : List UInt8} (h : Src w ao m c l) : (convert 47 9 (.slice ao m c)).run Tryz.prog w = .ok (.string ⟨l.toArray⟩) w := by
  rcases Nat.eq_zero_or_pos m with h0 | h0
  · subst h0
    have hl : l = [] := List.length_eq_zero_iff.1 h.len
    subst hl
    rw [run_convert_bytes_string w 47 9 5 _ 0 c Tryz.underlying47 Tryz.underlying5 Tryz.underlying9]
    cases ao <;> simp [Conv.bytesToString, loadCells]
    all_goals rfl
  · obtain ⟨b, off, e, _, hby⟩ := h.form h0
    cases e
    have hl := h.len
    have := run_convert_bytes_arg (P := Tryz.prog) w 47 5 Tryz.underlying47 Tryz.underlying5 b off m c (l.map fun b => (b.toNat : Int)) (by simpa using h.len) (fun i hi => by
      rw [hby i hi]
      have : i < l.length := by omega
      simp [fn, List.getD, this]) 9 Tryz.underlying9
    rwa [strOfNums_bytes] at this
theorem list_beq (l l2 : List UInt8) : (l == l2) = decide (l = l2) := by
  by_cases h : l = l2
  · subst h; simp
  · rw [decide_eq_false h, beq_eq_false_iff_ne]; exact h
end Go.Proofs.YtogphpejdnhnjaaGreatDoor
