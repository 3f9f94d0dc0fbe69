/- The walks of the document's Fold and Root of a span. -/
import Derived.Test.YtdgfbbaddoghaaaDoorKt
import Derived.Test.YtdgfbbaddoghaaaDoorMs
import Derived.Test.YtdgfbbaddoghaaaDoorKb
namespace Go.Proofs.YtdgfbbaddoghaaaDoor
open Go.RowKit

/-- Some nodes as one, from the last one on. -/
def foldL (es : List (List UInt8)) : List UInt8 := Mt.fold nodeL nilL es
theorem foldL_len : ∀ {es : List (List UInt8)}, (∀ e ∈ es, e.length ≤ 1099511627776) → (foldL es).length ≤ 1099511627776
  | [], _ => by rw [show foldL [] = nilL from rfl, nilL_len]; decide
  | [a], h => h a (by simp)
  | a :: b :: t, _ => by
    unfold foldL
    rw [Mt.fold_more nodeL nilL a (by simp), nodeL_len]
    decide
theorem foldL_step {es : List (List UInt8)} {k : Nat} {x : List UInt8} (hx : es[k]? = some x) (hk : k + 1 < es.length) : foldL (es.drop k) = nodeL x (foldL (es.drop (k + 1))) := by
  have h1 := (List.getElem?_eq_some_iff.1 hx)
  obtain ⟨h2, h3⟩ := h1
  unfold foldL
  rw [List.drop_eq_getElem_cons h2, h3, Mt.fold_more nodeL nilL x (by intro e; have := congrArg List.length e; rw [List.length_drop] at this; simp at this; omega)]
theorem foldL_last {es : List (List UInt8)} {k : Nat} {x : List UInt8} (hx : es[k]? = some x) (hk : k + 1 = es.length) : foldL (es.drop k) = x := by
  obtain ⟨h2, h3⟩ := List.getElem?_eq_some_iff.1 hx
  rw [List.drop_eq_getElem_cons h2, h3, List.drop_of_length_le (by omega)]
  rfl
set_option maxHeartbeats 2000000 in
set_option maxRecDepth 100000 in
theorem rfold_any (ao : Option Addr) (n c : Nat) (es : List (List UInt8)) (w : World) (hs : RSrc strKind w ao n c es) (hl : ∀ e ∈ es, e.length ≤ 1099511627776) (hn : n ≤ 1099511627776) :
    Calls Tryd.prog 8 #[.slice ao n c] w fun e w' => e = .returned (.string ⟨(foldL es).toArray⟩) ∧ Below w.heap.size w w' := by
  have HS := keep hs
  have HSL := keep hs.len
  have HL := keep hl
  clear hs hl
  by_cases h0 : n = 0
  · subst h0
    have he : es = [] := List.length_eq_zero_iff.1 HSL.out
    subst he
    have RR := keep (rroot_any 0 [] rfl none 0 w (RSrc.empty (fun _ => rfl)) (fun e he => by cases he) (by decide))
    rw [show foldL [] = rootL [] from rfl]
    go_enter Tryd.func8, Tryd.ntmps8
    go_wp2_with fail
    refine RR.out.mono ?_
    rintro e w1 ⟨rfl, hb1⟩
    have B1 := keep hb1
    clear hb1 RR
    go_wp2
    go_ret
    exact ⟨rfl, B1.out⟩
  · obtain ⟨b, off, rfl, _, hcell⟩ := strs_at HS.out (by omega)
    obtain ⟨y, hy⟩ : ∃ y, es[n - 1]? = some y := ⟨es[n - 1]'(by rw [HSL.out]; omega), List.getElem?_eq_getElem _⟩
    have cy := hcell (n - 1) y hy
    have FY := keep (foldL_last hy (by rw [HSL.out]; omega))
    have HC := keep hcell
    have n0 : ((n : Int) == 0) = false := by simp; omega
    have n1 : ¬ (n : Int) = 0 := by omega
    have e1 : (n : Int) - 1 = ((n - 1 : Nat) : Int) := by omega
    have q0 : (0 : Int) ≤ ((n - 1 : Nat) : Int) := by omega
    have q1 : ((n - 1 : Nat) : Int) < (n : Int) := by omega
    have e2 : (n : Int) - 2 = ((n - 1 : Nat) : Int) - 1 := by omega
    clear hcell hy
    go_enter Tryd.func8, Tryd.ntmps8
    go_wp2
    go_loopw [3, 4] (fun h v wr => ∃ k : Nat, k ≤ n - 1 ∧ h = .string ⟨(foldL (es.drop k)).toArray⟩ ∧ v = .int .i64 ((k : Int) - 1) ∧ Hid (Below w.heap.size w wr)) (fun _ v _ => (intOf v + 1).toNat)
    case atStart => exact ⟨n - 1, Nat.le_refl _, by rw [FY.out], by first | rfl | go_num, Below.refl _ _⟩
    case round =>
      obtain ⟨k, hk, rfl, rfl, hI⟩ := hrel
      have B1 := keep hI.out
      clear hI
      cases k with
      | zero =>
        rw [List.drop_zero]
        go_wp2
        go_ret
        exact ⟨rfl, B1.out⟩
      | succ k =>
        obtain ⟨x, hx⟩ : ∃ x, es[k]? = some x := ⟨es[k]'(by rw [HSL.out]; omega), List.getElem?_eq_getElem _⟩
        have cx := below_cell B1.out (HC.out k x hx)
        have FS := keep (foldL_step hx (by rw [HSL.out]; omega))
        have l1 := HL.out x (List.mem_of_getElem? hx)
        have l2 := foldL_len (es := es.drop (k + 1)) (fun e he => HL.out e (List.mem_of_mem_drop he))
        have e3 : ((k + 1 : Nat) : Int) - 1 = (k : Int) := by omega
        rw [e3]
        obtain ⟨X, hX⟩ : ∃ X, foldL (es.drop (k + 1)) = X := ⟨_, rfl⟩
        rw [hX] at FS l2 ⊢
        have NN := keep (rnode_any x X wr (by omega))
        have k0 : (0 : Int) ≤ (k : Int) := by omega
        have k1 : (k : Int) < (n : Int) := by omega
        clear hx hX e3
        go_wp2_with fail
        refine NN.out.mono ?_
        rintro e w2 ⟨rfl, hb2⟩
        have B2 := keep (B1.out.trans (hb2.mono B1.out.size))
        clear hb2 NN cx
        go_wp2
        go_roundw
        case rel => exact ⟨k, by omega, by rw [FS.out], by first | rfl | go_num, B2.out⟩
        case measure => simp [intOf]
end Go.Proofs.YtdgfbbaddoghaaaDoor
