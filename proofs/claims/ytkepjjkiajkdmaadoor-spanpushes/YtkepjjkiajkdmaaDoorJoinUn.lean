/- The walks of the document's Fold and Root of a span. -/
/- The walk of the document's Root of a span. -/
/- What Push and the like answer, over plain lists; records of two cells written; no walk. -/
import Derived.Test.YtkepjjkiajkdmaaDoorUb
import Derived.Test.YtkepjjkiajkdmaaDoorKb
import Derived.Test.YtkepjjkiajkdmaaDoorKz
namespace Go.Proofs.YtkepjjkiajkdmaaDoor
open Go.RowKit

/-- Some nodes as one, from the last one on. -/
def foldL (es : List (List UInt8)) : List UInt8 := Mt.fold nodeL nilL es
theorem foldL_len : ∀ {es : List (List UInt8)}, (∀ e ∈ es, e.length ≤ 1099511627776) → (foldL es).length ≤ 1099511627776
  | [], _ => by rw [show foldL [] = nilL from rfl, nilL_len]; decide
  | [a], h => h a (by simp)
  | a :: b :: t, _ => by
    unfold foldL
    rw [Mt.fold_more nodeL nilL a (by simp), nodeL_len]
    decide
theorem foldL_step {es : List (List UInt8)} {k : Nat} {x : List UInt8} (hx : es[k]? = some x) (hk : k + 1 < es.length) : foldL (es.drop k) = nodeL x (foldL (es.drop (k + 1))) := by
  have h1 := (List.getElem?_eq_some_iff.1 hx)
  obtain ⟨h2, h3⟩ := h1
  unfold foldL
  rw [List.drop_eq_getElem_cons h2, h3, Mt.fold_more nodeL nilL x (by intro e; have := congrArg List.length e; rw [List.length_drop] at this; simp at this; omega)]
theorem foldL_last {es : List (List UInt8)} {k : Nat} {x : List UInt8} (hx : es[k]? = some x) (hk : k + 1 = es.length) : foldL (es.drop k) = x := by
  obtain ⟨h2, h3⟩ := List.getElem?_eq_some_iff.1 hx
  rw [List.drop_eq_getElem_cons h2, h3, List.drop_of_length_le (by omega)]
  rfl
set_option maxHeartbeats 2000000 in
set_option maxRecDepth 100000 in
theorem rfold_any (ao : Option Addr) (n c : Nat) (es : List (List UInt8)) (w : World) (hs : RSrc strKind w ao n c es) (hl : ∀ e ∈ es, e.length ≤ 1099511627776) (hn : n ≤ 1099511627776) :
    Calls Tryd.prog 35 #[.slice ao n c] w fun e w' => e = .returned (.string ⟨(foldL es).toArray⟩) ∧ Below w.heap.size w w' := by
  have HS := keep hs
  have HSL := keep hs.len
  have HL := keep hl
  clear hs hl
  by_cases h0 : n = 0
  · subst h0
    have he : es = [] := List.length_eq_zero_iff.1 HSL.out
    subst he
    have RR := keep (rroot_any 0 [] rfl none 0 w (RSrc.empty (fun _ => rfl)) (fun e he => by cases he) (by decide))
    rw [show foldL [] = rootL [] from rfl]
    go_enter Tryd.func35, Tryd.ntmps35
    go_wp2_with fail
    refine RR.out.mono ?_
    rintro e w1 ⟨rfl, hb1⟩
    have B1 := keep hb1
    clear hb1 RR
    go_wp2
    go_ret
    exact ⟨rfl, B1.out⟩
  · obtain ⟨b, off, rfl, _, hcell⟩ := strs_at HS.out (by omega)
    obtain ⟨y, hy⟩ : ∃ y, es[n - 1]? = some y := ⟨es[n - 1]'(by rw [HSL.out]; omega), List.getElem?_eq_getElem _⟩
    have cy := hcell (n - 1) y hy
    have FY := keep (foldL_last hy (by rw [HSL.out]; omega))
    have HC := keep hcell
    have n0 : ((n : Int) == 0) = false := by simp; omega
    have n1 : ¬ (n : Int) = 0 := by omega
    have e1 : (n : Int) - 1 = ((n - 1 : Nat) : Int) := by omega
    have q0 : (0 : Int) ≤ ((n - 1 : Nat) : Int) := by omega
    have q1 : ((n - 1 : Nat) : Int) < (n : Int) := by omega
    have e2 : (n : Int) - 2 = ((n - 1 : Nat) : Int) - 1 := by omega
    clear hcell hy
    go_enter Tryd.func35, Tryd.ntmps35
    go_wp2
    go_loopw [3, 4] (fun h v wr => ∃ k : Nat, k ≤ n - 1 ∧ h = .string ⟨(foldL (es.drop k)).toArray⟩ ∧ v = .int .i64 ((k : Int) - 1) ∧ Hid (Below w.heap.size w wr)) (fun _ v _ => (intOf v + 1).toNat)
    case atStart => exact ⟨n - 1, Nat.le_refl _, by rw [FY.out], by first | rfl | go_num, Below.refl _ _⟩
    case round =>
      obtain ⟨k, hk, rfl, rfl, hI⟩ := hrel
      have B1 := keep hI.out
      clear hI
      cases k with
      | zero =>
        rw [List.drop_zero]
        go_wp2
        go_ret
        exact ⟨rfl, B1.out⟩
      | succ k =>
        obtain ⟨x, hx⟩ : ∃ x, es[k]? = some x := ⟨es[k]'(by rw [HSL.out]; omega), List.getElem?_eq_getElem _⟩
        have cx := below_cell B1.out (HC.out k x hx)
        have FS := keep (foldL_step hx (by rw [HSL.out]; omega))
        have l1 := HL.out x (List.mem_of_getElem? hx)
        have l2 := foldL_len (es := es.drop (k + 1)) (fun e he => HL.out e (List.mem_of_mem_drop he))
        have e3 : ((k + 1 : Nat) : Int) - 1 = (k : Int) := by omega
        rw [e3]
        obtain ⟨X, hX⟩ : ∃ X, foldL (es.drop (k + 1)) = X := ⟨_, rfl⟩
        rw [hX] at FS l2 ⊢
        have NN := keep (rnode_any x X wr (by omega))
        have k0 : (0 : Int) ≤ (k : Int) := by omega
        have k1 : (k : Int) < (n : Int) := by omega
        clear hx hX e3
        go_wp2_with fail
        refine NN.out.mono ?_
        rintro e w2 ⟨rfl, hb2⟩
        have B2 := keep (B1.out.trans (hb2.mono B1.out.size))
        clear hb2 NN cx
        go_wp2
        go_roundw
        case rel => exact ⟨k, by omega, by rw [FS.out], by first | rfl | go_num, B2.out⟩
        case measure => simp [intOf]
end Go.Proofs.YtkepjjkiajkdmaaDoor
namespace Go.Proofs.YtkepjjkiajkdmaaDoor
open Go.RowKit

/-- What Root answers. -/
def rtS (n : Int) (ps : List (List UInt8)) : List UInt8 := if ckS n ps then foldL ps else []
theorem ckS_parts {n : Int} {ps : List (List UInt8)} (h : ckS n ps = true) : 0 ≤ n ∧ n ≤ 1099511627776 ∧ ps.length = Mt.ones n.toNat ∧ wholeL ps = true := by
  unfold ckS at h
  simpa only [Bool.and_eq_true, decide_eq_true_eq] using h
theorem ones_le : ∀ x, Mt.ones x ≤ x := by
  intro x
  induction x using Nat.strongRecOn with
  | _ x ih =>
    rcases Nat.eq_zero_or_pos x with h | h
    · subst h; exact Nat.le_refl _
    · rw [Mt.ones_pos h]
      have := ih (x / 2) (by omega)
      omega
set_option maxHeartbeats 2000000 in
set_option maxRecDepth 100000 in
theorem rroot16_any (n : Int) (pp : Option Addr) (pm pc : Nat) (ps : List (List UInt8)) (w : World) (hs : RSrc strKind w pp pm pc ps) (hm : pm ≤ 4611686018427387904) :
    Calls Tryd.prog 13 #[.agg #[.int .i64 n, .slice pp pm pc]] w fun e w' => e = .returned (.tuple #[.string ⟨(rtS n ps).toArray⟩, .int .i64 (ckN n ps)]) ∧ Below w.heap.size w w' := by
  obtain ⟨W1, hW1⟩ : ∃ Wn, w.alloc (.cells #[.int .i64 n, .slice pp pm pc] 24) = Wn := ⟨_, rfl⟩
  have b1 : Hid (Below w.heap.size w W1) := by rw [← hW1]; exact (Below.refl _ _).alloc (Nat.le_refl _) _
  have c0 : W1.cell? ⟨w.heap.size, 0, none⟩ = some (.int .i64 n) := by rw [← hW1]; exact cell_of_row _ _ _ _ _ _ (heap_alloc_new w _)
  have c1 : W1.cell? ⟨w.heap.size, 1, none⟩ = some (.slice pp pm pc) := by rw [← hW1]; exact cell_of_row _ _ _ _ _ _ (heap_alloc_new w _)
  have CK := keep (rcheck16_any n pp pm pc ps W1 (hs.below strKind_ok b1.out) hm)
  have HS := keep hs
  have HSL := keep hs.len
  clear hs
  cases hc : ckS n ps with
  | false =>
    have h1 : ckN n ps = 1 := by unfold ckN; rw [hc]; rfl
    have h2 : rtS n ps = [] := by unfold rtS; rw [hc]; rfl
    rw [h1] at CK
    rw [h1, h2]
    clear hc h1 h2
    go_enter Tryd.func13, Tryd.ntmps13
    go_wp2_with fail
    refine CK.out.mono ?_
    rintro e w2 ⟨rfl, hb2⟩
    have B2 := keep (b1.out.trans (hb2.mono b1.out.size))
    clear hb2 CK hW1 c0 c1
    go_wp2
    go_ret2
    exact ⟨rfl, B2.out⟩
  | true =>
    have h1 : ckN n ps = 0 := by unfold ckN; rw [hc]; rfl
    have h2 : rtS n ps = foldL ps := by unfold rtS; rw [hc]; rfl
    obtain ⟨g1, g2, g3, g4⟩ := ckS_parts hc
    have hpm : pm ≤ 1099511627776 := by
      have h := ones_le n.toNat
      rw [← g3, HSL.out] at h
      omega
    have FO : Hid (∀ w', Below w.heap.size w w' → Calls Tryd.prog 35 #[.slice pp pm pc] w' fun e w'' => e = .returned (.string ⟨(foldL ps).toArray⟩) ∧ Below w'.heap.size w' w'') := fun w' hb => rfold_any pp pm pc ps w' (HS.out.below strKind_ok hb) (fun e he => by rw [wholeL_mem g4 e he]; decide) hpm
    obtain ⟨X, hX⟩ : ∃ X, foldL ps = X := ⟨_, rfl⟩
    rw [h1] at CK
    rw [h1, h2, hX]
    rw [hX] at FO
    clear hc h1 h2 g1 g2 g3 g4 hX
    go_enter Tryd.func13, Tryd.ntmps13
    go_wp2_with fail
    refine CK.out.mono ?_
    rintro e w2 ⟨rfl, hb2⟩
    have B2 := keep (b1.out.trans (hb2.mono b1.out.size))
    have d1 := below_cell hb2 c1
    clear hb2 CK hW1 c0 c1
    go_wp2_with fail
    refine (FO.out w2 B2.out).mono ?_
    rintro e w3 ⟨rfl, hb3⟩
    have B3 := keep (B2.out.trans (hb3.mono B2.out.size))
    clear hb3 FO d1
    go_wp2
    go_ret2
    exact ⟨rfl, B3.out⟩
end Go.Proofs.YtkepjjkiajkdmaaDoor
namespace Go.Proofs.YtkepjjkiajkdmaaDoor
open Go.RowKit

/-- May a leaf be pushed? -/
def pOk (n : Int) (ps : List (List UInt8)) (leaf : List UInt8) : Bool := ckS n ps && (!decide (n = 1099511627776) && decide (leaf.length = 32))
def pL (n : Int) (ps : List (List UInt8)) (leaf : List UInt8) : List (List UInt8) := if pOk n ps leaf then Mt.mrg nodeL n.toNat (ps ++ [leaf]) else []
def pN (n : Int) (ps : List (List UInt8)) (leaf : List UInt8) : Int := if pOk n ps leaf then n + 1 else 0
def pE (n : Int) (ps : List (List UInt8)) (leaf : List UInt8) : Int := ckV (pOk n ps leaf)
/-- A span of its own and an error, answered. -/
def SpA (w : World) (n : Int) (ps : List (List UInt8)) (er : Int) (e : Ending) (w' : World) : Prop :=
  ∃ v, e = .returned (.tuple #[.agg #[.int .i64 n, v], .int .i64 er]) ∧ w'.ownsRow w.heap.size 9 1 v ps.length (rv strKind ps) ∧ Below w.heap.size w w'
theorem SpA.none {w w' : World} {er : Int} (hb : Below w.heap.size w w') : SpA w 0 [] er (.returned (.tuple #[.agg #[.int .i64 0, .slice none 0 0], .int .i64 er])) w' := ⟨_, rfl, ⟨rfl, .inl ⟨rfl, rfl⟩⟩, hb⟩
theorem p_no {n : Int} {ps : List (List UInt8)} {leaf : List UInt8} (h : pOk n ps leaf = false) : pL n ps leaf = [] ∧ pN n ps leaf = 0 ∧ pE n ps leaf = 1 := by
  unfold pL pN pE
  rw [h]
  exact ⟨rfl, rfl, rfl⟩
theorem p_yes {n : Int} {ps : List (List UInt8)} {leaf : List UInt8} (h : pOk n ps leaf = true) : pL n ps leaf = Mt.mrg nodeL n.toNat (ps ++ [leaf]) ∧ pN n ps leaf = n + 1 ∧ pE n ps leaf = 0 := by
  unfold pL pN pE
  rw [h]
  exact ⟨rfl, rfl, rfl⟩
theorem set_far {w : World} {g b : Nat} (i : Nat) (v : Value) (h : g ≠ b) : (w.setCell ⟨b, i, none⟩ v).heap[g]? = w.heap[g]? := Below.heap_setCell w ⟨b, i, none⟩ v g h
theorem own_block {w w' : World} {B t k n : Nat} {v : Value} {xs : List Value} (h : w.ownsRow B t k v n xs) (hk : ∀ g, v.ownBlock = some g → w'.heap[g]? = w.heap[g]?) : w'.ownsRow B t k v n xs := by
  rcases h.2 with h0 | ⟨g, cap, cur, rfl, hb, hg, r⟩
  · exact ⟨h.1, .inl h0⟩
  · exact ⟨h.1, .inr ⟨g, cap, cur, rfl, hb, (hk g rfl).trans hg, r⟩⟩
theorem own_set {w : World} {B t k n R : Nat} {v : Value} {xs : List Value} (h : w.ownsRow B t k v n xs) (hR : R < B) (i : Nat) (u : Value) : (w.setCell ⟨R, i, none⟩ u).ownsRow B t k v n xs :=
  own_block h (fun g hg => set_far i u (by have := (h.lt g hg).1; omega))
theorem set2 {w : World} {R : Nat} {T : TypeId} {x y : Value} (h : w.heap[R]? = some (.cells #[x, y] T)) (a b : Value) : ((w.setCell ⟨R, 0, none⟩ a).setCell ⟨R, 1, none⟩ b).heap[R]? = some (.cells #[a, b] T) := by
  have h1 := put_row h 0 a
  have h2 := put_row h1 1 b
  simpa using h2
theorem mrg_len {α : Type} (nd : α → α → α) : ∀ (f n : Nat) (l : List α), (Mt.mrgF nd f n l).length ≤ l.length
  | 0, _, _ => Nat.le_refl _
  | f + 1, n, l => by
    show (if n % 2 = 1 then _ else _ : List α).length ≤ _
    split
    · refine Nat.le_trans (mrg_len nd f (n / 2) _) ?_
      unfold Mt.pair2
      split
      · next b a r h =>
        have h2 := congrArg List.length h
        simp only [List.length_reverse, List.length_cons] at h2 ⊢
        omega
      · exact Nat.le_refl _
    · exact Nat.le_refl _
theorem pL_len (n : Int) (ps : List (List UInt8)) (leaf : List UInt8) : (pL n ps leaf).length ≤ 1099511627777 := by
  unfold pL
  split
  · next h =>
    have h1 : ckS n ps = true := by
      unfold pOk at h
      rw [Bool.and_eq_true] at h
      exact h.1
    obtain ⟨_, d2, d3, _⟩ := ckS_parts h1
    have h2 := mrg_len nodeL n.toNat n.toNat (ps ++ [leaf])
    have h3 := ones_le n.toNat
    rw [List.length_append, d3] at h2
    simp only [List.length_cons, List.length_nil] at h2
    unfold Mt.mrg
    omega
  · exact Nat.zero_le _
end Go.Proofs.YtkepjjkiajkdmaaDoor
