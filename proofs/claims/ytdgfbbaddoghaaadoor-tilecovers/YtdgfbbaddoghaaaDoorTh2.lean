/- The walks of the closure of beside, of the two ends, of beside. -/
import Derived.Test.YtdgfbbaddoghaaaDoorTd
import Derived.Test.YtdgfbbaddoghaaaDoorTe
import Derived.Test.YtdgfbbaddoghaaaDoorKt
import Derived.Test.YtdgfbbaddoghaaaDoorTh0
import Derived.Deep.Upon
namespace Go.Proofs.YtdgfbbaddoghaaaDoor
open Go.RowKit
open Mt (Pos)

theorem infoPP : (Tryd.prog.info? 36).map (fun i => (i.zero, i.size, i.bytes)) = some (some (.slice none 0 0), 1, 24) := by kernel_rfl
/-- All blocks of cells stay but those of one number. -/
def K3 (w w' : World) : Prop := ∀ (g : Nat) (c : Array Value) (t : TypeId), w.heap[g]? = some (Obj.cells c t (0, 0)) → t ≠ 3 → w'.heap[g]? = some (Obj.cells c t (0, 0))
theorem K3.refl (w : World) : K3 w w := fun _ _ _ h _ => h
theorem K3.trans {a b c : World} (h : K3 a b) (k : K3 b c) : K3 a c := fun g x t hg ht => k g x t (h g x t hg ht) ht
theorem K3.below {w w' : World} (h : Below w.heap.size w w') : K3 w w' := fun g _ _ hg _ => (h.block g (Array.getElem?_eq_some_iff.1 hg).1).trans hg
theorem K3.set {w : World} {R : Nat} {c : Array Value} (h : w.heap[R]? = some (.cells c 3 (0, 0))) (i : Nat) (v : Value) : K3 w (w.setCell ⟨R, i, none⟩ v) := fun g x t hg ht =>
  (Below.heap_setCell w ⟨R, i, none⟩ v g (fun e => by
    have e : g = R := e
    subst e
    rw [h] at hg
    cases hg
    exact ht rfl)).trans hg
theorem K3.own {w w' : World} (h : K3 w w') {B t k n : Nat} {v : Value} {xs : List Value} (ht : t ≠ 3) (ho : w.ownsRow B t k v n xs) : w'.ownsRow B t k v n xs := by
  rcases ho.2 with h0 | ⟨g, cap, cur, rfl, hb, hg, r⟩
  · exact ⟨ho.1, .inl h0⟩
  · exact ⟨ho.1, .inr ⟨g, cap, cur, rfl, hb, h g cur t hg ht, r⟩⟩
theorem K3.rows {w w' : World} (h : K3 w w') {T TT : TypeId} (h1 : T ≠ 3) (h2 : TT ≠ 3) {B : Nat} {v : Value} {pss : List (List Pos)} (hr : RowsV T TT w B v pss) : RowsV T TT w' B v pss := by
  obtain ⟨xs, e, ho, hh⟩ := hr.is
  exact ⟨xs, e, h.own h2 ho, fun x hx => h.own h1 (hh x hx)⟩
/-- The three variables of beside in memory. -/
structure Bs (H i : Nat) (w0 w : World) (a b : Nat) : Prop where
  sz : H + 3 ≤ w.heap.size
  ci : w.heap[H]? = some (.cells #[.int .i64 (i : Int)] 3)
  ca : w.heap[H + 1]? = some (.cells #[.int .i64 (a : Int)] 3)
  cb : w.heap[H + 2]? = some (.cells #[.int .i64 (b : Int)] 3)
  low : Below H w0 w
theorem Bs.below {H i : Nat} {w0 w w' : World} {a b : Nat} (h : Bs H i w0 w a b) (hb : Below (H + 3) w w') : Bs H i w0 w' a b :=
  ⟨Nat.le_trans h.sz hb.size, (hb.block _ (by omega)).trans h.ci, (hb.block _ (by omega)).trans h.ca, (hb.block _ (by omega)).trans h.cb, h.low.trans (hb.mono (by omega))⟩
theorem Bs.mono {H i : Nat} {w0 w w' : World} {a b : Nat} (h : Bs H i w0 w a b) (hb : Below w.heap.size w w') : Bs H i w0 w' a b := h.below (hb.mono h.sz)
theorem Bs.setA {H i : Nat} {w0 w : World} {a b : Nat} (h : Bs H i w0 w a b) (k : Nat) : Bs H i w0 (w.setCell ⟨H + 1, 0, none⟩ (.int .i64 (k : Int))) k b := by
  have hs : (w.setCell ⟨H + 1, 0, none⟩ (.int .i64 (k : Int))).heap.size = w.heap.size := by simp only [World.setCell, Array.size_modify]
  refine ⟨by rw [hs]; exact h.sz, (Below.heap_setCell w ⟨H + 1, 0, none⟩ _ H (by show ¬ H = H + 1; omega)).trans h.ci, ?_, (Below.heap_setCell w ⟨H + 1, 0, none⟩ _ (H + 2) (by show ¬ H + 2 = H + 1; omega)).trans h.cb, h.low.setCell (p := ⟨H + 1, 0, none⟩) (by show H ≤ H + 1; omega) _⟩
  have := put_row h.ca 0 (.int .i64 (k : Int))
  simpa using this
theorem Bs.setB {H i : Nat} {w0 w : World} {a b : Nat} (h : Bs H i w0 w a b) (k : Nat) : Bs H i w0 (w.setCell ⟨H + 2, 0, none⟩ (.int .i64 (k : Int))) a k := by
  have hs : (w.setCell ⟨H + 2, 0, none⟩ (.int .i64 (k : Int))).heap.size = w.heap.size := by simp only [World.setCell, Array.size_modify]
  refine ⟨by rw [hs]; exact h.sz, (Below.heap_setCell w ⟨H + 2, 0, none⟩ _ H (by show ¬ H = H + 2; omega)).trans h.ci, (Below.heap_setCell w ⟨H + 2, 0, none⟩ _ (H + 1) (by show ¬ H + 1 = H + 2; omega)).trans h.ca, ?_, h.low.setCell (p := ⟨H + 2, 0, none⟩) (by show H ≤ H + 2; omega) _⟩
  have := put_row h.cb 0 (.int .i64 (k : Int))
  simpa using this
theorem Bs.cells {H i : Nat} {w0 w : World} {a b : Nat} (h : Bs H i w0 w a b) : w.cell? ⟨H + 1, 0, none⟩ = some (.int .i64 (a : Int)) ∧ w.cell? ⟨H + 2, 0, none⟩ = some (.int .i64 (b : Int)) ∧ w.cell? ⟨H, 0, none⟩ = some (.int .i64 (i : Int)) ∧ w.frozen? ⟨H + 1, 0, none⟩ = false ∧ w.frozen? ⟨H + 2, 0, none⟩ = false :=
  ⟨cell_of_row _ _ _ _ _ _ h.ca, cell_of_row _ _ _ _ _ _ h.cb, cell_of_row _ _ _ _ _ _ h.ci, by simp [World.frozen?, h.ca], by simp [World.frozen?, h.cb]⟩
/-- What one turn answers. -/
def OthA (H i : Nat) (w0 w : World) (a b : Nat) (ps : List Pos) (e : Ending) (w' : World) : Prop :=
  ∃ v, e = .returned v ∧ w'.ownsRow (H + 3) 41 2 v ps.length (rv posKind ps) ∧ Bs H i w0 w' a b ∧ K3 w w'
set_option maxHeartbeats 1000000 in
set_option maxRecDepth 100000 in
theorem other_any (H i : Nat) (w0 w : World) (a b : Nat) (hD : Bs H i w0 w a b) (h2 : 2 ≤ b - a) (hb : b ≤ 1099511627776) :
    Calls Tryd.prog 43 #[.pointer (some ⟨H + 1, 0, none⟩), .pointer (some ⟨H + 2, 0, none⟩), .pointer (some ⟨H, 0, none⟩)] w fun e w' =>
      if i < a + Mt.cut (b - a) then OthA H i w0 w a (a + Mt.cut (b - a)) (Mt.cov (a + Mt.cut (b - a)) b) e w' else OthA H i w0 w (a + Mt.cut (b - a)) b (Mt.cov a (a + Mt.cut (b - a))) e w' := by
  have HD := keep hD
  have hlt := Mt.cut_lt h2
  have hpo := Mt.cut_pos (b - a)
  have hrc := Mt.rf_half h2
  have hrb : Mt.rf (b - a) ≤ 1099511627776 := Mt.rf_le (j := 40) (by show b - a ≤ 1099511627776; omega)
  have RF := keep (fun w' => roof_any (b - a) w' (by omega) (by omega))
  have NA := keep (fun w' => nodes_any (a + Mt.cut (b - a)) b w' hb (by omega))
  have NB := keep (fun w' => nodes_any a (a + Mt.cut (b - a)) w' (by omega) (by omega))
  obtain ⟨k, hk⟩ : ∃ k, Mt.cut (b - a) = k := ⟨_, rfl⟩
  rw [hk] at hlt hpo hrc NA NB ⊢
  obtain ⟨K, hK⟩ : ∃ K, a + k = K := ⟨_, rfl⟩
  rw [hK] at NA NB ⊢
  obtain ⟨r, hr⟩ : ∃ r, Mt.rf (b - a) = r := ⟨_, rfl⟩
  rw [hr] at hrc hrb RF
  obtain ⟨D, hDD⟩ : ∃ D, b - a = D := ⟨_, rfl⟩
  rw [hDD] at RF hlt
  have e1 : (b : Int) - (a : Int) = (D : Int) := by omega
  have q1 : Int.tdiv (r : Int) 2 = (k : Int) := by rw [← hrc]; exact (Int.ofNat_tdiv r 2).symm
  have q2 : (r : Int) / 2 = (k : Int) := by omega
  have eK : (a : Int) + (k : Int) = (K : Int) := by omega
  have r1 : (r : Int) ≤ 1099511627776 := by omega
  have r0 : (0 : Int) ≤ (r : Int) := by omega
  have D1 : (D : Int) ≤ 1099511627776 := by omega
  have K1 : (K : Int) ≤ 1099511627776 := by omega
  have k1 : (k : Int) ≤ 1099511627776 := by omega
  have CF : Hid (∀ w', Below w.heap.size w w' → w'.cell? ⟨H + 1, 0, none⟩ = some (.int .i64 (a : Int)) ∧ w'.cell? ⟨H + 2, 0, none⟩ = some (.int .i64 (b : Int)) ∧ w'.cell? ⟨H, 0, none⟩ = some (.int .i64 (i : Int))) := fun w' hb => ⟨below_cell hb hD.cells.1, below_cell hb hD.cells.2.1, below_cell hb hD.cells.2.2.1⟩
  clear hD hk hK hr hDD hlt hpo hrc hrb h2 hb
  go_enter Tryd.func43, Tryd.ntmps43
  go_wp2_with fail
  refine wp_region_held_drew (S := fun w' => Below w.heap.size w w') (by kernel_rfl) ((Below.refl _ _).drew) (fun hHeld => ?_)
  refine takeH (i := 0) 7 (v := .int .i64 (a : Int)) rfl rfl (by kernel_rfl) (by kernel_rfl) (by kernel_rfl) (fun _ _ _ h => h) (Or.inl ⟨by rfl, ?_⟩) (by assumption) ?_
  · intro w' hSw'
    obtain ⟨y0, y1, y2⟩ := CF.out w' hSw'
    go_simp
  simp only [Act.put, List.setIfInBounds_toArray, List.set_cons_zero, List.set_cons_succ]
  refine takeH (i := 1) 8 (v := .int .i64 (b : Int)) rfl rfl (by kernel_rfl) (by kernel_rfl) (by kernel_rfl) (fun _ _ _ h => h) (Or.inl ⟨by rfl, ?_⟩) (by assumption) ?_
  · intro w' hSw'
    obtain ⟨y0, y1, y2⟩ := CF.out w' hSw'
    go_simp
  simp only [Act.put, List.setIfInBounds_toArray, List.set_cons_zero, List.set_cons_succ]
  refine takeH (i := 2) 9 (v := .int .i64 (a : Int)) rfl rfl (by kernel_rfl) (by kernel_rfl) (by kernel_rfl) (fun _ _ _ h => h) (Or.inl ⟨by rfl, ?_⟩) (by assumption) ?_
  · intro w' hSw'
    obtain ⟨y0, y1, y2⟩ := CF.out w' hSw'
    go_simp
  simp only [Act.put, List.setIfInBounds_toArray, List.set_cons_zero, List.set_cons_succ]
  refine takeH (i := 3) 10 (v := .int .i64 (D : Int)) rfl rfl (by kernel_rfl) (by kernel_rfl) (by kernel_rfl) (fun _ _ _ h => h) (Or.inl ⟨by rfl, ?_⟩) (by assumption) ?_
  · intro w' hSw'
    go_simp
    exact wrap_small _ (by omega) (by omega)
  simp only [Act.put, List.setIfInBounds_toArray, List.set_cons_zero, List.set_cons_succ]
  refine wpAnyH_ready (rs := [4]) (by kernel_rfl) (by simp) ?_
  refine AllReadyH.cons rfl (fun K hK => ?_) AllReadyH.nil
  go_simp
  refine (RF.out _).mono ?_
  rintro e w2 ⟨rfl, hw2⟩
  have b2w : Hid (Below w.heap.size w w2) := by rw [hw2]; assumption
  clear hw2
  go_wp2_with fail
  refine hK.out _ _ (b2w.out) (fun hHeld1 => ?_)
  clear hK K
  refine takeH (i := 5) 12 (v := .int .i64 (k : Int)) rfl rfl (by kernel_rfl) (by kernel_rfl) (by kernel_rfl) (fun _ _ _ h => h) (Or.inl ⟨by rfl, ?_⟩) (by assumption) ?_
  · intro w' hSw'
    go_simp
    exact wrap_small _ (by omega) (by omega)
  simp only [Act.put, List.setIfInBounds_toArray, List.set_cons_zero, List.set_cons_succ]
  refine takeH (i := 6) 13 (v := .int .i64 (K : Int)) rfl rfl (by kernel_rfl) (by kernel_rfl) (by kernel_rfl) (fun _ _ _ h => h) (Or.inl ⟨by rfl, ?_⟩) (by assumption) ?_
  · intro w' hSw'
    go_simp
    exact wrap_small _ (by omega) (by omega)
  simp only [Act.put, List.setIfInBounds_toArray, List.set_cons_zero, List.set_cons_succ]
  refine takeH (i := 7) 4 (v := .int .i64 (K : Int)) rfl rfl (by kernel_rfl) (by kernel_rfl) (by kernel_rfl) (fun _ _ _ h => h) (Or.inl ⟨by rfl, ?_⟩) (by assumption) ?_
  · intro w' hSw'
    go_simp
  simp only [Act.put, List.setIfInBounds_toArray, List.set_cons_zero, List.set_cons_succ]
  refine wpAnyH_done (by kernel_rfl) ?_ _
  have hDw : Hid (Bs H i w0 w2 a b) := HD.out.mono b2w.out
  obtain ⟨x0, x1, x2, _, _⟩ := hDw.out.cells
  clear CF RF q1 q2
  by_cases hi : i < K
  · have iK : (i : Int) < (K : Int) := by omega
    clear hi NB
    go_wp2_with fail
    refine (NA.out w2).mono ?_
    rintro e w3 ⟨v3, rfl, ho3, hb3⟩
    obtain ⟨p3, c3, rfl⟩ := own_is ho3
    have O3 := keep (own_low ho3 hDw.out.sz)
    have B3 := keep hb3
    have D3 := keep (hDw.out.mono hb3)
    obtain ⟨y0, y1, y2, f1, f2⟩ := D3.out.cells
    clear ho3 hb3 x0 x1 x2 NA
    go_wp2
    go_ret
    exact ⟨_, rfl, own_setP O3.out (by omega) _ _, D3.out.setB K, ((K3.below b2w.out).trans (K3.below B3.out)).trans (K3.set D3.out.cb 0 _)⟩
  · have iK : ¬ (i : Int) < (K : Int) := by omega
    clear hi NA
    go_wp2_with fail
    refine (NB.out w2).mono ?_
    rintro e w3 ⟨v3, rfl, ho3, hb3⟩
    obtain ⟨p3, c3, rfl⟩ := own_is ho3
    have O3 := keep (own_low ho3 hDw.out.sz)
    have B3 := keep hb3
    have D3 := keep (hDw.out.mono hb3)
    obtain ⟨y0, y1, y2, f1, f2⟩ := D3.out.cells
    clear ho3 hb3 x0 x1 x2 NB
    go_wp2
    go_ret
    exact ⟨_, rfl, own_setP O3.out (by omega) _ _, D3.out.setA K, ((K3.below b2w.out).trans (K3.below B3.out)).trans (K3.set D3.out.ca 0 _)⟩
end Go.Proofs.YtdgfbbaddoghaaaDoor
