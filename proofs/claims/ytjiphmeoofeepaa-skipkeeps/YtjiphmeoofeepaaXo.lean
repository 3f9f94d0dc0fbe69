/- The document's list behind a Put of a new entry; no walk. -/
import Derived.Test.YtjiphmeoofeepaaXn
namespace Go.Proofs.Ytjiphmeoofeepaa
open Go.RowKit
open Sk (Ent)

theorem OwnE.far {B : Nat} {w w' : World} {z : EV} (h : OwnE B w z) (hf : ∀ (g : Nat) (cur : Array Value), w.heap[g]? = some (.cells cur 5 (0, 0)) → w'.heap[g]? = w.heap[g]?) : OwnE B w' z := by
  have one : ∀ {v : Value} {n : Nat} {xs : List Value}, w.ownsRow B 5 1 v n xs → w'.ownsRow B 5 1 v n xs := fun {v n xs} ho => own_block ho (fun g hg => by
    obtain ⟨cur, hc⟩ := own_tag ho hg
    exact hf g cur hc)
  exact ⟨one h.1, one h.2⟩
theorem set_size (w : World) (p : Addr) (v : Value) : (w.setCell p v).heap.size = w.heap.size := by simp [World.setCell]
theorem RMem.laid {B : Nat} {w : World} {r : Nat} {ys : List EV} {hs : List Int} (hM : RMem B w r ys hs) (hBw : B ≤ w.heap.size) {x : Ent} (hmay : Sk.may x = true) (hth : Sk.there (ys.map (·.e)) x = false) {k : Nat} (hk : k = Sk.at_ (ys.map (·.e)) x) {y : EV} (hy : y.e = x) {hgt : Int} {w8 w10 : World} {vL vH : Value} (h8 : Below w.heap.size w w8)
    (row8 : w8.ownsRow w.heap.size 28 4 vL (ys.length + 1) (rv entKind (ys.take k ++ y :: ys.drop k))) (hyo : OwnE w.heap.size w8 y)
    (h10 : Below (w8.setCell ⟨r, 0, none⟩ vL).heap.size (w8.setCell ⟨r, 0, none⟩ vL) w10) (rowH : w10.ownsRow w8.heap.size 3 1 vH (hs.length + 1) ((hs.take k ++ hgt :: hs.drop k).map (Value.int .i64))) :
    RMem B (w10.setCell ⟨r, 1, none⟩ vH) r (ys.take k ++ y :: ys.drop k) (hs.take k ++ hgt :: hs.drop k) ∧ Kept (· = r) w (w10.setCell ⟨r, 1, none⟩ vH) := by
  obtain ⟨vL0, vH0, hrow, hE, hH⟩ := hM.row
  have hkn : k ≤ ys.length := by
    have := (Sk.at_cut hM.up x).1
    rw [← hk, List.length_map] at this
    exact this
  have hrl : r < w.heap.size := (Array.getElem?_eq_some_iff.1 hrow).1
  have z9 : (w8.setCell ⟨r, 0, none⟩ vL).heap.size = w8.heap.size := set_size _ _ _
  have r8 : w8.heap[r]? = some (.cells #[vL0, vH0] 39 (0, 0)) := (h8.block r hrl).trans hrow
  have r9 : (w8.setCell ⟨r, 0, none⟩ vL).heap[r]? = some (.cells #[vL, vH0] 39 (0, 0)) := by
    have := set_row r8 0 vL
    simpa using this
  have r10 : w10.heap[r]? = some (.cells #[vL, vH0] 39 (0, 0)) := (h10.block r (by rw [z9]; exact Nat.lt_of_lt_of_le hrl h8.size)).trans r9
  have r11 : (w10.setCell ⟨r, 1, none⟩ vH).heap[r]? = some (.cells #[vL, vH] 39 (0, 0)) := by
    have := set_row r10 1 vH
    simpa using this
  have far : ∀ g, g < w8.heap.size → g ≠ r → (w10.setCell ⟨r, 1, none⟩ vH).heap[g]? = w8.heap[g]? := fun g hg hne => by
    rw [set_far _ _ hne, h10.block g (by rw [z9]; exact hg), set_far _ _ hne]
  have tag : ∀ (g : Nat) (cur : Array Value), w8.heap[g]? = some (.cells cur 5 (0, 0)) → (w10.setCell ⟨r, 1, none⟩ vH).heap[g]? = w8.heap[g]? := fun g cur hc => far g (Array.getElem?_eq_some_iff.1 hc).1 (fun e => by
    rw [e, r8] at hc
    simp at hc)
  refine ⟨⟨hM.ge, ⟨vL, vH, r11, ⟨?_, fun z hz => ?_⟩, ?_⟩, ?_, ?_, fun z hz => ?_⟩, ?_⟩
  · have hl : (ys.take k ++ y :: ys.drop k).length = ys.length + 1 := by simp; omega
    rw [hl]
    refine own_base (own_block row8 (fun g hg => far g (own_size row8 hg) (fun e => ?_))) (fun g hg => Nat.le_trans hBw (row8.lt g hg).1)
    have := (row8.lt g hg).1
    omega
  · have hz2 : z = y ∨ z ∈ ys := by
      rcases List.mem_append.1 hz with h | h
      · exact .inr (List.mem_of_mem_take h)
      · rcases List.mem_cons.1 h with h | h
        · exact .inl h
        · exact .inr (List.mem_of_mem_drop h)
    rcases hz2 with rfl | hz2
    · exact (hyo.base hBw).far tag
    · refine OwnE.far (w := w8) ?_ tag
      exact (hE.each z hz2).far (fun g cur hc => h8.block g (Array.getElem?_eq_some_iff.1 hc).1)
  · have hl : (hs.take k ++ hgt :: hs.drop k).length = hs.length + 1 := by
      have := hM.len
      simp
      omega
    rw [hl]
    refine own_base (own_block rowH (fun g hg => set_far _ _ (fun e => ?_))) (fun g hg => Nat.le_trans (Nat.le_trans hBw h8.size) (rowH.lt g hg).1)
    have := (rowH.lt g hg).1
    have := h8.size
    omega
  · have := hM.len
    simp
    omega
  · have e1 : (ys.take k ++ y :: ys.drop k).map (·.e) = Sk.ins (ys.map (·.e)) x := by
      unfold Sk.ins
      rw [← hk, List.map_append, List.map_cons, List.map_take, List.map_drop, hy]
    rw [e1]
    exact Sk.ins_up hM.up hth
  · rcases List.mem_append.1 hz with h | h
    · exact hM.may z (List.mem_of_mem_take h)
    · rcases List.mem_cons.1 h with rfl | h
      · rw [hy]; exact hmay
      · exact hM.may z (List.mem_of_mem_drop h)
  · have k1 : Kept (· = r) w w8 := Kept.of_below h8
    have k2 : Kept (· = r) w8 (w8.setCell ⟨r, 0, none⟩ vL) := Kept.setCell (Kept.refl (· = r) w8) (p := ⟨r, 0, none⟩) (.inl rfl) _
    have k3 : Kept (· = r) (w8.setCell ⟨r, 0, none⟩ vL) w10 := Kept.of_below h10
    exact Kept.setCell ((k1.trans k2).trans k3) (p := ⟨r, 1, none⟩) (.inl rfl) _
/-- Behind the first half of Put: the row of entries is laid. -/
def Put8 (w : World) (r : Nat) (ys : List EV) (k : Nat) (x : Ent) (w' : World) : Prop := ∃ (y : EV) (a5 : Option Addr) (n c5 : Nat) (x5 : World), n = ys.length + 1 ∧ w' = x5.setCell ⟨r, 0, none⟩ (.slice a5 n c5) ∧ y.e = x ∧ Below w.heap.size w x5 ∧ x5.ownsRow w.heap.size 28 4 (.slice a5 n c5) n (rv entKind (ys.take k ++ y :: ys.drop k)) ∧ OwnE w.heap.size x5 y
/-- Behind the second half: the row of heights. -/
def Put9 (wE : World) (r : Nat) (hs : List Int) (k : Nat) (hgt : Int) (w' : World) : Prop := ∃ (a5 : Option Addr) (n c5 : Nat) (x5 : World), n = hs.length + 1 ∧ w' = x5.setCell ⟨r, 1, none⟩ (.slice a5 n c5) ∧ Below wE.heap.size wE x5 ∧ x5.ownsRow wE.heap.size 3 1 (.slice a5 n c5) n ((hs.take k ++ hgt :: hs.drop k).map (Value.int .i64))
end Go.Proofs.Ytjiphmeoofeepaa
