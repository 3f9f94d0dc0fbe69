/- The node stands: the list counts it; no walk. -/
import Derived.Test.YtjiphmeoofeepaaVe
namespace Go.Proofs.Ytjiphmeoofeepaa
open Go.RowKit
open Sk (Ent)
section
variable {B : Nat} {W : World} {b : Nat} {pre post : List Nd} {g : Nat} {y : EV} {k : Nat} {wr : World}
theorem Rise.done (h : Rise B W b pre post g y k wr) (ht : Tall (pre ++ ⟨g, y, k⟩ :: post)) (hu : Sk.Up (ents (pre ++ ⟨g, y, k⟩ :: post))) (hg : ∀ n ∈ pre ++ (⟨g, y, k⟩ : Nd) :: post, Sk.may n.x.e = true) (hf : ∀ q, foot b (pre ++ ⟨g, y, k⟩ :: post) q → B ≤ q)
    (hc : (wr.cell? ⟨b, 16, none⟩).isSome = true) (hs : (wr.cell? ⟨b, 17, none⟩).isSome = true) :
    LMem B ((wr.setCell ⟨b, 16, none⟩ (.int .i64 ((pre ++ (⟨g, y, k⟩ : Nd) :: post).length : Int))).setCell ⟨b, 17, none⟩ (.int .i64 (Sk.size (ents (pre ++ ⟨g, y, k⟩ :: post)) : Int))) b (pre ++ ⟨g, y, k⟩ :: post) ∧
    Kept (foot b (pre ++ ⟨g, y, k⟩ :: post)) W ((wr.setCell ⟨b, 16, none⟩ (.int .i64 ((pre ++ (⟨g, y, k⟩ : Nd) :: post).length : Int))).setCell ⟨b, 17, none⟩ (.int .i64 (Sk.size (ents (pre ++ ⟨g, y, k⟩ :: post)) : Int))) := by
  obtain ⟨v1, hv1⟩ : ∃ v1, Value.int .i64 ((pre ++ (⟨g, y, k⟩ : Nd) :: post).length : Int) = v1 := ⟨_, rfl⟩
  obtain ⟨v2, hv2⟩ : ∃ v2, Value.int .i64 (Sk.size (ents (pre ++ ⟨g, y, k⟩ :: post)) : Int) = v2 := ⟨_, rfl⟩
  rw [hv1, hv2]
  have far : ∀ q, q ≠ b → ((wr.setCell ⟨b, 16, none⟩ v1).setCell ⟨b, 17, none⟩ v2).heap[q]? = wr.heap[q]? := fun q hq => by rw [set_far _ _ hq, set_far _ _ hq]
  have low : ∀ i, i < 16 → ((wr.setCell ⟨b, 16, none⟩ v1).setCell ⟨b, 17, none⟩ v2).cell? ⟨b, i, none⟩ = wr.cell? ⟨b, i, none⟩ := fun i hi => by
    rw [set_cell_far (by intro e; simp only [Addr.mk.injEq, and_true] at e; omega), set_cell_far (by intro e; simp only [Addr.mk.injEq, and_true] at e; omega)]
  have nod : ∀ n ∈ pre ++ (⟨g, y, k⟩ : Nd) :: post, ∀ i, ((wr.setCell ⟨b, 16, none⟩ v1).setCell ⟨b, 17, none⟩ v2).cell? ⟨n.g, i, none⟩ = wr.cell? ⟨n.g, i, none⟩ := fun n hn i => World.cell?_of_block (w := wr) (a := ⟨n.g, i, none⟩) (far n.g (h.lone.off n hn))
  have h5 : ∀ (q : Nat) (c : Array Value), wr.heap[q]? = some (.cells c 5 (0, 0)) → ((wr.setCell ⟨b, 16, none⟩ v1).setCell ⟨b, 17, none⟩ v2).heap[q]? = wr.heap[q]? := fun q c hc' => far q (fun e => by
    obtain ⟨c', h1⟩ := h.tagB
    rw [e, h1] at hc'
    cases hc')
  refine ⟨⟨⟨⟨fun j hj => by rw [low _ (by omega)]; exact h.chain.head j hj, fun i n hn j hj => by rw [nod n (List.mem_of_getElem? hn)]; exact h.chain.links i n hn j hj, fun n hn => ⟨fun j u hj => by rw [nod n hn]; exact (h.chain.ents n hn).1 j u hj, ((h.own n hn).keepB h5).held⟩⟩, ht, hu, fun n hn => ?_⟩, h.lone, fun n hn => (h.own n hn).keepB h5, hf, ?_, fun n hn => ?_, ?_, ?_, hg⟩, (h.kept.setCell (p := ⟨b, 16, none⟩) (.inl (.inl rfl)) _).setCell (p := ⟨b, 17, none⟩) (.inl (.inl rfl)) _⟩
  · have := hg n hn
    unfold Sk.may at this
    simp at this
    omega
  · obtain ⟨c, hc'⟩ := h.tagB
    exact ⟨_, set_row (set_row hc' 16 v1) 17 v2⟩
  · obtain ⟨c, hc'⟩ := h.tagN n hn
    exact ⟨c, (far n.g (h.lone.off n hn)).trans hc'⟩
  · rw [set_cell_far (by intro e; simp only [Addr.mk.injEq, and_true] at e; omega), hv1]
    exact World.cell?_setCell_same' _ _ _ hc
  · rw [hv2]
    exact World.cell?_setCell_same' _ _ _ (by rw [set_cell_far (by intro e; simp only [Addr.mk.injEq, and_true] at e; omega)]; exact hs)
end
theorem ents_ins (ns : List Nd) (n : Nd) (k : Nat) : ents (ns.take k ++ n :: ns.drop k) = (ents ns).take k ++ n.x.e :: (ents ns).drop k := by simp [ents]
/-- A node is laid into a new block: nobody points to it yet. -/
theorem LMem.lay {B : Nat} {w W : World} {b : Nat} {ns : List Nd} (h : LMem B w b ns) (hb : Below w.heap.size w W) (k : Nat) (g : Nat) (y : EV) (hg : w.heap.size ≤ g) (hW : W.heap[g]? = some (.cells #[.slice y.kp y.e.key.length y.kc, .int .i64 y.e.seq, .bool y.e.gone, .slice y.vp y.e.val.length y.vc, .pointer none, .pointer none, .pointer none, .pointer none, .pointer none, .pointer none, .pointer none, .pointer none, .pointer none, .pointer none, .pointer none, .pointer none] 49 (0, 0))) (hy : OwnE B W y) :
    Rise B W b (ns.take k) (ns.drop k) g y 0 W := by
  have hM := h.below hb
  have hold : ∀ q, foot b ns q → q < w.heap.size := fun q hq => h.lt hq
  have hsp : ns.take k ++ ns.drop k = ns := List.take_append_drop _ _
  have hne : ∀ n ∈ ns, n.g ≠ g := fun n hn e => by have := hold n.g (.inr ⟨n, hn, rfl⟩); omega
  have hmem : ∀ n ∈ ns.take k ++ (⟨g, y, 0⟩ : Nd) :: ns.drop k, n = ⟨g, y, 0⟩ ∨ n ∈ ns := fun n hn => by
    rcases List.mem_append.1 hn with h1 | h1
    · exact .inr (List.mem_of_mem_take h1)
    · rcases List.mem_cons.1 h1 with h1 | h1
      · exact .inl h1
      · exact .inr (List.mem_of_mem_drop h1)
  refine ⟨Chain.insert (by rw [hsp]; exact hM.mem.chain) rfl (fun j hj => ?_) (fun j u hu => ?_) hy.held, ⟨fun p q m m' hm hm' e => ?_, fun m hm => ?_⟩, fun n hn => ?_, hM.tagB, fun n hn => ?_, Kept.refl _ _, rfl, rfl⟩
  · rw [cell_of_row _ _ _ _ _ _ hW]
    have : j = 0 ∨ j = 1 ∨ j = 2 ∨ j = 3 ∨ j = 4 ∨ j = 5 ∨ j = 6 ∨ j = 7 ∨ j = 8 ∨ j = 9 ∨ j = 10 ∨ j = 11 := by omega
    rcases this with rfl | rfl | rfl | rfl | rfl | rfl | rfl | rfl | rfl | rfl | rfl | rfl <;> rfl
  · rw [cell_of_row _ _ _ _ _ _ hW]
    have hj : j < 4 := (List.getElem?_eq_some_iff.1 hu).1
    have : j = 0 ∨ j = 1 ∨ j = 2 ∨ j = 3 := by omega
    rcases this with rfl | rfl | rfl | rfl <;> exact hu
  · have cls : ∀ (p : Nat) (m : Nd), (ns.take k ++ (⟨g, y, 0⟩ : Nd) :: ns.drop k)[p]? = some m → (p = (ns.take k).length ∧ m = ⟨g, y, 0⟩) ∨ (p < (ns.take k).length ∧ ns[p]? = some m) ∨ ((ns.take k).length < p ∧ ns[p - 1]? = some m) := fun p m hm => by
      rcases Nat.lt_trichotomy p (ns.take k).length with h1 | h1 | h1
      · rw [List.getElem?_append_left h1, List.getElem?_take] at hm
        split at hm
        · exact .inr (.inl ⟨h1, hm⟩)
        · cases hm
      · subst h1
        rw [at_new] at hm
        cases hm
        exact .inl ⟨rfl, rfl⟩
      · rw [List.getElem?_append_right (by omega), show p - (ns.take k).length = (p - (ns.take k).length - 1) + 1 by omega, List.getElem?_cons_succ, List.getElem?_drop] at hm
        refine .inr (.inr ⟨h1, ?_⟩)
        have hkl : (ns.take k).length = min k ns.length := List.length_take
        have hlt := (List.getElem?_eq_some_iff.1 hm).1
        rw [show p - 1 = k + (p - (ns.take k).length - 1) by omega]
        exact hm
    rcases cls p m hm with ⟨h1, rfl⟩ | ⟨h1, h2⟩ | ⟨h1, h2⟩ <;> rcases cls q m' hm' with ⟨h3, rfl⟩ | ⟨h3, h4⟩ | ⟨h3, h4⟩
    · omega
    · exact absurd e.symm (hne m' (List.mem_of_getElem? h4))
    · exact absurd e.symm (hne m' (List.mem_of_getElem? h4))
    · exact absurd e (hne m (List.mem_of_getElem? h2))
    · exact h.lone.one _ _ _ _ h2 h4 e
    · have := h.lone.one _ _ _ _ h2 h4 e; omega
    · exact absurd e (hne m (List.mem_of_getElem? h2))
    · have := h.lone.one _ _ _ _ h2 h4 e; omega
    · have := h.lone.one _ _ _ _ h2 h4 e; omega
  · rcases hmem m hm with rfl | h1
    · intro e
      have := hold b (.inl rfl)
      have e' : g = b := e
      omega
    · exact h.lone.off m h1
  · rcases hmem n hn with rfl | h1
    · exact hy
    · exact hM.own n h1
  · rcases hmem n hn with rfl | h1
    · exact ⟨_, hW⟩
    · exact hM.tagN n h1
end Go.Proofs.Ytjiphmeoofeepaa
