/- A whole list in memory: its blocks, its count and size; what Put's stores make of it; no walk. -/
import Derived.Test.YtjiphmeoofeepaaRz
import Derived.Test.YtjiphmeoofeepaaVa
namespace Go.Proofs.Ytjiphmeoofeepaa
open Go.RowKit
open Sk (Ent)

/-- The blocks that a list writes: the list's own and its nodes'. -/
def foot (b : Nat) (ns : List Nd) (g : Nat) : Prop := g = b ∨ ∃ n ∈ ns, n.g = g
def ents (ns : List Nd) : List Ent := ns.map (·.x.e)
/-- A list that was made at or beyond B. -/
structure LMem (B : Nat) (w : World) (b : Nat) (ns : List Nd) : Prop where
  mem : SMem w b ns
  lone : Lone b ns
  own : ∀ n ∈ ns, OwnE B w n.x
  far : ∀ g, foot b ns g → B ≤ g
  tagB : ∃ c, w.heap[b]? = some (.cells c 51 (0, 0))
  tagN : ∀ n ∈ ns, ∃ c, w.heap[n.g]? = some (.cells c 49 (0, 0))
  count : w.cell? ⟨b, 16, none⟩ = some (.int .i64 (ns.length : Int))
  size : w.cell? ⟨b, 17, none⟩ = some (.int .i64 (Sk.size (ents ns) : Int))
  good : ∀ n ∈ ns, Sk.may n.x.e = true
theorem LMem.tag {B : Nat} {w : World} {b : Nat} {ns : List Nd} (h : LMem B w b ns) {g : Nat} (hg : foot b ns g) : ∃ c t, w.heap[g]? = some (.cells c t (0, 0)) ∧ t ≠ 5 := by
  rcases hg with rfl | ⟨n, hn, rfl⟩
  · obtain ⟨c, hc⟩ := h.tagB; exact ⟨c, _, hc, by decide⟩
  · obtain ⟨c, hc⟩ := h.tagN n hn; exact ⟨c, _, hc, by decide⟩
theorem LMem.lt {B : Nat} {w : World} {b : Nat} {ns : List Nd} (h : LMem B w b ns) {g : Nat} (hg : foot b ns g) : g < w.heap.size := by
  obtain ⟨c, t, hc, _⟩ := h.tag hg
  exact (Array.getElem?_eq_some_iff.1 hc).1
theorem OwnE.keepB {B : Nat} {w w' : World} {y : EV} (h : OwnE B w y) (hk : ∀ (g : Nat) (c : Array Value), w.heap[g]? = some (.cells c 5 (0, 0)) → w'.heap[g]? = w.heap[g]?) : OwnE B w' y :=
  ⟨own_block h.1 (fun g hg => by obtain ⟨c, hc⟩ := own_tag h.1 hg; exact hk g c hc), own_block h.2 (fun g hg => by obtain ⟨c, hc⟩ := own_tag h.2 hg; exact hk g c hc)⟩
/-- Blocks that are not the list's, and no bytes, may turn. -/
theorem LMem.kept {B : Nat} {w w' : World} {b : Nat} {ns : List Nd} {U : Nat → Prop} (h : LMem B w b ns) (hk : Kept U w w') (hU : ∀ g, U g → g < w.heap.size → ¬ foot b ns g ∧ ∃ c t, w.heap[g]? = some (.cells c t (0, 0)) ∧ t ≠ 5) : LMem B w' b ns := by
  have hf : ∀ g, foot b ns g → w'.heap[g]? = w.heap[g]? := fun g hg => hk.block g (h.lt hg) (fun e => (hU g e (h.lt hg)).1 hg)
  have h5 : ∀ (g : Nat) (c : Array Value), w.heap[g]? = some (.cells c 5 (0, 0)) → w'.heap[g]? = w.heap[g]? := fun g c hc => hk.block g (Array.getElem?_eq_some_iff.1 hc).1 (fun e => by
    obtain ⟨_, c', t, h1, h2⟩ := hU g e (Array.getElem?_eq_some_iff.1 hc).1
    rw [hc] at h1
    cases h1
    exact h2 rfl)
  have cf : ∀ g i, foot b ns g → w'.cell? ⟨g, i, none⟩ = w.cell? ⟨g, i, none⟩ := fun g i hg => World.cell?_of_block (w := w) (a := ⟨g, i, none⟩) (hf g hg)
  have fb : foot b ns b := .inl rfl
  have fn : ∀ n ∈ ns, foot b ns n.g := fun n hn => .inr ⟨n, hn, rfl⟩
  refine ⟨⟨⟨fun j hj => by rw [cf b _ fb]; exact h.mem.chain.head j hj, fun i n hn j hj => by rw [cf n.g _ (fn n (List.mem_of_getElem? hn))]; exact h.mem.chain.links i n hn j hj, fun n hn => ⟨fun j u hu => by rw [cf n.g _ (fn n hn)]; exact (h.mem.chain.ents n hn).1 j u hu, ((h.own n hn).keepB h5).held⟩⟩, h.mem.tall, h.mem.up, h.mem.short⟩, h.lone, fun n hn => (h.own n hn).keepB h5, h.far, ?_, fun n hn => ?_, by rw [cf b _ fb]; exact h.count, by rw [cf b _ fb]; exact h.size, h.good⟩
  · obtain ⟨c, hc⟩ := h.tagB; exact ⟨c, (hf b fb).trans hc⟩
  · obtain ⟨c, hc⟩ := h.tagN n hn; exact ⟨c, (hf n.g (fn n hn)).trans hc⟩
theorem LMem.below {B : Nat} {w w' : World} {b : Nat} {ns : List Nd} (h : LMem B w b ns) (hb : Below w.heap.size w w') : LMem B w' b ns := h.kept (U := fun _ => False) (Kept.of_below hb) (fun _ e => e.elim)
theorem new_lmem (w : World) {B : Nat} (hB : B ≤ w.heap.size) : LMem B (w.alloc (.cells listZ 51)) w.heap.size [] := by
  have hh := heap_alloc_new w (.cells listZ 51)
  refine ⟨new_mem w, ⟨fun p q m m' h => by simp at h, fun m h => by cases h⟩, (fun n h => by cases h), fun g hg => ?_, ⟨_, hh⟩, (fun n h => by cases h), cell_of_row _ _ _ _ _ _ hh, cell_of_row _ _ _ _ _ _ hh, (fun n h => by cases h)⟩
  rcases hg with rfl | ⟨n, hn, _⟩
  · exact hB
  · cases hn

/-- What stands ahead alone tells the last place. -/
theorem last_same (pre c1 c2 : List Nd) (i : Nat) : ∀ k, k ≤ pre.length → lastAt (pre ++ c1) i k = lastAt (pre ++ c2) i k
  | 0, _ => rfl
  | k + 1, h => by
    simp only [lastAt]
    rw [List.getElem?_append_left (by omega), List.getElem?_append_left (by omega), last_same pre c1 c2 i k (by omega)]
theorem blk_same (b : Nat) (pre c1 c2 : List Nd) : ∀ q, q ≤ pre.length → blk b (pre ++ c1) q = blk b (pre ++ c2) q
  | 0, _ => rfl
  | q + 1, h => by
    simp only [blk]
    rw [List.getElem?_append_left (by omega), List.getElem?_append_left (by omega)]
/-- The last one ahead points to the next one behind. -/
theorem last_next {pre post : List Nd} {n : Nd} {i : Nat} (hn : ¬ i < n.h) : nxt ((pre ++ n :: post).drop (lastAt (pre ++ n :: post) i pre.length)) i = nxt post i := by
  have hle := lastAt_le (pre ++ n :: post) i pre.length
  have hhi := lastAt_high (pre ++ n :: post) i pre.length
  obtain ⟨q, hq⟩ : ∃ q, lastAt (pre ++ n :: post) i pre.length = q := ⟨_, rfl⟩
  rw [hq] at hle hhi ⊢
  have ha : anyHigh (pre.drop q) i = false := by
    cases q with
    | zero => exact lastAt_zero.1 hq
    | succ p =>
      obtain ⟨m, h1, h2⟩ := hhi
      rw [List.getElem?_append_left (by omega)] at h1
      exact (lastAt_pre (by omega) h1 h2).1 hq
  rw [List.drop_append_of_le_length hle, nxt_behind ha]
  simp only [nxt]
  rw [if_neg hn]
theorem whose_foot (b : Nat) (pre post : List Nd) (n : Nd) (i : Nat) : foot b (pre ++ post) (whose b pre post n i) := by
  unfold whose
  have hle := lastAt_le (pre ++ n :: post) i pre.length
  obtain ⟨q, hq⟩ : ∃ q, lastAt (pre ++ n :: post) i pre.length = q := ⟨_, rfl⟩
  rw [hq] at hle ⊢
  cases q with
  | zero => exact .inl rfl
  | succ p =>
    obtain ⟨m, hm⟩ : ∃ m, pre[p]? = some m := ⟨_, List.getElem?_eq_getElem (by omega)⟩
    have : (pre ++ n :: post)[p]? = some m := by rw [List.getElem?_append_left (by omega)]; exact hm
    simp only [blk, this]
    exact .inr ⟨m, List.mem_append.2 (.inl (List.mem_of_getElem? hm)), rfl⟩
theorem nxt_ptr (l : List Nd) (i : Nat) : ∃ o, nxt l i = .pointer o := by
  induction l with
  | nil => exact ⟨none, rfl⟩
  | cons n l ih =>
    simp only [nxt]
    split
    · exact ⟨_, rfl⟩
    · exact ih
end Go.Proofs.Ytjiphmeoofeepaa
