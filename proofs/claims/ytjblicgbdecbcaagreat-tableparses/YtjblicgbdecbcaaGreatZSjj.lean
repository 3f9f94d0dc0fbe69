/- Frames by blocks; rows that a call owns; no walk. -/
/- The walk of block's copied. -/
/- Rows of entries; no walk. -/
import Derived.Test.YtjblicgbdecbcaaGreatZKlj
import Derived.Test.YtjblicgbdecbcaaGreatZRw
import Derived.Test.YtjblicgbdecbcaaGreatZSb
import Derived.Deep.RegionWith
import Derived.BigRegion
import Derived.Deep.LoopGhost
namespace Go.Proofs.YtjblicgbdecbcaaGreat
open Go.RowKit

/-- But for the blocks of U, and new ones, w' is as w was. -/
structure Kept (U : Nat → Prop) (w w' : World) : Prop where
  os : w'.os = w.os
  tape : w'.tape = w.tape
  output : w'.output = w.output
  size : w.heap.size ≤ w'.heap.size
  block : ∀ k, k < w.heap.size → ¬ U k → w'.heap[k]? = w.heap[k]?
theorem Kept.refl (U : Nat → Prop) (w : World) : Kept U w w := ⟨rfl, rfl, rfl, Nat.le_refl _, fun _ _ _ => rfl⟩
theorem Kept.trans {U : Nat → Prop} {a b c : World} (h : Kept U a b) (k : Kept U b c) : Kept U a c :=
  ⟨k.os.trans h.os, k.tape.trans h.tape, k.output.trans h.output, Nat.le_trans h.size k.size, fun i hi hu => (k.block i (Nat.lt_of_lt_of_le hi h.size) hu).trans (h.block i hi hu)⟩
theorem Kept.trans' {U V : Nat → Prop} {a b c : World} (h : Kept U a b) (k : Kept V b c) (hv : ∀ g, g < a.heap.size → V g → U g) : Kept U a c :=
  ⟨k.os.trans h.os, k.tape.trans h.tape, k.output.trans h.output, Nat.le_trans h.size k.size, fun i hi hu => (k.block i (Nat.lt_of_lt_of_le hi h.size) (fun e => hu (hv i hi e))).trans (h.block i hi hu)⟩
theorem Kept.wide {U V : Nat → Prop} {a b : World} (h : Kept U a b) (hv : ∀ g, g < a.heap.size → U g → V g) : Kept V a b :=
  ⟨h.os, h.tape, h.output, h.size, fun i hi hu => h.block i hi (fun e => hu (hv i hi e))⟩
theorem Kept.of_below {U : Nat → Prop} {w w' : World} (h : Below w.heap.size w w') : Kept U w w' := ⟨h.os, h.tape, h.output, h.size, fun k hk _ => h.block k hk⟩
theorem Kept.below {U : Nat → Prop} {w w' : World} {B : Nat} (h : Kept U w w') (hB : B ≤ w.heap.size) (hU : ∀ g, U g → B ≤ g) : Below B w w' :=
  ⟨h.os, h.tape, h.output, h.size, fun k hk => h.block k (by omega) (fun e => by have := hU k e; omega)⟩
theorem Kept.drew {U : Nat → Prop} {a w : World} (h : Kept U a w) : Kept U a w.drew := ⟨h.os, h.tape, h.output, h.size, h.block⟩
theorem Kept.alloc {U : Nat → Prop} {a w : World} (h : Kept U a w) (o : Obj) : Kept U a (w.alloc o) := h.trans (Kept.of_below ((Below.refl _ w).alloc (Nat.le_refl _) o))
theorem Kept.setCell {U : Nat → Prop} {a w : World} (h : Kept U a w) {p : Addr} (hp : U p.block ∨ a.heap.size ≤ p.block) (u : Value) : Kept U a (w.setCell p u) :=
  ⟨h.os, h.tape, h.output, by simp only [World.setCell, Array.size_modify]; exact h.size, fun k hk hu => by
    rw [Below.heap_setCell w p u k (fun e => by rcases hp with hp | hp; exact hu (e ▸ hp); omega)]
    exact h.block k hk hu⟩
theorem Kept.grown {U : Nat → Prop} {a w w' : World} {row : Option Nat} (h : Kept U a w) (hg : w.grownBy w' row) (hr : ∀ k, row = some k → U k ∨ a.heap.size ≤ k) : Kept U a w' :=
  ⟨hg.os.trans h.os, hg.tape.trans h.tape, hg.output.trans h.output, Nat.le_trans h.size hg.size, fun k hk hu => by
    rw [hg.block k (Nat.lt_of_lt_of_le hk h.size) (fun e => by rcases hr k e.symm with h1 | h1; exact hu h1; omega)]
    exact h.block k hk hu⟩
theorem Kept.cell {U : Nat → Prop} {w w' : World} (h : Kept U w w') {p : Addr} (hp : p.block < w.heap.size) (hu : ¬ U p.block) : w'.cell? p = w.cell? p := World.cell?_of_block (w := w) (h.block p.block hp hu)

/-- It holds in w, whatever becomes of the blocks of U. -/
def Steady (U : Nat → Prop) (w : World) (A : World → Prop) : Prop := ∀ w', Kept U w w' → A w'
theorem Steady.here {U : Nat → Prop} {w : World} {A : World → Prop} (h : Steady U w A) : A w := h w (Kept.refl U w)
theorem Steady.next {U : Nat → Prop} {w w' : World} {A : World → Prop} (h : Steady U w A) (k : Kept U w w') : Steady U w' A := fun w'' k' => h w'' (k.trans k')
theorem Steady.next' {U V : Nat → Prop} {w w' : World} {A : World → Prop} (h : Steady U w A) (k : Kept U w w') (hv : ∀ g, g < w.heap.size → V g → U g) : Steady V w' A := fun w'' k' => h w'' (k.trans' k' hv)
theorem Steady.below {U : Nat → Prop} {w w' : World} {A : World → Prop} (h : Steady U w A) (k : Below w.heap.size w w') : Steady U w' A := h.next (Kept.of_below k)
theorem own_steady {U : Nat → Prop} {w : World} {B t k n : Nat} {v : Value} {xs : List Value} (h : w.ownsRow B t k v n xs) (hU : ∀ g, U g → g < B) : Steady U w fun w' => w'.ownsRow B t k v n xs := by
  intro w' hk
  rcases h.2 with h0 | ⟨g, cap, cur, hv, hb, hg, r⟩
  · exact ⟨h.1, .inl h0⟩
  · refine ⟨h.1, .inr ⟨g, cap, cur, hv, hb, ?_, r⟩⟩
    have hlt : g < w.heap.size := (Array.getElem?_eq_some_iff.1 hg).1
    rw [hk.block g hlt (fun e => by have := hU g e; omega)]
    exact hg
theorem own_block {w w' : World} {B t k n : Nat} {v : Value} {xs : List Value} (h : w.ownsRow B t k v n xs) (hk : ∀ g, v.ownBlock = some g → w'.heap[g]? = w.heap[g]?) : w'.ownsRow B t k v n xs := by
  rcases h.2 with h0 | ⟨g, cap, cur, rfl, hb, hg, r⟩
  · exact ⟨h.1, .inl h0⟩
  · exact ⟨h.1, .inr ⟨g, cap, cur, rfl, hb, (hk g rfl).trans hg, r⟩⟩
theorem own_base {w : World} {B B' t k n : Nat} {v : Value} {xs : List Value} (h : w.ownsRow B t k v n xs) (hb : ∀ g, v.ownBlock = some g → B' ≤ g) : w.ownsRow B' t k v n xs := by
  rcases h.2 with h0 | ⟨g, cap, cur, rfl, _, r⟩
  · exact ⟨h.1, .inl h0⟩
  · exact ⟨h.1, .inr ⟨g, cap, cur, rfl, hb g rfl, r⟩⟩

theorem set_row {w : World} {b : Nat} {c : Array Value} {t : TypeId} (h : w.heap[b]? = some (.cells c t (0, 0))) (i : Nat) (v : Value) : (w.setCell ⟨b, i, none⟩ v).heap[b]? = some (.cells (c.setIfInBounds i v) t (0, 0)) := by
  rw [setCell_eq_setRow w b i c t (0, 0) v h]; exact setRow_heap w b c _ t (0, 0) h
theorem own_size {w : World} {B t k n : Nat} {v : Value} {xs : List Value} (h : w.ownsRow B t k v n xs) {g : Nat} (hg : v.ownBlock = some g) : g < w.heap.size := by
  rcases h.2 with ⟨rfl, _⟩ | ⟨g', cap, cur, rfl, _, hh, _⟩
  · cases hg
  · cases hg
    exact (Array.getElem?_eq_some_iff.1 hh).1
theorem own_tag {w : World} {B t k n : Nat} {v : Value} {xs : List Value} (h : w.ownsRow B t k v n xs) {g : Nat} (hg : v.ownBlock = some g) : ∃ cur, w.heap[g]? = some (.cells cur t (0, 0)) := by
  rcases h.2 with ⟨rfl, _⟩ | ⟨g', cap, cur, rfl, _, hh, _⟩
  · cases hg
  · cases hg
    exact ⟨cur, hh⟩
end Go.Proofs.YtjblicgbdecbcaaGreat
namespace Go.Proofs.YtjblicgbdecbcaaGreat
open Go.RowKit
open Sk (Ent)

theorem set_far {w : World} {g b : Nat} (i : Nat) (v : Value) (h : g ≠ b) : (w.setCell ⟨b, i, none⟩ v).heap[g]? = w.heap[g]? := Below.heap_setCell w ⟨b, i, none⟩ v g h
/-- An entry in memory that was made at or beyond B. -/
def OwnE (B : Nat) (w : World) (y : EV) : Prop := w.ownsRow B 5 1 (.slice y.kp y.e.key.length y.kc) y.e.key.length (bv y.e.key) ∧ w.ownsRow B 5 1 (.slice y.vp y.e.val.length y.vc) y.e.val.length (bv y.e.val)
set_option maxHeartbeats 2000000 in
set_option maxRecDepth 100000 in
theorem copied_any (x : EV) (w : World) (hk : x.e.key.length ≤ 140737488355328) (hv : x.e.val.length ≤ 140737488355328) (hh : entKind.held w x) : Calls Tryz.prog 74 #[ev x] w fun e w' => ∃ y : EV, e = .returned (ev y) ∧ y.e = x.e ∧ OwnE w.heap.size w' y ∧ Below w.heap.size w w' := by
  obtain ⟨kp, kc, vp, vc, key, seq, gone, val⟩ := x
  have HK : Hid (Src w kp key.length kc key) := hh.1
  have HV : Hid (Src w vp val.length vc val) := hh.2
  simp only at hk hv
  clear hh
  unfold ev
  simp only
  obtain ⟨K, hK⟩ : ∃ K, key.length = K := ⟨_, rfl⟩
  obtain ⟨V, hV⟩ : ∃ V, val.length = V := ⟨_, rfl⟩
  have HKK := keep hK
  have HVV := keep hV
  rw [hK] at HK hk ⊢
  rw [hV] at HV hv ⊢
  clear hK hV
  obtain ⟨W1, hW1⟩ : ∃ W1, (w.alloc (.cells #[.slice kp K kc, .int .i64 seq, .bool gone, .slice vp V vc] 37)).alloc (.cells #[.slice none 0 0, .int .i64 0, .bool false, .slice none 0 0] 37) = W1 := ⟨_, rfl⟩
  have b1 : Hid (Below w.heap.size w W1) := by rw [← hW1]; exact ((Below.refl _ _).alloc (Nat.le_refl _) _).alloc (by simp) _
  have s1 : Hid (W1.heap.size = w.heap.size + 2) := by rw [← hW1]; show _ = _; simp
  have g0 : Hid (W1.heap[w.heap.size]? = some (.cells #[.slice kp K kc, .int .i64 seq, .bool gone, .slice vp V vc] 37)) := by
    rw [← hW1]; exact (Below.heap_alloc _ _ _ (by simp)).trans (heap_alloc_new w _)
  have g1 : Hid (W1.heap[w.heap.size + 1]? = some (.cells #[.slice none 0 0, .int .i64 0, .bool false, .slice none 0 0] 37)) := by
    have := heap_alloc_new (w.alloc (.cells #[.slice kp K kc, .int .i64 seq, .bool gone, .slice vp V vc] 37)) (.cells #[.slice none 0 0, .int .i64 0, .bool false, .slice none 0 0] 37)
    rw [World.size_alloc] at this
    rw [← hW1]; exact this
  have KC1 : Hid (∀ w', Below W1.heap.size W1 w' → Calls Tryz.prog 52 #[.slice kp K kc] w' fun e w'' => ∃ a c, e = .returned (.slice a K c) ∧ w''.ownsRow w.heap.size 5 1 (.slice a K c) K (bv key) ∧ Below W1.heap.size W1 w'') := fun w' hb => by
    refine (clone_any kp K kc key w' hk (HK.out.below (b1.out.trans (hb.mono b1.out.size)))).mono ?_
    rintro e w'' ⟨v, rfl, hn⟩
    obtain ⟨a, c, rfl, _, _⟩ := hn.src
    exact ⟨a, c, rfl, own_base hn.1 (fun g hg => Nat.le_trans (Nat.le_trans b1.out.size hb.size) (hn.1.lt g hg).1), hb.trans (hn.2.mono hb.size)⟩
  have KC2 : Hid (∀ w', Below W1.heap.size W1 w' → Calls Tryz.prog 52 #[.slice vp V vc] w' fun e w'' => ∃ a c, e = .returned (.slice a V c) ∧ w''.ownsRow w.heap.size 5 1 (.slice a V c) V (bv val) ∧ Below w'.heap.size w' w'') := fun w' hb => by
    refine (clone_any vp V vc val w' hv (HV.out.below (b1.out.trans (hb.mono b1.out.size)))).mono ?_
    rintro e w'' ⟨v, rfl, hn⟩
    obtain ⟨a, c, rfl, _, _⟩ := hn.src
    exact ⟨a, c, rfl, own_base hn.1 (fun g hg => Nat.le_trans (Nat.le_trans b1.out.size hb.size) (hn.1.lt g hg).1), hn.2⟩
  have KG : Hid (∀ w', Below W1.heap.size W1 w' → w'.heap[w.heap.size]? = some (.cells #[.slice kp K kc, .int .i64 seq, .bool gone, .slice vp V vc] 37) ∧ w'.heap[w.heap.size + 1]? = some (.cells #[.slice none 0 0, .int .i64 0, .bool false, .slice none 0 0] 37)) := fun w' hb => ⟨(hb.block _ (by rw [s1.out]; omega)).trans g0.out, (hb.block _ (by rw [s1.out]; omega)).trans g1.out⟩
  have KF : Hid (∀ w', Below W1.heap.size W1 w' → w'.cell? ⟨w.heap.size, 0, none⟩ = some (.slice kp K kc) ∧ w'.cell? ⟨w.heap.size, 3, none⟩ = some (.slice vp V vc) ∧ w'.frozen? ⟨w.heap.size, 0, none⟩ = false ∧ w'.frozen? ⟨w.heap.size, 3, none⟩ = false ∧ w'.cell? ⟨w.heap.size, 1, none⟩ = some (.int .i64 seq) ∧ w'.cell? ⟨w.heap.size, 2, none⟩ = some (.bool gone)) := fun w' hb => by
    have h := (KG.out w' hb).1
    exact ⟨cell_of_row _ _ _ _ _ _ h, cell_of_row _ _ _ _ _ _ h, by simp [World.frozen?, h], by simp [World.frozen?, h], cell_of_row _ _ _ _ _ _ h, cell_of_row _ _ _ _ _ _ h⟩
  have KR : Hid (∀ w', Below W1.heap.size W1 w' → w'.cell? ⟨w.heap.size + 1, 0, none⟩ = some (.slice none 0 0) ∧ w'.cell? ⟨w.heap.size + 1, 1, none⟩ = some (.int .i64 0) ∧ w'.cell? ⟨w.heap.size + 1, 2, none⟩ = some (.bool false) ∧ w'.cell? ⟨w.heap.size + 1, 3, none⟩ = some (.slice none 0 0) ∧ w'.frozen? ⟨w.heap.size + 1, 0, none⟩ = false ∧ w'.frozen? ⟨w.heap.size + 1, 1, none⟩ = false ∧ w'.frozen? ⟨w.heap.size + 1, 2, none⟩ = false ∧ w'.frozen? ⟨w.heap.size + 1, 3, none⟩ = false) := fun w' hb => by
    have h := (KG.out w' hb).2
    exact ⟨cell_of_row _ _ _ _ _ _ h, cell_of_row _ _ _ _ _ _ h, cell_of_row _ _ _ _ _ _ h, cell_of_row _ _ _ _ _ _ h, by simp [World.frozen?, h], by simp [World.frozen?, h], by simp [World.frozen?, h], by simp [World.frozen?, h]⟩
  obtain ⟨c10, c13, f10, f13, _, _⟩ := KF.out W1 (Below.refl _ _)
  go_enter Tryz.func74, Tryz.ntmps74
  go_wp2_with fail
  go_region_with (first
    | (go_at_call 52; go_fit (KC1.out W1.drew (Below.refl _ _).drew); rintro e w2 ⟨a2, k2, rfl, ho2, hb2⟩; have b2 := keep hb2; have O2 := keep ho2; obtain ⟨c20, c23, f20, f23, _, _⟩ := KF.out w2 hb2; clear ho2 hb2)
    | (go_at_call 52; go_fit (KC2.out w2 b2.out); rintro e w3 ⟨a3, k3, rfl, ho3, hb3⟩; have b3 := keep (b2.out.trans (hb3.mono b2.out.size)); have O3 := keep ho3; have O2' := keep (own_block (w' := w3) O2.out (fun g hg => hb3.block g (own_size O2.out hg))); obtain ⟨c30, c33, f30, f33, c31, c32⟩ := KF.out w3 b3.out; have G3 := keep (KG.out w3 b3.out); clear ho3 hb3))
  all_goals
    obtain ⟨d0, d1, d2, d3, e0, e1, e2, e3⟩ := KR.out w3 b3.out
    go_wp2
    have far : ∀ {v : Value} {n : Nat} {xs : List Value}, w3.ownsRow w.heap.size 5 1 v n xs → ∀ g, v.ownBlock = some g → g ≠ w.heap.size ∧ g ≠ w.heap.size + 1 := fun {v n xs} h g hg => by
      obtain ⟨cur, hc⟩ := own_tag h hg
      refine ⟨fun e => ?_, fun e => ?_⟩
      · rw [e, G3.out.1] at hc; cases hc
      · rw [e, G3.out.2] at hc; cases hc
    refine ⟨rfl, .agg #[.slice a2 K k2, .int .i64 seq, .bool gone, .slice a3 V k3], ?_, ⟨a2, k2, a3, k3, ⟨key, seq, gone, val⟩⟩, ?_, rfl, ⟨?_, ?_⟩, ?_⟩
    · clear hW1 c30 c33 c31 c32 c20 c23
      have r0 : (((w3.setCell ⟨w.heap.size, 0, none⟩ (.slice a2 K k2)).setCell ⟨w.heap.size, 3, none⟩ (.slice a3 V k3)).setCell ⟨w.heap.size + 1, 0, none⟩ (.slice a2 K k2)).cell? ⟨w.heap.size + 1, 0, none⟩ = some (.slice a2 K k2) := World.cell?_setCell_same' _ _ _ (by simp [go_sem, d0])
      have r1 : ((((w3.setCell ⟨w.heap.size, 0, none⟩ (.slice a2 K k2)).setCell ⟨w.heap.size, 3, none⟩ (.slice a3 V k3)).setCell ⟨w.heap.size + 1, 0, none⟩ (.slice a2 K k2)).setCell ⟨w.heap.size + 1, 1, none⟩ (.int .i64 seq)).cell? ⟨w.heap.size + 1, 1, none⟩ = some (.int .i64 seq) := World.cell?_setCell_same' _ _ _ (by simp [go_sem, d1])
      have r2 : (((((w3.setCell ⟨w.heap.size, 0, none⟩ (.slice a2 K k2)).setCell ⟨w.heap.size, 3, none⟩ (.slice a3 V k3)).setCell ⟨w.heap.size + 1, 0, none⟩ (.slice a2 K k2)).setCell ⟨w.heap.size + 1, 1, none⟩ (.int .i64 seq)).setCell ⟨w.heap.size + 1, 2, none⟩ (.bool gone)).cell? ⟨w.heap.size + 1, 2, none⟩ = some (.bool gone) := World.cell?_setCell_same' _ _ _ (by simp [go_sem, d2])
      have r3 : ((((((w3.setCell ⟨w.heap.size, 0, none⟩ (.slice a2 K k2)).setCell ⟨w.heap.size, 3, none⟩ (.slice a3 V k3)).setCell ⟨w.heap.size + 1, 0, none⟩ (.slice a2 K k2)).setCell ⟨w.heap.size + 1, 1, none⟩ (.int .i64 seq)).setCell ⟨w.heap.size + 1, 2, none⟩ (.bool gone)).setCell ⟨w.heap.size + 1, 3, none⟩ (.slice a3 V k3)).cell? ⟨w.heap.size + 1, 3, none⟩ = some (.slice a3 V k3) := World.cell?_setCell_same' _ _ _ (by simp [go_sem, d3])
      simp [results, Tryz.f74, go_sem, loadCells, loadCellsFrom, r0, r1, r2, r3]
    · show _ = Ending.returned (Value.agg #[.slice a2 key.length k2, .int .i64 seq, .bool gone, .slice a3 val.length k3])
      rw [HKK.out, HVV.out]
    · show World.ownsRow _ _ _ _ (.slice a2 key.length k2) key.length (bv key)
      rw [HKK.out]
      refine own_block O2'.out (fun g hg => ?_)
      obtain ⟨h1, h2⟩ := far O2'.out g hg
      simp only [set_far _ _ h1, set_far _ _ h2]
    · show World.ownsRow _ _ _ _ (.slice a3 val.length k3) val.length (bv val)
      rw [HVV.out]
      refine own_block O3.out (fun g hg => ?_)
      obtain ⟨h1, h2⟩ := far O3.out g hg
      simp only [set_far _ _ h1, set_far _ _ h2]
    · have h3 := b1.out.trans (b3.out.mono b1.out.size)
      exact ((((((h3.setCell (p := ⟨w.heap.size, 0, none⟩) (Nat.le_refl _) _).setCell (p := ⟨w.heap.size, 3, none⟩) (Nat.le_refl _) _).setCell (p := ⟨w.heap.size + 1, 0, none⟩) (Nat.le_succ _) _).setCell (p := ⟨w.heap.size + 1, 1, none⟩) (Nat.le_succ _) _).setCell (p := ⟨w.heap.size + 1, 2, none⟩) (Nat.le_succ _) _).setCell (p := ⟨w.heap.size + 1, 3, none⟩) (Nat.le_succ _) _)
end Go.Proofs.YtjblicgbdecbcaaGreat
namespace Go.Proofs.YtjblicgbdecbcaaGreat
open Go.RowKit
open Sk (Ent)

theorem info_parts3 {P : Program} {t : TypeId} {z : Value} {s b : Nat} (h : (P.info? t).map (fun i => (i.zero, i.size, i.bytes)) = some (some z, s, b)) : ∃ i, P.info? t = some i ∧ i.zero = some z ∧ i.size = s ∧ i.bytes = b := by
  cases hi : P.info? t with
  | none => rw [hi] at h; cases h
  | some i =>
    rw [hi] at h
    simp only [Option.map_some, Option.some.injEq, Prod.mk.injEq] at h
    exact ⟨i, rfl, h.1, h.2.1, h.2.2⟩
theorem infoE : (Tryz.prog.info? 37).map (fun i => (i.zero, i.size, i.bytes)) = some (some (.agg #[.slice none 0 0, .int .i64 0, .bool false, .slice none 0 0]), 4, 64) := by kernel_rfl
theorem OwnE.held {B : Nat} {w : World} {y : EV} (h : OwnE B w y) : entKind.held w y := by
  obtain ⟨a1, c1, e1, h1, _⟩ := Src.of_own h.1
  obtain ⟨a2, c2, e2, h2, _⟩ := Src.of_own h.2
  cases e1
  cases e2
  exact ⟨h1, h2⟩
theorem OwnE.block {B : Nat} {w w' : World} {y : EV} (h : OwnE B w y) (hb : Below w.heap.size w w') : OwnE B w' y := ⟨own_block h.1 (fun g hg => hb.block g (own_size h.1 hg)), own_block h.2 (fun g hg => hb.block g (own_size h.2 hg))⟩
theorem OwnE.base {B B' : Nat} {w : World} {y : EV} (h : OwnE B w y) (hb : B' ≤ B) : OwnE B' w y := ⟨own_base h.1 (fun g hg => Nat.le_trans hb (h.1.lt g hg).1), own_base h.2 (fun g hg => Nat.le_trans hb (h.2.lt g hg).1)⟩
/-- A row of entries that was made at or beyond B. -/
structure Ents (B : Nat) (w : World) (v : Value) (ys : List EV) : Prop where
  row : w.ownsRow B 37 4 v ys.length (rv entKind ys)
  each : ∀ y ∈ ys, OwnE B w y
theorem Ents.nil (B : Nat) (w : World) : Ents B w (.slice none 0 0) [] := ⟨World.ownsRow_nil _ _ _ _, fun y h => by cases h⟩
theorem Ents.below {B : Nat} {w w' : World} {v : Value} {ys : List EV} (h : Ents B w v ys) (hb : Below w.heap.size w w') : Ents B w' v ys := ⟨own_block h.row (fun g hg => hb.block g (own_size h.row hg)), fun y hy => (h.each y hy).block hb⟩
theorem OwnE.grown {B : Nat} {w w' : World} {v : Value} {n : Nat} {xs : List Value} {y : EV} (h : OwnE B w y) (hv : w.ownsRow B 37 4 v n xs) (hg : w.grownBy w' v.ownBlock) : OwnE B w' y := by
  have one : ∀ {u : Value} {m : Nat} {zs : List Value}, w.ownsRow B 5 1 u m zs → w'.ownsRow B 5 1 u m zs := fun {u m zs} hu => own_block hu (fun g hgg => hg.block g (own_size hu hgg) (fun e1 => by
    obtain ⟨c1, h1⟩ := own_tag hu hgg
    obtain ⟨c2, h2⟩ := own_tag hv e1.symm
    rw [h1] at h2
    cases h2))
  exact ⟨one h.1, one h.2⟩
theorem Ents.more {B : Nat} {w w' : World} {v v' : Value} {ys : List EV} {y : EV} (h : Ents B w v ys) (hy : OwnE B w y) (ho : w'.ownsRow B 37 4 v' (ys.length + 1) (rv entKind (ys ++ [y]))) (hg : w.grownBy w' v.ownBlock) : Ents B w' v' (ys ++ [y]) :=
  ⟨by rw [List.length_append]; exact ho, fun z hz => by
    rcases List.mem_append.1 hz with hz | hz
    · exact (h.each z hz).grown h.row hg
    · rw [List.mem_singleton.1 hz]; exact hy.grown h.row hg⟩
def evZ : EV := ⟨none, 0, none, 0, ⟨[], 0, false, []⟩⟩
def zeroE : Ent := ⟨[], 0, false, []⟩
theorem held_zero (w : World) : entKind.held w evZ := ⟨src_nil w, src_nil w⟩
end Go.Proofs.YtjblicgbdecbcaaGreat
