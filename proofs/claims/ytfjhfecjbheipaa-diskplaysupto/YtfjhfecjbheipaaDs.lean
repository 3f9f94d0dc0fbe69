/- Frames by blocks; a map of files as it lies, and the plain list that it stands for; no walk. -/
import Derived.Test.YtfjhfecjbheipaaMp
import Derived.Test.YtfjhfecjbheipaaRw
import Derived.Test.YtfjhfecjbheipaaDl
namespace Go.Proofs.Ytfjhfecjbheipaa
open Go.RowKit
open Dk (File Disk)

/-- But for the blocks of U, and new ones, w' is as w was. -/
structure Kept (U : Nat → Prop) (w w' : World) : Prop where
  os : w'.os = w.os
  tape : w'.tape = w.tape
  output : w'.output = w.output
  size : w.heap.size ≤ w'.heap.size
  block : ∀ k, k < w.heap.size → ¬ U k → w'.heap[k]? = w.heap[k]?
theorem Kept.refl (U : Nat → Prop) (w : World) : Kept U w w := ⟨rfl, rfl, rfl, Nat.le_refl _, fun _ _ _ => rfl⟩
theorem Kept.trans {U : Nat → Prop} {a b c : World} (h : Kept U a b) (k : Kept U b c) : Kept U a c :=
  ⟨k.os.trans h.os, k.tape.trans h.tape, k.output.trans h.output, Nat.le_trans h.size k.size, fun i hi hu => (k.block i (Nat.lt_of_lt_of_le hi h.size) hu).trans (h.block i hi hu)⟩
theorem Kept.trans' {U V : Nat → Prop} {a b c : World} (h : Kept U a b) (k : Kept V b c) (hv : ∀ g, g < a.heap.size → V g → U g) : Kept U a c :=
  ⟨k.os.trans h.os, k.tape.trans h.tape, k.output.trans h.output, Nat.le_trans h.size k.size, fun i hi hu => (k.block i (Nat.lt_of_lt_of_le hi h.size) (fun e => hu (hv i hi e))).trans (h.block i hi hu)⟩
theorem Kept.wide {U V : Nat → Prop} {a b : World} (h : Kept U a b) (hv : ∀ g, g < a.heap.size → U g → V g) : Kept V a b :=
  ⟨h.os, h.tape, h.output, h.size, fun i hi hu => h.block i hi (fun e => hu (hv i hi e))⟩
theorem Kept.of_below {U : Nat → Prop} {w w' : World} (h : Below w.heap.size w w') : Kept U w w' := ⟨h.os, h.tape, h.output, h.size, fun k hk _ => h.block k hk⟩
theorem Kept.below {U : Nat → Prop} {w w' : World} {B : Nat} (h : Kept U w w') (hB : B ≤ w.heap.size) (hU : ∀ g, U g → B ≤ g) : Below B w w' :=
  ⟨h.os, h.tape, h.output, h.size, fun k hk => h.block k (by omega) (fun e => by have := hU k e; omega)⟩
theorem Kept.drew {U : Nat → Prop} {a w : World} (h : Kept U a w) : Kept U a w.drew := ⟨h.os, h.tape, h.output, h.size, h.block⟩
theorem Kept.alloc {U : Nat → Prop} {a w : World} (h : Kept U a w) (o : Obj) : Kept U a (w.alloc o) := h.trans (Kept.of_below ((Below.refl _ w).alloc (Nat.le_refl _) o))
theorem Kept.setCell {U : Nat → Prop} {a w : World} (h : Kept U a w) {p : Addr} (hp : U p.block ∨ a.heap.size ≤ p.block) (u : Value) : Kept U a (w.setCell p u) :=
  ⟨h.os, h.tape, h.output, by simp only [World.setCell, Array.size_modify]; exact h.size, fun k hk hu => by
    rw [Below.heap_setCell w p u k (fun e => by rcases hp with hp | hp; exact hu (e ▸ hp); omega)]
    exact h.block k hk hu⟩
theorem Kept.grown {U : Nat → Prop} {a w w' : World} {row : Option Nat} (h : Kept U a w) (hg : w.grownBy w' row) (hr : ∀ k, row = some k → U k ∨ a.heap.size ≤ k) : Kept U a w' :=
  ⟨hg.os.trans h.os, hg.tape.trans h.tape, hg.output.trans h.output, Nat.le_trans h.size hg.size, fun k hk hu => by
    rw [hg.block k (Nat.lt_of_lt_of_le hk h.size) (fun e => by rcases hr k e.symm with h1 | h1; exact hu h1; omega)]
    exact h.block k hk hu⟩
theorem Kept.cell {U : Nat → Prop} {w w' : World} (h : Kept U w w') {p : Addr} (hp : p.block < w.heap.size) (hu : ¬ U p.block) : w'.cell? p = w.cell? p := World.cell?_of_block (w := w) (h.block p.block hp hu)

/-- It holds in w, whatever becomes of the blocks of U. -/
def Steady (U : Nat → Prop) (w : World) (A : World → Prop) : Prop := ∀ w', Kept U w w' → A w'
theorem Steady.here {U : Nat → Prop} {w : World} {A : World → Prop} (h : Steady U w A) : A w := h w (Kept.refl U w)
theorem Steady.next {U : Nat → Prop} {w w' : World} {A : World → Prop} (h : Steady U w A) (k : Kept U w w') : Steady U w' A := fun w'' k' => h w'' (k.trans k')
theorem Steady.next' {U V : Nat → Prop} {w w' : World} {A : World → Prop} (h : Steady U w A) (k : Kept U w w') (hv : ∀ g, g < w.heap.size → V g → U g) : Steady V w' A := fun w'' k' => h w'' (k.trans' k' hv)
theorem Steady.below {U : Nat → Prop} {w w' : World} {A : World → Prop} (h : Steady U w A) (k : Below w.heap.size w w') : Steady U w' A := h.next (Kept.of_below k)
theorem own_steady {U : Nat → Prop} {w : World} {B t k n : Nat} {v : Value} {xs : List Value} (h : w.ownsRow B t k v n xs) (hU : ∀ g, U g → g < B) : Steady U w fun w' => w'.ownsRow B t k v n xs := by
  intro w' hk
  rcases h.2 with h0 | ⟨g, cap, cur, hv, hb, hg, r⟩
  · exact ⟨h.1, .inl h0⟩
  · refine ⟨h.1, .inr ⟨g, cap, cur, hv, hb, ?_, r⟩⟩
    have hlt : g < w.heap.size := (Array.getElem?_eq_some_iff.1 hg).1
    rw [hk.block g hlt (fun e => by have := hU g e; omega)]
    exact hg
theorem own_block {w w' : World} {B t k n : Nat} {v : Value} {xs : List Value} (h : w.ownsRow B t k v n xs) (hk : ∀ g, v.ownBlock = some g → w'.heap[g]? = w.heap[g]?) : w'.ownsRow B t k v n xs := by
  rcases h.2 with h0 | ⟨g, cap, cur, rfl, hb, hg, r⟩
  · exact ⟨h.1, .inl h0⟩
  · exact ⟨h.1, .inr ⟨g, cap, cur, rfl, hb, (hk g rfl).trans hg, r⟩⟩
theorem own_base {w : World} {B B' t k n : Nat} {v : Value} {xs : List Value} (h : w.ownsRow B t k v n xs) (hb : ∀ g, v.ownBlock = some g → B' ≤ g) : w.ownsRow B' t k v n xs := by
  rcases h.2 with h0 | ⟨g, cap, cur, rfl, _, r⟩
  · exact ⟨h.1, .inl h0⟩
  · exact ⟨h.1, .inr ⟨g, cap, cur, rfl, hb g rfl, r⟩⟩

/-- A file as the map holds it. -/
def filev (s : Int) (v : Value) : Value := .agg #[.int .i64 s, v]
def arr : Value → Option Nat
  | .agg cs => (cs.getD 1 (.bool false)).ownBlock
  | _ => none
theorem arr_filev (s : Int) (v : Value) : arr (filev s v) = v.ownBlock := rfl
def Fits (w : World) (v : Value) (f : File) : Prop := ∃ sv, v = filev f.safe sv ∧ w.ownsRow 0 5 1 sv f.bytes.length (bv f.bytes)
theorem Fits.same {w w' : World} {v : Value} {f : File} (h : Fits w v f) (hb : ∀ g, arr v = some g → w'.heap[g]? = w.heap[g]?) : Fits w' v f := by
  obtain ⟨sv, rfl, ho⟩ := h
  exact ⟨sv, rfl, own_block ho hb⟩
/-- Entry by entry; those of the names in E aside. -/
def Rel (w : World) (E : List UInt8 → Prop) : List Named → List File → Prop
  | [], [] => True
  | x :: l, f :: fs => x.1 = f.name ∧ (¬ E f.name → Fits w x.2 f) ∧ Rel w E l fs
  | _, _ => False
def Nobody (_ : List UInt8) : Prop := False
theorem Rel.length {w : World} {E : List UInt8 → Prop} : ∀ {l : List Named} {fs : List File}, Rel w E l fs → l.length = fs.length
  | [], [], _ => rfl
  | _ :: l, _ :: fs, h => by simp [Rel.length h.2.2]
  | [], _ :: _, h => h.elim
  | _ :: _, [], h => h.elim
theorem Rel.names {w : World} {E : List UInt8 → Prop} : ∀ {l : List Named} {fs : List File}, Rel w E l fs → l.map (·.1) = fs.map (·.name)
  | [], [], _ => rfl
  | _ :: l, _ :: fs, h => by simp [Rel.names h.2.2, h.1]
  | [], _ :: _, h => h.elim
  | _ :: _, [], h => h.elim
theorem Rel.turn {w w' : World} {E E' : List UInt8 → Prop} (hE : ∀ n, E n → E' n) : ∀ {l : List Named} {fs : List File}, Rel w E l fs → (∀ x ∈ l, ¬ E' x.1 → ∀ g, arr x.2 = some g → w'.heap[g]? = w.heap[g]?) → Rel w' E' l fs
  | [], [], _, _ => trivial
  | x :: l, f :: fs, h, hb => ⟨h.1, fun he => (h.2.1 (fun e => he (hE _ e))).same (hb x (by simp) (by rw [h.1]; exact he)), Rel.turn hE h.2.2 (fun y hy => hb y (by simp [hy]))⟩
  | [], _ :: _, h, _ => h.elim
  | _ :: _, [], h, _ => h.elim
theorem Rel.none {w : World} {E : List UInt8 → Prop} {n : List UInt8} : ∀ {l : List Named} {fs : List File}, Rel w E l fs → Dk.look fs n = none → seek l n = none
  | [], [], _, _ => rfl
  | x :: l, f :: fs, h, hl => by
    simp only [Dk.look] at hl
    split at hl
    · cases hl
    · rename_i hn
      simp only [seek]
      rw [if_neg (by rw [h.1]; exact hn)]
      exact Rel.none h.2.2 hl
  | [], _ :: _, h, _ => h.elim
  | _ :: _, [], h, _ => h.elim
theorem Rel.some {w : World} {E : List UInt8 → Prop} {n : List UInt8} {f : File} : ∀ {l : List Named} {fs : List File}, Rel w E l fs → Dk.look fs n = some f → ∃ v, seek l n = some v ∧ (n, v) ∈ l ∧ (¬ E n → Fits w v f)
  | [], [], _, hl => by cases hl
  | x :: l, g :: fs, h, hl => by
    simp only [Dk.look] at hl
    split at hl
    · rename_i hn
      cases hl
      have hx : x.1 = n := h.1.trans hn
      refine ⟨x.2, by simp only [seek]; rw [if_pos hx], by rw [← hx]; simp, fun he => h.2.1 (by rw [hn]; exact he)⟩
    · rename_i hn
      obtain ⟨v, h1, h2, h3⟩ := Rel.some h.2.2 hl
      refine ⟨v, ?_, by simp [h2], h3⟩
      simp only [seek]
      rw [if_neg (by rw [h.1]; exact hn)]
      exact h1
  | [], _ :: _, h, _ => h.elim
  | _ :: _, [], h, _ => h.elim
theorem Rel.lay {w : World} {v : Value} {f : File} (hf : Fits w v f) : ∀ {l : List Named} {fs : List File}, Up l → Rel w (fun n => n = f.name) l fs → Rel w Nobody (lay l f.name v) (Dk.put fs f)
  | [], [], _, _ => ⟨rfl, fun _ => hf, trivial⟩
  | x :: l, g :: fs, hu, h => by
    have rest : (∀ y ∈ l, less f.name y.1 = true) → Rel w Nobody l fs := fun hlt => by
      have go : ∀ {l : List Named} {fs : List File}, (∀ y ∈ l, less f.name y.1 = true) → Rel w (fun n => n = f.name) l fs → Rel w Nobody l fs := by
        intro l
        induction l with
        | nil => intro fs _ h; cases fs <;> exact h
        | cons y t ih =>
          intro fs hl h
          cases fs with
          | nil => exact h
          | cons k ks => exact ⟨h.1, fun _ => h.2.1 (fun e => by have := hl y (by simp); rw [h.1, e, less_irrefl] at this; cases this), ih (fun z hz => hl z (by simp [hz])) h.2.2⟩
      exact go hlt h.2.2
    simp only [Go.Proofs.Ytfjhfecjbheipaa.lay, Dk.put]
    rw [h.1]
    split
    · rename_i hlt
      exact ⟨h.1, fun _ => h.2.1 (fun e => by rw [e, less_irrefl] at hlt; cases hlt), Rel.lay hf hu.2 h.2.2⟩
    · rename_i hlt
      split
      · rename_i he
        exact ⟨rfl, fun _ => hf, rest (fun y hy => by rw [← he, ← h.1]; exact hu.1 y hy)⟩
      · rename_i he
        have hfg : less f.name g.name = true := by
          cases hx : less f.name g.name with
          | true => rfl
          | false => exact absurd (less_total (by simpa using hlt) hx) he
        exact ⟨rfl, fun _ => hf, h.1, fun _ => h.2.1 he, rest (fun y hy => less_trans hfg (by rw [← h.1]; exact hu.1 y hy))⟩
  | [], _ :: _, _, h => h.elim
  | _ :: _, [], _, h => h.elim
theorem Rel.strike {w : World} {E : List UInt8 → Prop} (n : List UInt8) : ∀ {l : List Named} {fs : List File}, Rel w E l fs → Rel w E (strike l n) (Dk.drop fs n)
  | [], [], _ => trivial
  | x :: l, g :: fs, h => by
    simp only [Go.Proofs.Ytfjhfecjbheipaa.strike, Dk.drop]
    rw [h.1]
    split
    · exact Rel.strike n h.2.2
    · exact ⟨h.1, h.2.1, Rel.strike n h.2.2⟩
  | [], _ :: _, h => h.elim
  | _ :: _, [], h => h.elim
theorem lay_mem {l : List Named} {n : List UInt8} {v : Value} (hu : Up l) {y : Named} (h : y ∈ lay l n v) : y = (n, v) ∨ (y ∈ l ∧ y.1 ≠ n) := by
  induction l with
  | nil => simp [lay] at h; exact .inl h
  | cons x t ih =>
    simp only [lay] at h
    split at h
    · rename_i hx
      rcases List.mem_cons.1 h with rfl | h
      · exact .inr ⟨by simp, fun e => by rw [e, less_irrefl] at hx; cases hx⟩
      · rcases ih hu.2 h with rfl | ⟨h1, h2⟩
        · exact .inl rfl
        · exact .inr ⟨by simp [h1], h2⟩
    · split at h
      · rename_i hx he
        rcases List.mem_cons.1 h with rfl | h
        · exact .inl rfl
        · exact .inr ⟨by simp [h], fun e => by have := hu.1 y h; rw [he, e, less_irrefl] at this; cases this⟩
      · rename_i hx he
        have hlt : less n x.1 = true := by
          cases hh : less n x.1 with
          | true => rfl
          | false => exact absurd (less_total (by simpa using hx) hh) he
        rcases List.mem_cons.1 h with rfl | h
        · exact .inl rfl
        · refine .inr ⟨h, fun e => ?_⟩
          rcases List.mem_cons.1 h with rfl | h
          · exact he e
          · have := less_trans hlt (hu.1 y h)
            rw [e, less_irrefl] at this
            cases this

/-- Where the map and the files' bytes lie. -/
structure Foot (S : Nat → Prop) (m : Nat) (l : List Named) : Prop where
  mine : S m
  arrs : ∀ x ∈ l, ∀ g, arr x.2 = some g → S g ∧ g ≠ m
  apart : ∀ x ∈ l, ∀ y ∈ l, x.1 ≠ y.1 → ∀ g, arr x.2 = some g → arr y.2 ≠ some g
theorem Foot.lay {S S' : Nat → Prop} {m : Nat} {l : List Named} (h : Foot S m l) (hu : Up l) {n : List UInt8} {v : Value} (hs : ∀ g, S g → S' g) (hv : ∀ g, arr v = some g → S' g ∧ g ≠ m ∧ ∀ y ∈ l, y.1 ≠ n → arr y.2 ≠ some g) : Foot S' m (lay l n v) := by
  refine ⟨hs _ h.mine, fun x hx g hg => ?_, fun x hx y hy hne g hg => ?_⟩
  · rcases lay_mem hu hx with rfl | ⟨h1, h2⟩
    · exact ⟨(hv g hg).1, (hv g hg).2.1⟩
    · exact ⟨hs _ (h.arrs x h1 g hg).1, (h.arrs x h1 g hg).2⟩
  · rcases lay_mem hu hx with rfl | ⟨h1, h2⟩
    · rcases lay_mem hu hy with rfl | ⟨h3, h4⟩
      · exact absurd rfl hne
      · exact (hv g hg).2.2 y h3 h4
    · rcases lay_mem hu hy with rfl | ⟨h3, h4⟩
      · intro e
        exact (hv g e).2.2 x h1 h2 hg
      · exact h.apart x h1 y h3 hne g hg
theorem Foot.strike {S : Nat → Prop} {m : Nat} {l : List Named} (h : Foot S m l) (n : List UInt8) : Foot S m (strike l n) :=
  ⟨h.mine, fun x hx => h.arrs x (strike_mem hx).1, fun x hx y hy => h.apart x (strike_mem hx).1 y (strike_mem hy).1⟩
theorem Foot.wide {S S' : Nat → Prop} {m : Nat} {l : List Named} (h : Foot S m l) (hs : ∀ g, S g → S' g) : Foot S' m l :=
  ⟨hs _ h.mine, fun x hx g hg => ⟨hs _ (h.arrs x hx g hg).1, (h.arrs x hx g hg).2⟩, h.apart⟩
theorem MapIs.same {P : Program} {k : TypeId} {w w' : World} {b : Nat} {l : List Named} (h : MapIs P k w b l) (hb : w'.heap[b]? = w.heap[b]?) : MapIs P k w' b l := by
  obtain ⟨hu, es, clock, h1, h2⟩ := h
  exact ⟨hu, es, clock, hb.trans h1, h2⟩
end Go.Proofs.Ytfjhfecjbheipaa
