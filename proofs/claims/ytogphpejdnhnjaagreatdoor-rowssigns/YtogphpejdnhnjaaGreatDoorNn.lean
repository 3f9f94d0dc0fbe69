/- Disk's Names: the files' names, rising; the walk of New. -/
import Derived.Test.YtogphpejdnhnjaaGreatDoorNm
import Derived.Test.YtogphpejdnhnjaaGreatDoorJoinD4
import Derived.Sort.KeysCollected
namespace Go.Proofs.YtogphpejdnhnjaaGreatDoor
open Go.RowKit Go.Sort
open Dk (File Disk)

theorem less_of_lt : ∀ {a b : List UInt8}, a < b → less a b = true
  | _, [], h => by cases h
  | [], _ :: _, _ => rfl
  | x :: a, y :: b, h => by
    rcases List.cons_lt_cons_iff.1 h with h1 | ⟨rfl, h1⟩
    · exact less_cons.2 (.inl (UInt8.lt_iff_toNat_lt.1 h1))
    · exact less_cons.2 (.inr ⟨rfl, less_of_lt h1⟩)
theorem le_of_less {a b : List UInt8} (h : less a b = true) : a ≤ b := by
  intro hb
  have h1 := less_of_lt hb
  rw [less_asymm h] at h1
  cases h1
theorem up_pairwise {l : List Named} (h : Up l) : List.Pairwise (fun a b => decide (a ≤ b) = true) (l.map (·.1)) := by
  induction l with
  | nil => exact List.Pairwise.nil
  | cons x t ih =>
    refine List.Pairwise.cons (fun y hy => ?_) (ih h.2)
    obtain ⟨z, hz, rfl⟩ := List.mem_map.1 hy
    exact decide_eq_true (le_of_less (h.1 z hz))
theorem strKeys_told (l : List Named) : strKeys (.map (told l)) = l.map (·.1) := by
  induction l with
  | nil => rfl
  | cons x t ih =>
    simp only [told, List.map_cons, strKeys] at ih ⊢
    rw [ih]
    rfl
theorem sorted_names {l : List Named} (h : Up l) {ss : List (List UInt8)} (hp : ss.Perm (strKeys (.map (told l)))) : ss.mergeSort (fun x y => decide (x ≤ y)) = l.map (·.1) := by
  rw [strKeys_told] at hp
  exact (mergeSort_of_perm hp).trans (List.mergeSort_of_pairwise (up_pairwise h))
/-- Names' answer: new memory that holds the names. -/
theorem names_mem (S : Nat → Prop) (b m : Nat) (l : List Named) (left : Int) (d : Disk) (w : World) (h : MemAt S w b m l left d) :
    Calls Tryz.prog 87 #[.pointer (some ⟨b, 0, none⟩)] w fun e w' => ∃ ao c, e = .returned (.slice ao d.files.length c) ∧ w'.ownsRow w.heap.size 9 1 (.slice ao d.files.length c) d.files.length (rv strKind (d.files.map (·.name))) ∧ RSrc strKind w' ao d.files.length c (d.files.map (·.name)) ∧ Below w.heap.size w w' := by
  refine (names_raw b m l w h.box.c0 h.map h.few.2).mono ?_
  rintro e w' ⟨v, ss, rfl, hp, ho, hb⟩
  have hs := sorted_names h.map.1 hp
  have hlen : ss.length = d.files.length := by
    have h1 := hp.length_eq
    rw [strKeys_told, List.length_map, h.rel.length] at h1
    exact h1
  have hn : ss.mergeSort (fun x y => decide (x ≤ y)) = d.files.map (·.name) := by rw [hs]; exact h.rel.names
  rw [hn, hlen] at ho
  have e1 : (d.files.map (·.name)).map encStr = rv strKind (d.files.map (·.name)) := by
    generalize d.files.map (·.name) = q
    induction q with
    | nil => rfl
    | cons x t ih => simp only [List.map_cons, rv, ih]; rfl
  rw [e1] at ho
  obtain ⟨ao, c, rfl, hr, _⟩ := RSrc.own strKind_ok ho (fun _ _ => trivial)
  exact ⟨ao, c, rfl, ho, hr, hb⟩

set_option maxHeartbeats 1000000 in
set_option maxRecDepth 100000 in
theorem new_arg (cap : Int) (w : World) (h : cap < 0 ∨ 1099511627776 < cap) :
    Calls Tryz.prog 15 #[.int .i64 cap] w fun e w' => e = .returned (.tuple #[.pointer none, .int .i64 1]) ∧ Below w.heap.size w w' := by
  rcases Int.lt_or_le cap 0 with h1 | h1
  · clear h
    go_enter Tryz.func15, Tryz.ntmps15
    go_wp2
    go_ret2
    exact ⟨rfl, Below.refl _ _⟩
  · have h2 : 1099511627776 < cap := by omega
    clear h
    go_enter Tryz.func15, Tryz.ntmps15
    go_wp2
    go_ret2
    exact ⟨rfl, Below.refl _ _⟩
set_option maxHeartbeats 1000000 in
set_option maxRecDepth 100000 in
theorem new_raw (cap : Int) (w : World) (h0 : 0 ≤ cap) (h1 : cap ≤ 1099511627776) :
    Calls Tryz.prog 15 #[.int .i64 cap] w fun e w' => e = .returned (.tuple #[.pointer (some ⟨w.heap.size + 1, 0, none⟩), .int .i64 0]) ∧ w' = (w.alloc (.map #[] 0)).alloc (.cells #[.map (some w.heap.size), .int .i64 cap, .int .i64 (-1), .bool false, .int .i64 0] 90) := by
  have hmm := @run_makeMap Tryz.prog
  go_enter Tryz.func15, Tryz.ntmps15
  go_wp2
  go_ret2
  exact ⟨rfl, rfl⟩
/-- A new disk. -/
theorem new_mem (cap : Nat) (w : World) (h1 : cap ≤ 1099511627776) :
    Calls Tryz.prog 15 #[.int .i64 (cap : Int)] w fun e w' => ∃ b S, e = .returned (.tuple #[.pointer (some ⟨b, 0, none⟩), .int .i64 0]) ∧ Mem S w' b ⟨cap, [], 0, none, false⟩ ∧ (∀ g, S g → w.heap.size ≤ g) ∧ w.heap.size ≤ b ∧ Below w.heap.size w w' := by
  refine (new_raw (cap : Int) w (by omega) (by omega)).mono ?_
  rintro e w' ⟨rfl, rfl⟩
  have hb : Below w.heap.size w ((w.alloc (.map #[] 0)).alloc (.cells #[.map (some w.heap.size), .int .i64 (cap : Int), .int .i64 (-1), .bool false, .int .i64 0] 90)) := ((Below.refl _ _).alloc (Nat.le_refl _) _).alloc (by simp) _
  refine ⟨w.heap.size + 1, fun g => g = w.heap.size, rfl, ⟨w.heap.size, [], -1, ⟨Dk.new_good cap, h1, ?_, ?_, trivial, ⟨rfl, (fun x hx => by cases hx), (fun x hx => by cases hx)⟩, (fun e => by have : w.heap.size + 1 = w.heap.size := e; omega), (fun g hg => by have e : g = w.heap.size := hg; rw [e]; simp; omega), fun _ => rfl, by omega⟩⟩, (fun g hg => by have : g = w.heap.size := hg; omega), Nat.le_succ _, hb⟩
  · have := heap_alloc_new (w.alloc (.map #[] 0)) (.cells #[.map (some w.heap.size), .int .i64 (cap : Int), .int .i64 (-1), .bool false, .int .i64 0] 90)
    have e1 : (w.alloc (.map #[] 0)).heap.size = w.heap.size + 1 := by simp
    rw [e1] at this
    show _ = _
    rw [this]
    simp [Dk.used]
  · exact (MapIs.made Tryz.prog 9 w).same (Below.heap_alloc _ _ _ (by simp))
end Go.Proofs.YtogphpejdnhnjaaGreatDoor
