/- The walk of disk's Names, by the library's contracts on the sort and on a map's keys. -/
/- Disk's Names: the files' names, rising; the walk of New. -/
import Derived.Test.YtohnfogdalnilaaGreatDoorPl
import Derived.Test.YtohnfogdalnilaaGreatDoorD2
import Derived.Test.YtohnfogdalnilaaGreatDoorD4
import Derived.Test.YtohnfogdalnilaaGreatDoorNw
import Derived.Sort.KeysCollected
namespace Go.Proofs.YtohnfogdalnilaaGreatDoor
open Go.RowKit Go.Maps Go.Sort Go.Shelf

theorem sorts_here (m : Nat) : AnyZ.SortsIn Tryz.prog lay_sorted_ren Fence.wide m :=
  ⟨fun blk off cap ss W hH hblk hsz => callsIn_wide.2 (AnyM.slices_Sort_string lay_sort blk off cap ss W hH hblk hsz),
   fun p cap W => callsIn_wide.2 (AnyM.slices_Sort_string_none lay_sort p cap W)⟩
theorem keys_here (mb : Option Nat) (W : World) : CallsIn Fence.wide 5 Tryz.prog 80 #[.map mb] W fun e w' => e = .returned (.func (.func 111) #[] #[.pointer (some ⟨W.heap.size, 0, none⟩)]) ∧ w' = W.alloc (.cells #[.map mb] 81) :=
  AnyZ.keys_in lay_keys Fence.wide 5 trivial rfl mb W
set_option maxHeartbeats 1000000 in
theorem sorted_here {H : Type} (b nn : Nat) (D0 : DataW H) (R : Value → Option (DataW H × List MemPlace)) (w : World) (hown : w.ownsMap Tryz.prog 9 R b nn D0) (hmax : Maps.size D0 ≤ maxLen) (hbytes : Maps.size D0 * 16 ≤ 140737488355328) :
    CallsIn Fence.wide 5 Tryz.prog 79 #[.func (.func 111) #[] #[.pointer (some ⟨w.heap.size, 0, none⟩)]] (w.alloc (.cells #[.map (some b)] 81)) fun e w' => ∃ (v : Value) (ss : List (List UInt8)), e = .returned v ∧ ss.Perm (strKeys D0) ∧
      w'.ownsRow (w.alloc (.cells #[.map (some b)] 81)).heap.size 9 1 v ss.length ((ss.mergeSort (fun x y => decide (x ≤ y))).map encStr) ∧ Below (w.alloc (.cells #[.map (some b)] 81)).heap.size (w.alloc (.cells #[.map (some b)] 81)) w' := by
  have hbl := hown.lt
  have hseq : SeqGives Fence.wide 2 Tryz.prog 111 #[.pointer (some ⟨w.heap.size, 0, none⟩)] encStr (fun ss => ss.Perm (strKeys D0)) (Maps.size D0) (w.alloc (.cells #[.map (some b)] 81)) :=
    AnyZ.keys_gives (ρ := lay_keys_ren) { lay_keys with } Fence.wide _ trivial rfl (by omega) w.heap.size b nn D0 _ (by simp) (by simp) (by
      obtain ⟨es, clock, hb, Ft, hs, hD⟩ := hown
      exact ⟨es, clock, (Below.heap_alloc _ _ b hbl).trans hb, Ft, hs, hD⟩)
  refine (AnyZ.sorted_in lay_sorted Fence.wide 5 trivial trivial trivial trivial rfl (by omega) (sorts_here _) (enters_of Tryz.func110 (by kernel_rfl) rfl) 111 #[.pointer (some ⟨w.heap.size, 0, none⟩)] trivial (enters_of Tryz.func111 (by kernel_rfl) rfl) _ _ hmax hbytes _ hseq).mono ?_
  rintro e w' ⟨v, ss, h1, h2, h3, _, h5⟩
  exact ⟨v, ss, h1, h2, h3, h5⟩

set_option maxHeartbeats 1000000 in
theorem names_raw (b m : Nat) (l : List Named) (w : World) (c0 : w.cell? ⟨b, 0, none⟩ = some (.map (some m))) (hown : MapIs Tryz.prog 9 w m l) (hl : l.length ≤ 1099511627776) :
    Calls Tryz.prog 39 #[.pointer (some ⟨b, 0, none⟩)] w fun e w' => ∃ (v : Value) (ss : List (List UInt8)), e = .returned v ∧ ss.Perm (strKeys (.map (told l))) ∧
      w'.ownsRow w.heap.size 9 1 v ss.length ((ss.mergeSort (fun x y => decide (x ≤ y))).map encStr) ∧ Below w.heap.size w w' := by
  have hm1 : Maps.size (DataW.map (told l)) ≤ maxLen := by rw [told_size]; unfold maxLen; omega
  have hm2 : Maps.size (DataW.map (told l)) * 16 ≤ 140737488355328 := by rw [told_size]; omega
  have HO := keep hown
  clear hown
  have hk := fun (mb : Option Nat) (W : World) => (callsIn_wide (n := 5)).1 (keys_here mb W)
  have HK := keep hk
  have HS := keep ((callsIn_wide (n := 5)).1 (sorted_here m l.length (.map (told l)) asIs w HO.out.2 hm1 hm2))
  clear hk hm1 hm2
  go_enter Tryz.func39, Tryz.ntmps39
  go_wp2_with fail
  refine (made_box b m _ c0).mono ?_
  rintro e w1 ⟨rfl, rfl⟩
  go_wp2_with fail
  refine (HK.out _ _).mono ?_
  rintro e w2 ⟨rfl, rfl⟩
  go_wp2_with fail
  refine HS.out.mono ?_
  rintro e w3 ⟨v, ss, rfl, hS, hrow, hb⟩
  have H1 := keep hS
  have H2 := keep hrow
  have H3 := keep hb
  clear hS hrow hb HS
  go_wp2
  go_ret
  exact ⟨v, ss, rfl, H1.out, ownsRow_base_a H2.out (by simp), ((Below.refl _ _).alloc (Nat.le_refl _) _).trans (H3.out.mono (by simp))⟩
end Go.Proofs.YtohnfogdalnilaaGreatDoor
namespace Go.Proofs.YtohnfogdalnilaaGreatDoor
open Go.RowKit Go.Sort
open Dk (File Disk)

theorem less_of_lt : ∀ {a b : List UInt8}, a < b → less a b = true
  | _, [], h => by cases h
  | [], _ :: _, _ => rfl
  | x :: a, y :: b, h => by
    rcases List.cons_lt_cons_iff.1 h with h1 | ⟨rfl, h1⟩
    · exact less_cons.2 (.inl (UInt8.lt_iff_toNat_lt.1 h1))
    · exact less_cons.2 (.inr ⟨rfl, less_of_lt h1⟩)
theorem le_of_less {a b : List UInt8} (h : less a b = true) : a ≤ b := by
  intro hb
  have h1 := less_of_lt hb
  rw [less_asymm h] at h1
  cases h1
theorem up_pairwise {l : List Named} (h : Up l) : List.Pairwise (fun a b => decide (a ≤ b) = true) (l.map (·.1)) := by
  induction l with
  | nil => exact List.Pairwise.nil
  | cons x t ih =>
    refine List.Pairwise.cons (fun y hy => ?_) (ih h.2)
    obtain ⟨z, hz, rfl⟩ := List.mem_map.1 hy
    exact decide_eq_true (le_of_less (h.1 z hz))
theorem strKeys_told (l : List Named) : strKeys (.map (told l)) = l.map (·.1) := by
  induction l with
  | nil => rfl
  | cons x t ih =>
    simp only [told, List.map_cons, strKeys] at ih ⊢
    rw [ih]
    rfl
theorem sorted_names {l : List Named} (h : Up l) {ss : List (List UInt8)} (hp : ss.Perm (strKeys (.map (told l)))) : ss.mergeSort (fun x y => decide (x ≤ y)) = l.map (·.1) := by
  rw [strKeys_told] at hp
  exact (mergeSort_of_perm hp).trans (List.mergeSort_of_pairwise (up_pairwise h))
/-- Names' answer: new memory that holds the names. -/
theorem names_mem (S : Nat → Prop) (b m : Nat) (l : List Named) (left : Int) (d : Disk) (w : World) (h : MemAt S w b m l left d) :
    Calls Tryz.prog 39 #[.pointer (some ⟨b, 0, none⟩)] w fun e w' => ∃ ao c, e = .returned (.slice ao d.files.length c) ∧ w'.ownsRow w.heap.size 9 1 (.slice ao d.files.length c) d.files.length (rv strKind (d.files.map (·.name))) ∧ RSrc strKind w' ao d.files.length c (d.files.map (·.name)) ∧ Below w.heap.size w w' := by
  refine (names_raw b m l w h.box.c0 h.map h.few.2).mono ?_
  rintro e w' ⟨v, ss, rfl, hp, ho, hb⟩
  have hs := sorted_names h.map.1 hp
  have hlen : ss.length = d.files.length := by
    have h1 := hp.length_eq
    rw [strKeys_told, List.length_map, h.rel.length] at h1
    exact h1
  have hn : ss.mergeSort (fun x y => decide (x ≤ y)) = d.files.map (·.name) := by rw [hs]; exact h.rel.names
  rw [hn, hlen] at ho
  have e1 : (d.files.map (·.name)).map encStr = rv strKind (d.files.map (·.name)) := by
    generalize d.files.map (·.name) = q
    induction q with
    | nil => rfl
    | cons x t ih => simp only [List.map_cons, rv, ih]; rfl
  rw [e1] at ho
  obtain ⟨ao, c, rfl, hr, _⟩ := RSrc.own strKind_ok ho (fun _ _ => trivial)
  exact ⟨ao, c, rfl, ho, hr, hb⟩
end Go.Proofs.YtohnfogdalnilaaGreatDoor
