/- The walk of disk's Names, by the library's contracts on the sort and on a map's keys. -/
import Derived.Test.YtogphpejdnhnjaaGreatDoorPl
import Derived.Test.YtogphpejdnhnjaaGreatDoorJoinD2
namespace Go.Proofs.YtogphpejdnhnjaaGreatDoor
open Go.RowKit Go.Maps Go.Sort Go.Shelf

theorem sorts_here (m : Nat) : AnyZ.SortsIn Tryz.prog lay_sorted_ren Fence.wide m :=
  ⟨fun blk off cap ss W hH hblk hsz => callsIn_wide.2 (AnyM.slices_Sort_string lay_sort blk off cap ss W hH hblk hsz),
   fun p cap W => callsIn_wide.2 (AnyM.slices_Sort_string_none lay_sort p cap W)⟩
theorem keys_here (mb : Option Nat) (W : World) : CallsIn Fence.wide 5 Tryz.prog 149 #[.map mb] W fun e w' => e = .returned (.func (.func 225) #[] #[.pointer (some ⟨W.heap.size, 0, none⟩)]) ∧ w' = W.alloc (.cells #[.map mb] 83) :=
  AnyZ.keys_in lay_keys Fence.wide 5 trivial rfl mb W
set_option maxHeartbeats 1000000 in
theorem sorted_here {H : Type} (b nn : Nat) (D0 : DataW H) (R : Value → Option (DataW H × List MemPlace)) (w : World) (hown : w.ownsMap Tryz.prog 9 R b nn D0) (hmax : Maps.size D0 ≤ maxLen) (hbytes : Maps.size D0 * 16 ≤ 140737488355328) :
    CallsIn Fence.wide 5 Tryz.prog 148 #[.func (.func 225) #[] #[.pointer (some ⟨w.heap.size, 0, none⟩)]] (w.alloc (.cells #[.map (some b)] 83)) fun e w' => ∃ (v : Value) (ss : List (List UInt8)), e = .returned v ∧ ss.Perm (strKeys D0) ∧
      w'.ownsRow (w.alloc (.cells #[.map (some b)] 83)).heap.size 9 1 v ss.length ((ss.mergeSort (fun x y => decide (x ≤ y))).map encStr) ∧ Below (w.alloc (.cells #[.map (some b)] 83)).heap.size (w.alloc (.cells #[.map (some b)] 83)) w' := by
  have hbl := hown.lt
  have hseq : SeqGives Fence.wide 2 Tryz.prog 225 #[.pointer (some ⟨w.heap.size, 0, none⟩)] encStr (fun ss => ss.Perm (strKeys D0)) (Maps.size D0) (w.alloc (.cells #[.map (some b)] 83)) :=
    AnyZ.keys_gives (ρ := lay_keys_ren) { lay_keys with } Fence.wide _ trivial rfl (by omega) w.heap.size b nn D0 _ (by simp) (by simp) (by
      obtain ⟨es, clock, hb, Ft, hs, hD⟩ := hown
      exact ⟨es, clock, (Below.heap_alloc _ _ b hbl).trans hb, Ft, hs, hD⟩)
  refine (AnyZ.sorted_in lay_sorted Fence.wide 5 trivial trivial trivial trivial rfl (by omega) (sorts_here _) (enters_of Tryz.func135 (by kernel_rfl) rfl) 225 #[.pointer (some ⟨w.heap.size, 0, none⟩)] trivial (enters_of Tryz.func225 (by kernel_rfl) rfl) _ _ hmax hbytes _ hseq).mono ?_
  rintro e w' ⟨v, ss, h1, h2, h3, _, h5⟩
  exact ⟨v, ss, h1, h2, h3, h5⟩

set_option maxHeartbeats 1000000 in
theorem names_raw (b m : Nat) (l : List Named) (w : World) (c0 : w.cell? ⟨b, 0, none⟩ = some (.map (some m))) (hown : MapIs Tryz.prog 9 w m l) (hl : l.length ≤ 1099511627776) :
    Calls Tryz.prog 87 #[.pointer (some ⟨b, 0, none⟩)] w fun e w' => ∃ (v : Value) (ss : List (List UInt8)), e = .returned v ∧ ss.Perm (strKeys (.map (told l))) ∧
      w'.ownsRow w.heap.size 9 1 v ss.length ((ss.mergeSort (fun x y => decide (x ≤ y))).map encStr) ∧ Below w.heap.size w w' := by
  have hm1 : Maps.size (DataW.map (told l)) ≤ maxLen := by rw [told_size]; unfold maxLen; omega
  have hm2 : Maps.size (DataW.map (told l)) * 16 ≤ 140737488355328 := by rw [told_size]; omega
  have HO := keep hown
  clear hown
  have hk := fun (mb : Option Nat) (W : World) => (callsIn_wide (n := 5)).1 (keys_here mb W)
  have HK := keep hk
  have HS := keep ((callsIn_wide (n := 5)).1 (sorted_here m l.length (.map (told l)) asIs w HO.out.2 hm1 hm2))
  clear hk hm1 hm2
  go_enter Tryz.func87, Tryz.ntmps87
  go_wp2_with fail
  refine (made_box b m _ c0).mono ?_
  rintro e w1 ⟨rfl, rfl⟩
  go_wp2_with fail
  refine (HK.out _ _).mono ?_
  rintro e w2 ⟨rfl, rfl⟩
  go_wp2_with fail
  refine HS.out.mono ?_
  rintro e w3 ⟨v, ss, rfl, hS, hrow, hb⟩
  have H1 := keep hS
  have H2 := keep hrow
  have H3 := keep hb
  clear hS hrow hb HS
  go_wp2
  go_ret
  exact ⟨v, ss, rfl, H1.out, ownsRow_base_a H2.out (by simp), ((Below.refl _ _).alloc (Nat.le_refl _) _).trans (H3.out.mono (by simp))⟩
end Go.Proofs.YtogphpejdnhnjaaGreatDoor
