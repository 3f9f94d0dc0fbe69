/- The walk of RowsNone. -/
import Derived.Test.YtbgdkkcobcmpoaaGreatDoorJoinEdg
namespace Go.Proofs.YtbgdkkcobcmpoaaGreatDoor
open Go.RowKit Go.Maps

/-- What is asked of a number: nothing wrong, or that it may be no tree's. -/
def Wants (id want : Int) : Prop := (1 ≤ id ∧ id ≤ 64 ∧ want = 0) ∨ (id < 1 ∧ want = 10) ∨ (1 ≤ id ∧ 64 < id ∧ want = 10)
theorem wants (id : Int) : ∃ want, Wants id want := by
  by_cases h : 1 ≤ id
  · by_cases h2 : id ≤ 64
    · exact ⟨0, .inl ⟨h, h2, rfl⟩⟩
    · exact ⟨10, .inr (.inr ⟨h, by omega, rfl⟩)⟩
  · exact ⟨10, .inr (.inl ⟨by omega, rfl⟩)⟩
theorem tree_all (wb tb eb wm gm db pm tm sk : Nat) (b : Addr) (id want : Int) (w : World) (hu : UpW w wb tb eb wm gm db pm tm sk [] 0) (hg : ErrIs w b) (hwa : Wants id want) : Calls Tryz.prog 8 #[.pointer (some ⟨tb, 0, none⟩), .int .i64 id] w fun e w' => e = .returned (.tuple #[treeZ, .int .i64 10]) ∧ Below w.heap.size w w' := by
  rcases hwa with ⟨h1, h2, rfl⟩ | ⟨h1, rfl⟩ | ⟨h1, h2, rfl⟩
  · obtain ⟨k, rfl⟩ := Int.eq_ofNat_of_zero_le (show 0 ≤ id by omega)
    exact gettree_none tb eb wm gm db pm tm sk 0 [] b k w hu.txn hu.eng hg (by omega) (by omega) rfl
  · exact gettree_bad _ id w (by omega)
  · exact gettree_bad _ id w (by omega)
theorem cnt_all (wb tb eb wm gm db pm tm sk : Nat) (b : Addr) (id want : Int) (w : World) (hu : UpW w wb tb eb wm gm db pm tm sk [] 0) (hg : ErrIs w b) (hwa : Wants id want) : Calls Tryz.prog 9 #[.pointer (some ⟨tb, 0, none⟩), .int .i64 id] w fun e w' => e = .returned (.tuple #[cntZ, .int .i64 want]) ∧ Below w.heap.size w w' := by
  rcases hwa with ⟨h1, h2, rfl⟩ | ⟨h1, rfl⟩ | ⟨h1, h2, rfl⟩
  · obtain ⟨k, rfl⟩ := Int.eq_ofNat_of_zero_le (show 0 ≤ id by omega)
    exact cnt_none tb eb wm gm db pm tm sk 0 [] b k w hu.txn hu.eng hg (by omega) rfl (by omega)
  · exact cnt_bad tb id w (by omega)
  · exact cnt_bad tb id w (by omega)
theorem head_all (wb tb eb wm gm db pm tm sk : Nat) (b : Addr) (id want : Int) (w : World) (hu : UpW w wb tb eb wm gm db pm tm sk [] 0) (hg : ErrIs w b) (hwa : Wants id want) : Calls Tryz.prog 10 #[.pointer (some ⟨tb, 0, none⟩), .int .i64 id] w fun e w' => e = .returned (.tuple #[headZ, .int .i64 want]) ∧ Below w.heap.size w w' := by
  rcases hwa with ⟨h1, h2, rfl⟩ | ⟨h1, rfl⟩ | ⟨h1, h2, rfl⟩
  · obtain ⟨k, rfl⟩ := Int.eq_ofNat_of_zero_le (show 0 ≤ id by omega)
    exact head_none tb eb wm gm db pm tm sk 0 [] b k w hu.txn hu.eng hg (by omega) rfl (by omega)
  · exact head_bad tb id w (by omega)
  · exact head_bad tb id w (by omega)
theorem lease_all (wb tb eb wm gm db pm tm sk : Nat) (b : Addr) (id want : Int) (w : World) (hu : UpW w wb tb eb wm gm db pm tm sk [] 0) (hg : ErrIs w b) (hwa : Wants id want) : Calls Tryz.prog 11 #[.pointer (some ⟨tb, 0, none⟩), .int .i64 id] w fun e w' => e = .returned (.tuple #[leaseZ, .int .i64 want]) ∧ Below w.heap.size w w' := by
  rcases hwa with ⟨h1, h2, rfl⟩ | ⟨h1, rfl⟩ | ⟨h1, h2, rfl⟩
  · obtain ⟨k, rfl⟩ := Int.eq_ofNat_of_zero_le (show 0 ≤ id by omega)
    exact lease_none tb eb wm gm db pm tm sk 0 [] b k w hu.txn hu.eng hg (by omega) rfl (by omega)
  · exact lease_bad tb id w (by omega)
  · exact lease_bad tb id w (by omega)
set_option maxHeartbeats 4000000 in
set_option maxRecDepth 100000 in
theorem rowsNone_walk (id : Int) (b : Addr) (w : World) (ht : Tab w) (hw : 0 < w.heap.size) (hg : ErrIs w b) :
    Calls Tryz.prog 4 #[.int .i64 id] w fun e w' => e = .returned (.bool true) ∧ Below w.heap.size w w' := by
  have HT := keep ht
  have HG := keep hg
  have AW := keep (awake_any b w ht hw hg)
  obtain ⟨want, hwa⟩ := wants id
  have WA := keep hwa
  clear ht hg hwa
  go_enter Tryz.func4, Tryz.ntmps4
  go_wp2_with fail
  refine AW.out.mono ?_
  rintro e w1 ⟨rfl, hb1⟩
  have B1 := keep hb1
  have MA := keep (made_any w1 (HT.out.below hb1 hw) (Nat.lt_of_lt_of_le hw hb1.size))
  clear hb1 AW
  go_wp2_with fail
  refine MA.out.mono ?_
  rintro e w2 ⟨wb, tb, eb, wm, gm, db, pm, tm, sk, rfl, hu, hlm, hb2⟩
  have B2 := keep (B1.out.trans (hb2.mono B1.out.size))
  have U2 := keep hu
  have p2 := hu.ptr
  have GT := keep (tree_all wb tb eb wm gm db pm tm sk b id want w2 U2.out (HG.out.below B2.out) WA.out)
  unfold treeZ at GT
  clear hb2 hlm hu MA
  go_wp2_with fail
  refine GT.out.mono ?_
  rintro e w3 ⟨rfl, hb3⟩
  have B3 := keep ((B2).out.trans (hb3.mono (B2).out.size))
  have b3 := keep ((Below.refl w3.heap.size w3).alloc (Nat.le_refl _) (.cells #[.int .i64 0, .int .i64 0, .int .i64 0, .string ⟨#[]⟩, .string ⟨#[]⟩] 36))
  have A3 := keep (B3.out.trans (b3.out.mono B3.out.size))
  have U3 := keep (((U2).out.below hb3).below b3.out)
  have R3Tree := keep (heap_alloc_new w3 (.cells #[.int .i64 0, .int .i64 0, .int .i64 0, .string ⟨#[]⟩, .string ⟨#[]⟩] 36))
  have p3 := U3.out.ptr
  have GC := keep (cnt_all wb tb eb wm gm db pm tm sk b id want _ U3.out (HG.out.below A3.out) WA.out)
  unfold cntZ at GC
  clear hb3 GT p2
  go_wp2_with fail
  refine GC.out.mono ?_
  rintro e w4 ⟨rfl, hb4⟩
  have B4 := keep ((A3).out.trans (hb4.mono (A3).out.size))
  have b4 := keep ((Below.refl w4.heap.size w4).alloc (Nat.le_refl _) (.cells #[.int .i64 0, .int .i64 0] 40))
  have A4 := keep (B4.out.trans (b4.out.mono B4.out.size))
  have U4 := keep (((U3).out.below hb4).below b4.out)
  have R4Tree := keep ((b4.out.block _ (Nat.lt_of_lt_of_le (Array.getElem?_eq_some_iff.1 R3Tree.out).1 hb4.size)).trans ((hb4.block _ (Array.getElem?_eq_some_iff.1 R3Tree.out).1).trans R3Tree.out))
  have R4Count := keep (heap_alloc_new w4 (.cells #[.int .i64 0, .int .i64 0] 40))
  have p4 := U4.out.ptr
  have GH := keep (head_all wb tb eb wm gm db pm tm sk b id want _ U4.out (HG.out.below A4.out) WA.out)
  unfold headZ at GH
  clear hb4 GC p3
  go_wp2_with fail
  refine GH.out.mono ?_
  rintro e w5 ⟨rfl, hb5⟩
  have B5 := keep ((A4).out.trans (hb5.mono (A4).out.size))
  have b5 := keep ((Below.refl w5.heap.size w5).alloc (Nat.le_refl _) (.cells #[.int .i64 0, .string ⟨#[]⟩, .int .i64 0, .int .i64 0, .slice none 0 0, .string ⟨#[]⟩] 45))
  have A5 := keep (B5.out.trans (b5.out.mono B5.out.size))
  have U5 := keep (((U4).out.below hb5).below b5.out)
  have R5Tree := keep ((b5.out.block _ (Nat.lt_of_lt_of_le (Array.getElem?_eq_some_iff.1 R4Tree.out).1 hb5.size)).trans ((hb5.block _ (Array.getElem?_eq_some_iff.1 R4Tree.out).1).trans R4Tree.out))
  have R5Count := keep ((b5.out.block _ (Nat.lt_of_lt_of_le (Array.getElem?_eq_some_iff.1 R4Count.out).1 hb5.size)).trans ((hb5.block _ (Array.getElem?_eq_some_iff.1 R4Count.out).1).trans R4Count.out))
  have R5Head := keep (heap_alloc_new w5 (.cells #[.int .i64 0, .string ⟨#[]⟩, .int .i64 0, .int .i64 0, .slice none 0 0, .string ⟨#[]⟩] 45))
  have p5 := U5.out.ptr
  have GL := keep (lease_all wb tb eb wm gm db pm tm sk b id want _ U5.out (HG.out.below A5.out) WA.out)
  unfold leaseZ at GL
  clear hb5 GH p4
  go_wp2_with fail
  refine GL.out.mono ?_
  rintro e w6 ⟨rfl, hb6⟩
  have B6 := keep ((A5).out.trans (hb6.mono (A5).out.size))
  have b6 := keep ((Below.refl w6.heap.size w6).alloc (Nat.le_refl _) (.cells #[.int .i64 0, .int .i64 0, .int .i64 0] 49))
  have A6 := keep (B6.out.trans (b6.out.mono B6.out.size))
  have U6 := keep (((U5).out.below hb6).below b6.out)
  have R6Tree := keep ((b6.out.block _ (Nat.lt_of_lt_of_le (Array.getElem?_eq_some_iff.1 R5Tree.out).1 hb6.size)).trans ((hb6.block _ (Array.getElem?_eq_some_iff.1 R5Tree.out).1).trans R5Tree.out))
  have R6Count := keep ((b6.out.block _ (Nat.lt_of_lt_of_le (Array.getElem?_eq_some_iff.1 R5Count.out).1 hb6.size)).trans ((hb6.block _ (Array.getElem?_eq_some_iff.1 R5Count.out).1).trans R5Count.out))
  have R6Head := keep ((b6.out.block _ (Nat.lt_of_lt_of_le (Array.getElem?_eq_some_iff.1 R5Head.out).1 hb6.size)).trans ((hb6.block _ (Array.getElem?_eq_some_iff.1 R5Head.out).1).trans R5Head.out))
  have R6Lease := keep (heap_alloc_new w6 (.cells #[.int .i64 0, .int .i64 0, .int .i64 0] 49))
  have p6 := U6.out.ptr
  have TR := keep (trees_none tb eb wm gm db pm tm sk 0 b _ U6.out.txn U6.out.eng (HG.out.below A6.out))
  clear hb6 GL p5
  have zCount0 : (w6.alloc (.cells #[.int .i64 0, .int .i64 0, .int .i64 0] 49)).cell? ⟨w4.heap.size, 0, none⟩ = some (.int .i64 0) := cell_of_row _ _ _ _ _ _ R6Count.out
  have zCount1 : (w6.alloc (.cells #[.int .i64 0, .int .i64 0, .int .i64 0] 49)).cell? ⟨w4.heap.size, 1, none⟩ = some (.int .i64 0) := cell_of_row _ _ _ _ _ _ R6Count.out
  have zHead0 : (w6.alloc (.cells #[.int .i64 0, .int .i64 0, .int .i64 0] 49)).cell? ⟨w5.heap.size, 0, none⟩ = some (.int .i64 0) := cell_of_row _ _ _ _ _ _ R6Head.out
  have zHead1 : (w6.alloc (.cells #[.int .i64 0, .int .i64 0, .int .i64 0] 49)).cell? ⟨w5.heap.size, 1, none⟩ = some (.string ⟨#[]⟩) := cell_of_row _ _ _ _ _ _ R6Head.out
  have zHead2 : (w6.alloc (.cells #[.int .i64 0, .int .i64 0, .int .i64 0] 49)).cell? ⟨w5.heap.size, 2, none⟩ = some (.int .i64 0) := cell_of_row _ _ _ _ _ _ R6Head.out
  have zHead3 : (w6.alloc (.cells #[.int .i64 0, .int .i64 0, .int .i64 0] 49)).cell? ⟨w5.heap.size, 3, none⟩ = some (.int .i64 0) := cell_of_row _ _ _ _ _ _ R6Head.out
  have zHead4 : (w6.alloc (.cells #[.int .i64 0, .int .i64 0, .int .i64 0] 49)).cell? ⟨w5.heap.size, 4, none⟩ = some (.slice none 0 0) := cell_of_row _ _ _ _ _ _ R6Head.out
  have zHead5 : (w6.alloc (.cells #[.int .i64 0, .int .i64 0, .int .i64 0] 49)).cell? ⟨w5.heap.size, 5, none⟩ = some (.string ⟨#[]⟩) := cell_of_row _ _ _ _ _ _ R6Head.out
  have zLease0 : (w6.alloc (.cells #[.int .i64 0, .int .i64 0, .int .i64 0] 49)).cell? ⟨w6.heap.size, 0, none⟩ = some (.int .i64 0) := cell_of_row _ _ _ _ _ _ R6Lease.out
  have zLease1 : (w6.alloc (.cells #[.int .i64 0, .int .i64 0, .int .i64 0] 49)).cell? ⟨w6.heap.size, 1, none⟩ = some (.int .i64 0) := cell_of_row _ _ _ _ _ _ R6Lease.out
  have zLease2 : (w6.alloc (.cells #[.int .i64 0, .int .i64 0, .int .i64 0] 49)).cell? ⟨w6.heap.size, 2, none⟩ = some (.int .i64 0) := cell_of_row _ _ _ _ _ _ R6Lease.out
  rcases WA.out with ⟨h1, h2, rfl⟩ | ⟨h1, rfl⟩ | ⟨h1, h2, rfl⟩
  · go_wp2_with fail
    refine TR.out.mono ?_
    rintro e w7 ⟨rfl, hb7⟩
    have B7 := keep (A6.out.trans (hb7.mono A6.out.size))
    clear hb7 TR
    go_wp2
    go_ret
    exact ⟨rfl, B7.out⟩
  · have j1 : ¬ 1 ≤ id := by omega
    go_wp2_with fail
    refine TR.out.mono ?_
    rintro e w7 ⟨rfl, hb7⟩
    have B7 := keep (A6.out.trans (hb7.mono A6.out.size))
    clear hb7 TR
    go_wp2
    go_ret
    exact ⟨rfl, B7.out⟩
  · have j1 : ¬ id ≤ 64 := by omega
    go_wp2_with fail
    refine TR.out.mono ?_
    rintro e w7 ⟨rfl, hb7⟩
    have B7 := keep (A6.out.trans (hb7.mono A6.out.size))
    clear hb7 TR
    go_wp2
    go_ret
    exact ⟨rfl, B7.out⟩
end Go.Proofs.YtbgdkkcobcmpoaaGreatDoor
