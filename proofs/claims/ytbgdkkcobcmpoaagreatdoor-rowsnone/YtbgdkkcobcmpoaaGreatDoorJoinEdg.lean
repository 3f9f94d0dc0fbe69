/- The walks of isTree, GetTree at a number that no tree has, and Trees where there is none. -/
/- The walks of the kind Count where there is no row, and of GetCount. -/
/- The walks of the kind Head where there is no row, and of GetHead. -/
/- The walks of the kind Lease where there is no row, and of GetLease. -/
import Derived.Test.YtbgdkkcobcmpoaaGreatDoorJoinEcm
namespace Go.Proofs.YtbgdkkcobcmpoaaGreatDoor
open Go.RowKit Go.Maps
open Dk (File Disk)

set_option maxHeartbeats 4000000 in
set_option maxRecDepth 100000 in
theorem istree_no (id : Int) (w : World) (h0 : ¬ (1 ≤ id ∧ id ≤ 64)) :
    Calls Tryz.prog 22 #[.int .i64 id] w fun e w' => e = .returned (.bool false) ∧ w' = w := by
  by_cases hl : id < 1
  · have j : ¬ 1 ≤ id := by omega
    clear h0
    go_enter Tryz.func22, Tryz.ntmps22
    go_wp2
    go_ret
    exact ⟨rfl, rfl⟩
  · have j : 1 ≤ id := by omega
    have k : ¬ id ≤ 64 := by omega
    clear h0
    go_enter Tryz.func22, Tryz.ntmps22
    go_wp2
    go_ret
    exact ⟨rfl, rfl⟩
set_option maxHeartbeats 4000000 in
set_option maxRecDepth 100000 in
theorem gettree_bad (tp : Value) (id : Int) (w : World) (h0 : ¬ (1 ≤ id ∧ id ≤ 64)) :
    Calls Tryz.prog 8 #[tp, .int .i64 id] w fun e w' => e = .returned (.tuple #[treeZ, .int .i64 10]) ∧ Below w.heap.size w w' := by
  obtain ⟨W1, hW1⟩ : ∃ W1, w.alloc (.cells #[.int .i64 0, .int .i64 0, .int .i64 0, .string ⟨#[]⟩, .string ⟨#[]⟩] 36) = W1 := ⟨_, rfl⟩
  have b1 : Hid (Below w.heap.size w W1) := by rw [← hW1]; exact (Below.refl _ _).alloc (Nat.le_refl _) _
  have g1 : Hid (W1.heap[w.heap.size]? = some (.cells #[.int .i64 0, .int .i64 0, .int .i64 0, .string ⟨#[]⟩, .string ⟨#[]⟩] 36)) := by rw [← hW1]; exact heap_alloc_new w _
  have IT := keep (istree_no id W1 h0)
  clear h0
  unfold treeZ
  go_enter Tryz.func8, Tryz.ntmps8
  go_wp2_with fail
  refine IT.out.mono ?_
  rintro e w2 ⟨rfl, rfl⟩
  clear IT hW1
  have z0 : w2.cell? ⟨w.heap.size, 0, none⟩ = some (.int .i64 0) := cell_of_row _ _ _ _ _ _ g1.out
  have z1 : w2.cell? ⟨w.heap.size, 1, none⟩ = some (.int .i64 0) := cell_of_row _ _ _ _ _ _ g1.out
  have z2 : w2.cell? ⟨w.heap.size, 2, none⟩ = some (.int .i64 0) := cell_of_row _ _ _ _ _ _ g1.out
  have z3 : w2.cell? ⟨w.heap.size, 3, none⟩ = some (.string ⟨#[]⟩) := cell_of_row _ _ _ _ _ _ g1.out
  have z4 : w2.cell? ⟨w.heap.size, 4, none⟩ = some (.string ⟨#[]⟩) := cell_of_row _ _ _ _ _ _ g1.out
  have f0 : w2.frozen? ⟨w.heap.size, 0, none⟩ = false := by simp [World.frozen?, g1.out]
  have f1 : w2.frozen? ⟨w.heap.size, 1, none⟩ = false := by simp [World.frozen?, g1.out]
  have f2 : w2.frozen? ⟨w.heap.size, 2, none⟩ = false := by simp [World.frozen?, g1.out]
  have f3 : w2.frozen? ⟨w.heap.size, 3, none⟩ = false := by simp [World.frozen?, g1.out]
  have f4 : w2.frozen? ⟨w.heap.size, 4, none⟩ = false := by simp [World.frozen?, g1.out]
  go_wp2
  refine ⟨rfl, .tuple #[.agg #[.int .i64 0, .int .i64 0, .int .i64 0, .string ⟨#[]⟩, .string ⟨#[]⟩], .int .i64 10], ?_, rfl, ?_⟩
  · have r0 : (w2.setCell ⟨w.heap.size, 0, none⟩ (.int .i64 0)).cell? ⟨w.heap.size, 0, none⟩ = some (.int .i64 0) := World.cell?_setCell_same' _ _ _ (by simp [go_sem, z0])
    have r1 : ((w2.setCell ⟨w.heap.size, 0, none⟩ (.int .i64 0)).setCell ⟨w.heap.size, 1, none⟩ (.int .i64 0)).cell? ⟨w.heap.size, 1, none⟩ = some (.int .i64 0) := World.cell?_setCell_same' _ _ _ (by simp [go_sem, z1])
    have r2 : (((w2.setCell ⟨w.heap.size, 0, none⟩ (.int .i64 0)).setCell ⟨w.heap.size, 1, none⟩ (.int .i64 0)).setCell ⟨w.heap.size, 2, none⟩ (.int .i64 0)).cell? ⟨w.heap.size, 2, none⟩ = some (.int .i64 0) := World.cell?_setCell_same' _ _ _ (by simp [go_sem, z2])
    have r3 : ((((w2.setCell ⟨w.heap.size, 0, none⟩ (.int .i64 0)).setCell ⟨w.heap.size, 1, none⟩ (.int .i64 0)).setCell ⟨w.heap.size, 2, none⟩ (.int .i64 0)).setCell ⟨w.heap.size, 3, none⟩ (.string ⟨#[]⟩)).cell? ⟨w.heap.size, 3, none⟩ = some (.string ⟨#[]⟩) := World.cell?_setCell_same' _ _ _ (by simp [go_sem, z3])
    have r4 : (((((w2.setCell ⟨w.heap.size, 0, none⟩ (.int .i64 0)).setCell ⟨w.heap.size, 1, none⟩ (.int .i64 0)).setCell ⟨w.heap.size, 2, none⟩ (.int .i64 0)).setCell ⟨w.heap.size, 3, none⟩ (.string ⟨#[]⟩)).setCell ⟨w.heap.size, 4, none⟩ (.string ⟨#[]⟩)).cell? ⟨w.heap.size, 4, none⟩ = some (.string ⟨#[]⟩) := World.cell?_setCell_same' _ _ _ (by simp [go_sem, z4])
    simp [results, Tryz.f8, go_sem, loadCells, loadCellsFrom, r0, r1, r2, r3, r4]
  · exact (((((b1.out.setCell (p := ⟨w.heap.size, 0, none⟩) (Nat.le_refl _) _).setCell (p := ⟨w.heap.size, 1, none⟩) (Nat.le_refl _) _).setCell (p := ⟨w.heap.size, 2, none⟩) (Nat.le_refl _) _).setCell (p := ⟨w.heap.size, 3, none⟩) (Nat.le_refl _) _).setCell (p := ⟨w.heap.size, 4, none⟩) (Nat.le_refl _) _)
set_option maxHeartbeats 4000000 in
set_option maxRecDepth 100000 in
theorem trees_none (tb eb wm gm db pm tm sk : Nat) (seq : Int) (b : Addr) (w : World) (h : TxnAt w tb eb wm gm seq []) (he : EngAt w eb db pm tm sk seq) (hg : ErrIs w b) :
    Calls Tryz.prog 12 #[.pointer (some ⟨tb, 0, none⟩)] w fun e w' => e = .returned (.slice none 0 0) ∧ Below w.heap.size w w' := by
  have H0 := keep h
  have E0 := keep he
  have G0 := keep hg
  have B0 := keep (Below.refl w.heap.size w)
  clear h he hg
  go_enter Tryz.func12, Tryz.ntmps12
  go_wp2_with fail
  go_loopw [3, 4] (fun o i wr => o = .slice none 0 0 ∧ ∃ k : Nat, 1 ≤ k ∧ k ≤ 65 ∧ i = .int .i64 (k : Int) ∧ Hid (Below w.heap.size w wr)) (fun _ i _ => 65 - (intOf i).toNat)
  case atStart => exact ⟨rfl, 1, Nat.le_refl _, by omega, rfl, B0.out⟩
  case round =>
    obtain ⟨rfl, k, hk1, hk2, rfl, BR⟩ := hrel
    rcases Nat.lt_or_ge 64 k with hlt | hge
    · have j1 : ¬ (k : Int) ≤ 64 := by omega
      go_wp2
      go_ret
      exact ⟨rfl, BR.out⟩
    · have j1 : (k : Int) ≤ 64 := by omega
      have GT := keep (gettree_none tb eb wm gm db pm tm sk seq [] b k wr (H0.out.below BR.out) (E0.out.below BR.out) (G0.out.below BR.out) hk1 hge rfl)
      unfold treeZ at GT
      go_wp2_with fail
      refine GT.out.mono ?_
      rintro e w5 ⟨rfl, hb5⟩
      have B5 := keep (BR.out.trans (hb5.mono BR.out.size))
      have B6 := keep (B5.out.alloc B5.out.size (.cells #[.int .i64 0, .int .i64 0, .int .i64 0, .string ⟨#[]⟩, .string ⟨#[]⟩] 36))
      clear hb5 GT
      go_wp2
      go_roundw
      case rel => exact ⟨rfl, k + 1, by omega, by omega, by go_num, B6.out⟩
      case measure => simp [intOf]; omega
end Go.Proofs.YtbgdkkcobcmpoaaGreatDoor
namespace Go.Proofs.YtbgdkkcobcmpoaaGreatDoor
open Go.RowKit Go.Maps
open Dk (File Disk)

def KCount : Value := .agg #[.int .i64 1, .func (.func 63) #[] #[], .func (.func 64) #[] #[], .func (.func 65) #[] #[]]
def cntZ : Value := .agg #[.int .i64 0, .int .i64 0]
set_option maxHeartbeats 4000000 in
set_option maxRecDepth 100000 in
theorem counts_any (w : World) : Calls Tryz.prog 25 #[] w fun e w' => e = .returned KCount ∧ Below w.heap.size w w' := by
  have hst : ∀ (w' : World) (a : Addr) (f : FuncId), (store a (.func (.func f) #[] #[]) .plain).run Tryz.prog w' = stored Tryz.prog w' a (.func (.func f) #[] #[]) .plain := fun w' a f => run_store Tryz.prog w' a _ .plain rfl
  have b1 := keep ((Below.refl w.heap.size w).alloc (Nat.le_refl _) (.cells #[.int .i64 1, .func (.func 63) #[] #[], .func (.func 64) #[] #[], .func (.func 65) #[] #[]] 84))
  unfold KCount
  go_enter Tryz.func25, Tryz.ntmps25
  go_wp2
  refine ⟨rfl, _, ?_, rfl, b1.out⟩
  simp [results, Tryz.f25, go_sem, loadCells, loadCellsFrom]
structure KWCount (w : World) (g : Nat) : Prop where
  row : w.heap[g]? = some (.cells #[.int .i64 1, .func (.func 63) #[] #[], .func (.func 64) #[] #[], .func (.func 65) #[] #[]] 84 (0, 0))
theorem KWCount.c {w : World} {g : Nat} (h : KWCount w g) : w.cell? ⟨g, 0, none⟩ = some (.int .i64 1) ∧ w.cell? ⟨g, 1, none⟩ = some (.func (.func 63) #[] #[]) ∧ w.cell? ⟨g, 2, none⟩ = some (.func (.func 64) #[] #[]) ∧ w.cell? ⟨g, 3, none⟩ = some (.func (.func 65) #[] #[]) := ⟨cell_of_row _ _ _ _ _ _ h.row, cell_of_row _ _ _ _ _ _ h.row, cell_of_row _ _ _ _ _ _ h.row, cell_of_row _ _ _ _ _ _ h.row⟩
set_option maxHeartbeats 4000000 in
set_option maxRecDepth 100000 in
theorem cnt_key (id : Nat) (b : Addr) (w : World) (hid : id ≤ 64) (hg : ErrIs w b) :
    Calls Tryz.prog 205 #[KCount, .int .i64 (id : Int)] w fun e w' => ∃ v, e = .returned v ∧ New w w' v 9 (mk id 1 []) := by
  obtain ⟨W1, hW1⟩ : ∃ W1, w.alloc (.cells #[.int .i64 1, .func (.func 63) #[] #[], .func (.func 64) #[] #[], .func (.func 65) #[] #[]] 84) = W1 := ⟨_, rfl⟩
  have b1 : Hid (Below w.heap.size w W1) := by rw [← hW1]; exact (Below.refl _ _).alloc (Nat.le_refl _) _
  have k1 : Hid (KWCount W1 w.heap.size) := by rw [← hW1]; exact ⟨heap_alloc_new w _⟩
  obtain ⟨c0, c1, c2, c3⟩ := k1.out.c
  have MK := keep (make_yes id 1 none 0 0 [] b W1 (by omega) (by omega) (by omega) (Src.empty (fun _ => rfl)) (hg.below b1.out))
  rw [show ((1 : Nat) : Int) = 1 from rfl] at MK
  unfold KCount
  go_enter Tryz.func205, Tryz.ntmps205
  go_wp2_with fail
  refine MK.out.mono ?_
  rintro e w2 ⟨v, rfl, hn2⟩
  have N2 := keep (hn2.base b1.out)
  clear hn2 MK hW1
  go_wp2
  go_ret
  exact ⟨_, rfl, N2.out⟩
set_option maxHeartbeats 4000000 in
set_option maxRecDepth 100000 in
theorem cnt_get (tb eb wm gm db pm tm sk : Nat) (seq : Int) (l : List Named) (b : Addr) (id : Nat) (w : World) (h : TxnAt w tb eb wm gm seq l) (he : EngAt w eb db pm tm sk seq) (hg : ErrIs w b) (hid : id ≤ 64) (hx : seek l (mk id 1 []) = none) :
    Calls Tryz.prog 134 #[KCount, .pointer (some ⟨tb, 0, none⟩), .int .i64 (id : Int)] w fun e w' => e = .returned (.tuple #[cntZ, .int .i64 6]) ∧ Below w.heap.size w w' := by
  obtain ⟨W0, hW0⟩ : ∃ W0, w.alloc (.cells #[.int .i64 1, .func (.func 63) #[] #[], .func (.func 64) #[] #[], .func (.func 65) #[] #[]] 84) = W0 := ⟨_, rfl⟩
  have b0 : Hid (Below w.heap.size w W0) := by rw [← hW0]; exact (Below.refl _ _).alloc (Nat.le_refl _) _
  have k0 : Hid (KWCount W0 w.heap.size) := by rw [← hW0]; exact ⟨heap_alloc_new w _⟩
  have s0 : W0.heap.size = w.heap.size + 1 := by rw [← hW0]; simp
  obtain ⟨rc, hrc⟩ : ∃ rc, W0.heap.size = rc := ⟨_, rfl⟩
  have LRC : Hid (w.heap.size ≤ rc) := by show _ ≤ _; omega
  obtain ⟨W1, hW1⟩ : ∃ W1, W0.alloc (.cells #[.int .i64 0, .int .i64 0] 40) = W1 := ⟨_, rfl⟩
  have b1 : Hid (Below w.heap.size w W1) := by rw [← hW1]; exact b0.out.alloc b0.out.size _
  have g1 : Hid (W1.heap[rc]? = some (.cells #[.int .i64 0, .int .i64 0] 40)) := by rw [← hW1, ← hrc]; exact heap_alloc_new W0 _
  have k1 : Hid (KWCount W1 w.heap.size) := by rw [← hW1]; exact ⟨(Below.heap_alloc _ _ _ (Array.getElem?_eq_some_iff.1 k0.out.row).1).trans k0.out.row⟩
  obtain ⟨c0, c1, c2, c3⟩ := k1.out.c
  have IK := keep (cnt_key id b W1 hid (hg.below b1.out))
  have T1 := keep (h.below b1.out)
  have E1 := keep (he.below b1.out)
  have HX := keep hx
  clear h he hg hx s0
  unfold KCount at IK ⊢
  unfold cntZ
  go_enter Tryz.func134, Tryz.ntmps134
  go_wp2_with fail
  refine IK.out.mono ?_
  rintro e w2 ⟨v, rfl, hn2⟩
  obtain ⟨ap, ac, rfl, hs2, _⟩ := hn2.src
  have B2 := keep (b1.out.trans (hn2.2.mono b1.out.size))
  have G2 := keep ((hn2.2.block _ (Array.getElem?_eq_some_iff.1 g1.out).1).trans g1.out)
  have TG := keep (tget_none tb eb wm gm db pm tm sk seq l ap ac (mk id 1 []) w2 (T1.out.below hn2.2) (E1.out.below hn2.2) hs2 (by rw [mk_length]; unfold maxLen; decide) HX.out)
  rw [show (mk id 1 []).length = 9 by rw [mk_length]; rfl] at TG
  clear hn2 hs2 IK hW1 hW0 hrc c0 c1 c2 c3
  go_wp2_with fail
  refine TG.out.mono ?_
  rintro e w3 ⟨rfl, hb3⟩
  have B3 := keep (B2.out.trans (hb3.mono B2.out.size))
  have G3 := keep ((hb3.block _ (Array.getElem?_eq_some_iff.1 G2.out).1).trans G2.out)
  have B4 := keep (B3.out.alloc B3.out.size (.cells #[.int .i64 0, .int .i64 0] 40))
  have G4 := keep ((Below.heap_alloc w3 (.cells #[.int .i64 0, .int .i64 0] 40) rc (Array.getElem?_eq_some_iff.1 G3.out).1).trans G3.out)
  clear hb3 TG
  have z0 : (w3.alloc (.cells #[.int .i64 0, .int .i64 0] 40)).cell? ⟨rc, 0, none⟩ = some (.int .i64 0) := cell_of_row _ _ _ _ _ _ G4.out
  have z1 : (w3.alloc (.cells #[.int .i64 0, .int .i64 0] 40)).cell? ⟨rc, 1, none⟩ = some (.int .i64 0) := cell_of_row _ _ _ _ _ _ G4.out
  have f0 : (w3.alloc (.cells #[.int .i64 0, .int .i64 0] 40)).frozen? ⟨rc, 0, none⟩ = false := by simp [World.frozen?, G4.out]
  have f1 : (w3.alloc (.cells #[.int .i64 0, .int .i64 0] 40)).frozen? ⟨rc, 1, none⟩ = false := by simp [World.frozen?, G4.out]
  go_wp2
  refine ⟨rfl, .tuple #[.agg #[.int .i64 0, .int .i64 0], .int .i64 6], ?_, rfl, ?_⟩
  · have r0 : ((w3.alloc (.cells #[.int .i64 0, .int .i64 0] 40)).setCell ⟨rc, 0, none⟩ (.int .i64 0)).cell? ⟨rc, 0, none⟩ = some (.int .i64 0) := World.cell?_setCell_same' _ _ _ (by simp [go_sem, z0])
    have r1 : (((w3.alloc (.cells #[.int .i64 0, .int .i64 0] 40)).setCell ⟨rc, 0, none⟩ (.int .i64 0)).setCell ⟨rc, 1, none⟩ (.int .i64 0)).cell? ⟨rc, 1, none⟩ = some (.int .i64 0) := World.cell?_setCell_same' _ _ _ (by simp [go_sem, z1])
    simp [results, Tryz.f134, go_sem, loadCells, loadCellsFrom, r0, r1]
  · exact ((B4.out.setCell (p := ⟨rc, 0, none⟩) LRC.out _).setCell (p := ⟨rc, 1, none⟩) LRC.out _)
set_option maxHeartbeats 4000000 in
set_option maxRecDepth 100000 in
theorem cnt_goz (tb eb wm gm db pm tm sk : Nat) (seq : Int) (l : List Named) (b : Addr) (id : Nat) (w : World) (h : TxnAt w tb eb wm gm seq l) (he : EngAt w eb db pm tm sk seq) (hg : ErrIs w b) (hid : id ≤ 64) (hx : seek l (mk id 1 []) = none) :
    Calls Tryz.prog 66 #[KCount, .pointer (some ⟨tb, 0, none⟩), .int .i64 (id : Int)] w fun e w' => e = .returned (.tuple #[cntZ, .int .i64 0]) ∧ Below w.heap.size w w' := by
  obtain ⟨W0, hW0⟩ : ∃ W0, w.alloc (.cells #[.int .i64 1, .func (.func 63) #[] #[], .func (.func 64) #[] #[], .func (.func 65) #[] #[]] 84) = W0 := ⟨_, rfl⟩
  have b0 : Hid (Below w.heap.size w W0) := by rw [← hW0]; exact (Below.refl _ _).alloc (Nat.le_refl _) _
  have k0 : Hid (KWCount W0 w.heap.size) := by rw [← hW0]; exact ⟨heap_alloc_new w _⟩
  have s0 : W0.heap.size = w.heap.size + 1 := by rw [← hW0]; simp
  obtain ⟨rc, hrc⟩ : ∃ rc, W0.heap.size = rc := ⟨_, rfl⟩
  have LRC : Hid (w.heap.size ≤ rc) := by show _ ≤ _; omega
  obtain ⟨W1, hW1⟩ : ∃ W1, W0.alloc (.cells #[.int .i64 0, .int .i64 0] 40) = W1 := ⟨_, rfl⟩
  have b1 : Hid (Below w.heap.size w W1) := by rw [← hW1]; exact b0.out.alloc b0.out.size _
  have g1 : Hid (W1.heap[rc]? = some (.cells #[.int .i64 0, .int .i64 0] 40)) := by rw [← hW1, ← hrc]; exact heap_alloc_new W0 _
  have k1 : Hid (KWCount W1 w.heap.size) := by rw [← hW1]; exact ⟨(Below.heap_alloc _ _ _ (Array.getElem?_eq_some_iff.1 k0.out.row).1).trans k0.out.row⟩
  obtain ⟨c0, c1, c2, c3⟩ := k1.out.c
  have IG := keep (cnt_get tb eb wm gm db pm tm sk seq l b id W1 (h.below b1.out) (he.below b1.out) (hg.below b1.out) hid hx)
  clear h he hg hx s0
  unfold KCount cntZ at IG
  unfold KCount cntZ
  go_enter Tryz.func66, Tryz.ntmps66
  go_wp2_with fail
  refine IG.out.mono ?_
  rintro e w3 ⟨rfl, hb3⟩
  have B3 := keep (b1.out.trans (hb3.mono b1.out.size))
  have G3 := keep ((hb3.block _ (Array.getElem?_eq_some_iff.1 g1.out).1).trans g1.out)
  have B4 := keep (B3.out.alloc B3.out.size (.cells #[.int .i64 0, .int .i64 0] 40))
  have G4 := keep ((Below.heap_alloc w3 (.cells #[.int .i64 0, .int .i64 0] 40) rc (Array.getElem?_eq_some_iff.1 G3.out).1).trans G3.out)
  clear hb3 IG hW1 hW0 hrc c0 c1 c2 c3
  have z0 : (w3.alloc (.cells #[.int .i64 0, .int .i64 0] 40)).cell? ⟨rc, 0, none⟩ = some (.int .i64 0) := cell_of_row _ _ _ _ _ _ G4.out
  have z1 : (w3.alloc (.cells #[.int .i64 0, .int .i64 0] 40)).cell? ⟨rc, 1, none⟩ = some (.int .i64 0) := cell_of_row _ _ _ _ _ _ G4.out
  have f0 : (w3.alloc (.cells #[.int .i64 0, .int .i64 0] 40)).frozen? ⟨rc, 0, none⟩ = false := by simp [World.frozen?, G4.out]
  have f1 : (w3.alloc (.cells #[.int .i64 0, .int .i64 0] 40)).frozen? ⟨rc, 1, none⟩ = false := by simp [World.frozen?, G4.out]
  go_wp2
  refine ⟨rfl, .tuple #[.agg #[.int .i64 0, .int .i64 0], .int .i64 0], ?_, rfl, ?_⟩
  · have r0 : ((w3.alloc (.cells #[.int .i64 0, .int .i64 0] 40)).setCell ⟨rc, 0, none⟩ (.int .i64 0)).cell? ⟨rc, 0, none⟩ = some (.int .i64 0) := World.cell?_setCell_same' _ _ _ (by simp [go_sem, z0])
    have r1 : (((w3.alloc (.cells #[.int .i64 0, .int .i64 0] 40)).setCell ⟨rc, 0, none⟩ (.int .i64 0)).setCell ⟨rc, 1, none⟩ (.int .i64 0)).cell? ⟨rc, 1, none⟩ = some (.int .i64 0) := World.cell?_setCell_same' _ _ _ (by simp [go_sem, z1])
    simp [results, Tryz.f66, go_sem, loadCells, loadCellsFrom, r0, r1]
  · exact ((B4.out.setCell (p := ⟨rc, 0, none⟩) LRC.out _).setCell (p := ⟨rc, 1, none⟩) LRC.out _)
set_option maxHeartbeats 4000000 in
set_option maxRecDepth 100000 in
theorem cnt_of_yes (tb eb wm gm db pm tm sk : Nat) (seq : Int) (l : List Named) (b : Addr) (id : Nat) (w : World) (h : TxnAt w tb eb wm gm seq l) (he : EngAt w eb db pm tm sk seq) (hg : ErrIs w b) (hid : id ≤ 64) (hx : seek l (mk id 1 []) = none) (h1 : 1 ≤ id) :
    Calls Tryz.prog 26 #[KCount, .pointer (some ⟨tb, 0, none⟩), .int .i64 (id : Int)] w fun e w' => e = .returned (.tuple #[cntZ, .int .i64 0]) ∧ Below w.heap.size w w' := by
  obtain ⟨W0, hW0⟩ : ∃ W0, w.alloc (.cells #[.int .i64 1, .func (.func 63) #[] #[], .func (.func 64) #[] #[], .func (.func 65) #[] #[]] 84) = W0 := ⟨_, rfl⟩
  have b0 : Hid (Below w.heap.size w W0) := by rw [← hW0]; exact (Below.refl _ _).alloc (Nat.le_refl _) _
  have k0 : Hid (KWCount W0 w.heap.size) := by rw [← hW0]; exact ⟨heap_alloc_new w _⟩
  have s0 : W0.heap.size = w.heap.size + 1 := by rw [← hW0]; simp
  obtain ⟨rc, hrc⟩ : ∃ rc, W0.heap.size = rc := ⟨_, rfl⟩
  have LRC : Hid (w.heap.size ≤ rc) := by show _ ≤ _; omega
  obtain ⟨W1, hW1⟩ : ∃ W1, W0.alloc (.cells #[.int .i64 0, .int .i64 0] 40) = W1 := ⟨_, rfl⟩
  have b1 : Hid (Below w.heap.size w W1) := by rw [← hW1]; exact b0.out.alloc b0.out.size _
  have g1 : Hid (W1.heap[rc]? = some (.cells #[.int .i64 0, .int .i64 0] 40)) := by rw [← hW1, ← hrc]; exact heap_alloc_new W0 _
  have k1 : Hid (KWCount W1 w.heap.size) := by rw [← hW1]; exact ⟨(Below.heap_alloc _ _ _ (Array.getElem?_eq_some_iff.1 k0.out.row).1).trans k0.out.row⟩
  obtain ⟨c0, c1, c2, c3⟩ := k1.out.c
  have IG := keep (cnt_goz tb eb wm gm db pm tm sk seq l b id W1 (h.below b1.out) (he.below b1.out) (hg.below b1.out) hid hx)
  have IT := keep (istree_yes (id : Int) W1 (by omega) (by omega))
  clear h he hg hx s0
  unfold KCount cntZ at IG
  unfold KCount cntZ
  go_enter Tryz.func26, Tryz.ntmps26
  go_wp2_with fail
  refine IT.out.mono ?_
  rintro e w2 ⟨rfl, rfl⟩
  clear IT
  go_wp2_with fail
  refine IG.out.mono ?_
  rintro e w3 ⟨rfl, hb3⟩
  have B3 := keep (b1.out.trans (hb3.mono b1.out.size))
  have G3 := keep ((hb3.block _ (Array.getElem?_eq_some_iff.1 g1.out).1).trans g1.out)
  clear hb3 IG hW1 hW0 hrc c0 c1 c2 c3
  have z0 : w3.cell? ⟨rc, 0, none⟩ = some (.int .i64 0) := cell_of_row _ _ _ _ _ _ G3.out
  have z1 : w3.cell? ⟨rc, 1, none⟩ = some (.int .i64 0) := cell_of_row _ _ _ _ _ _ G3.out
  have f0 : w3.frozen? ⟨rc, 0, none⟩ = false := by simp [World.frozen?, G3.out]
  have f1 : w3.frozen? ⟨rc, 1, none⟩ = false := by simp [World.frozen?, G3.out]
  go_wp2
  refine ⟨rfl, .tuple #[.agg #[.int .i64 0, .int .i64 0], .int .i64 0], ?_, rfl, ?_⟩
  · have r0 : (w3.setCell ⟨rc, 0, none⟩ (.int .i64 0)).cell? ⟨rc, 0, none⟩ = some (.int .i64 0) := World.cell?_setCell_same' _ _ _ (by simp [go_sem, z0])
    have r1 : ((w3.setCell ⟨rc, 0, none⟩ (.int .i64 0)).setCell ⟨rc, 1, none⟩ (.int .i64 0)).cell? ⟨rc, 1, none⟩ = some (.int .i64 0) := World.cell?_setCell_same' _ _ _ (by simp [go_sem, z1])
    simp [results, Tryz.f26, go_sem, loadCells, loadCellsFrom, r0, r1]
  · exact ((B3.out.setCell (p := ⟨rc, 0, none⟩) LRC.out _).setCell (p := ⟨rc, 1, none⟩) LRC.out _)
set_option maxHeartbeats 4000000 in
set_option maxRecDepth 100000 in
theorem cnt_of_no (tp : Value) (id : Int) (w : World) (h1 : ¬ (1 ≤ id ∧ id ≤ 64)) :
    Calls Tryz.prog 26 #[KCount, tp, .int .i64 id] w fun e w' => e = .returned (.tuple #[cntZ, .int .i64 10]) ∧ Below w.heap.size w w' := by
  obtain ⟨W0, hW0⟩ : ∃ W0, w.alloc (.cells #[.int .i64 1, .func (.func 63) #[] #[], .func (.func 64) #[] #[], .func (.func 65) #[] #[]] 84) = W0 := ⟨_, rfl⟩
  have b0 : Hid (Below w.heap.size w W0) := by rw [← hW0]; exact (Below.refl _ _).alloc (Nat.le_refl _) _
  have k0 : Hid (KWCount W0 w.heap.size) := by rw [← hW0]; exact ⟨heap_alloc_new w _⟩
  have s0 : W0.heap.size = w.heap.size + 1 := by rw [← hW0]; simp
  obtain ⟨rc, hrc⟩ : ∃ rc, W0.heap.size = rc := ⟨_, rfl⟩
  have LRC : Hid (w.heap.size ≤ rc) := by show _ ≤ _; omega
  obtain ⟨W1, hW1⟩ : ∃ W1, W0.alloc (.cells #[.int .i64 0, .int .i64 0] 40) = W1 := ⟨_, rfl⟩
  have b1 : Hid (Below w.heap.size w W1) := by rw [← hW1]; exact b0.out.alloc b0.out.size _
  have g1 : Hid (W1.heap[rc]? = some (.cells #[.int .i64 0, .int .i64 0] 40)) := by rw [← hW1, ← hrc]; exact heap_alloc_new W0 _
  have k1 : Hid (KWCount W1 w.heap.size) := by rw [← hW1]; exact ⟨(Below.heap_alloc _ _ _ (Array.getElem?_eq_some_iff.1 k0.out.row).1).trans k0.out.row⟩
  obtain ⟨c0, c1, c2, c3⟩ := k1.out.c
  have IT := keep (istree_no id W1 h1)
  have B4 := keep (b1.out.alloc b1.out.size (.cells #[.int .i64 0, .int .i64 0] 40))
  have G4 := keep ((Below.heap_alloc W1 (.cells #[.int .i64 0, .int .i64 0] 40) rc (Array.getElem?_eq_some_iff.1 g1.out).1).trans g1.out)
  clear s0 h1
  unfold KCount cntZ
  go_enter Tryz.func26, Tryz.ntmps26
  go_wp2_with fail
  refine IT.out.mono ?_
  rintro e w3 ⟨rfl, rfl⟩
  clear IT hW1 hW0 hrc c0 c1 c2 c3
  have z0 : (w3.alloc (.cells #[.int .i64 0, .int .i64 0] 40)).cell? ⟨rc, 0, none⟩ = some (.int .i64 0) := cell_of_row _ _ _ _ _ _ G4.out
  have z1 : (w3.alloc (.cells #[.int .i64 0, .int .i64 0] 40)).cell? ⟨rc, 1, none⟩ = some (.int .i64 0) := cell_of_row _ _ _ _ _ _ G4.out
  have f0 : (w3.alloc (.cells #[.int .i64 0, .int .i64 0] 40)).frozen? ⟨rc, 0, none⟩ = false := by simp [World.frozen?, G4.out]
  have f1 : (w3.alloc (.cells #[.int .i64 0, .int .i64 0] 40)).frozen? ⟨rc, 1, none⟩ = false := by simp [World.frozen?, G4.out]
  go_wp2
  refine ⟨rfl, .tuple #[.agg #[.int .i64 0, .int .i64 0], .int .i64 10], ?_, rfl, ?_⟩
  · have r0 : ((w3.alloc (.cells #[.int .i64 0, .int .i64 0] 40)).setCell ⟨rc, 0, none⟩ (.int .i64 0)).cell? ⟨rc, 0, none⟩ = some (.int .i64 0) := World.cell?_setCell_same' _ _ _ (by simp [go_sem, z0])
    have r1 : (((w3.alloc (.cells #[.int .i64 0, .int .i64 0] 40)).setCell ⟨rc, 0, none⟩ (.int .i64 0)).setCell ⟨rc, 1, none⟩ (.int .i64 0)).cell? ⟨rc, 1, none⟩ = some (.int .i64 0) := World.cell?_setCell_same' _ _ _ (by simp [go_sem, z1])
    simp [results, Tryz.f26, go_sem, loadCells, loadCellsFrom, r0, r1]
  · exact ((B4.out.setCell (p := ⟨rc, 0, none⟩) LRC.out _).setCell (p := ⟨rc, 1, none⟩) LRC.out _)
set_option maxHeartbeats 4000000 in
set_option maxRecDepth 100000 in
theorem cnt_none (tb eb wm gm db pm tm sk : Nat) (seq : Int) (l : List Named) (b : Addr) (id : Nat) (w : World) (h : TxnAt w tb eb wm gm seq l) (he : EngAt w eb db pm tm sk seq) (hg : ErrIs w b) (hid : id ≤ 64) (hx : seek l (mk id 1 []) = none) (h1 : 1 ≤ id) :
    Calls Tryz.prog 9 #[.pointer (some ⟨tb, 0, none⟩), .int .i64 (id : Int)] w fun e w' => e = .returned (.tuple #[cntZ, .int .i64 0]) ∧ Below w.heap.size w w' := by
  obtain ⟨W1, hW1⟩ : ∃ W1, w.alloc (.cells #[.int .i64 0, .int .i64 0] 40) = W1 := ⟨_, rfl⟩
  have b1 : Hid (Below w.heap.size w W1) := by rw [← hW1]; exact (Below.refl _ _).alloc (Nat.le_refl _) _
  have g1 : Hid (W1.heap[w.heap.size]? = some (.cells #[.int .i64 0, .int .i64 0] 40)) := by rw [← hW1]; exact heap_alloc_new w _
  have T1 := keep (h.below b1.out)
  have E1 := keep (he.below b1.out)
  have G1 := keep (hg.below b1.out)
  have HX := keep hx
  have H1 := keep (And.intro h1 hid)
  clear h he hg hx h1 hid
  unfold cntZ
  go_enter Tryz.func9, Tryz.ntmps9
  go_wp2_with fail
  refine (counts_any W1).mono ?_
  rintro e w2 ⟨rfl, hb2⟩
  have IG := keep (cnt_of_yes tb eb wm gm db pm tm sk seq l b id w2 (T1.out.below hb2) (E1.out.below hb2) (G1.out.below hb2) H1.out.2 HX.out H1.out.1)
  unfold cntZ at IG
  have B2 := keep (b1.out.trans (hb2.mono b1.out.size))
  have G2 := keep ((hb2.block _ (Array.getElem?_eq_some_iff.1 g1.out).1).trans g1.out)
  clear hb2 hW1
  go_wp2_with fail
  refine IG.out.mono ?_
  rintro e w3 ⟨rfl, hb3⟩
  have B3 := keep (B2.out.trans (hb3.mono B2.out.size))
  have G3 := keep ((hb3.block _ (Array.getElem?_eq_some_iff.1 G2.out).1).trans G2.out)
  clear hb3 IG
  have z0 : w3.cell? ⟨w.heap.size, 0, none⟩ = some (.int .i64 0) := cell_of_row _ _ _ _ _ _ G3.out
  have z1 : w3.cell? ⟨w.heap.size, 1, none⟩ = some (.int .i64 0) := cell_of_row _ _ _ _ _ _ G3.out
  have f0 : w3.frozen? ⟨w.heap.size, 0, none⟩ = false := by simp [World.frozen?, G3.out]
  have f1 : w3.frozen? ⟨w.heap.size, 1, none⟩ = false := by simp [World.frozen?, G3.out]
  go_wp2
  refine ⟨rfl, .tuple #[.agg #[.int .i64 0, .int .i64 0], .int .i64 0], ?_, rfl, ?_⟩
  · have r0 : (w3.setCell ⟨w.heap.size, 0, none⟩ (.int .i64 0)).cell? ⟨w.heap.size, 0, none⟩ = some (.int .i64 0) := World.cell?_setCell_same' _ _ _ (by simp [go_sem, z0])
    have r1 : ((w3.setCell ⟨w.heap.size, 0, none⟩ (.int .i64 0)).setCell ⟨w.heap.size, 1, none⟩ (.int .i64 0)).cell? ⟨w.heap.size, 1, none⟩ = some (.int .i64 0) := World.cell?_setCell_same' _ _ _ (by simp [go_sem, z1])
    simp [results, Tryz.f9, go_sem, loadCells, loadCellsFrom, r0, r1]
  · exact ((B3.out.setCell (p := ⟨w.heap.size, 0, none⟩) (Nat.le_refl _) _).setCell (p := ⟨w.heap.size, 1, none⟩) (Nat.le_refl _) _)
set_option maxHeartbeats 4000000 in
set_option maxRecDepth 100000 in
theorem cnt_bad (tb : Nat) (id : Int) (w : World) (h1 : ¬ (1 ≤ id ∧ id ≤ 64)) :
    Calls Tryz.prog 9 #[.pointer (some ⟨tb, 0, none⟩), .int .i64 id] w fun e w' => e = .returned (.tuple #[cntZ, .int .i64 10]) ∧ Below w.heap.size w w' := by
  obtain ⟨W1, hW1⟩ : ∃ W1, w.alloc (.cells #[.int .i64 0, .int .i64 0] 40) = W1 := ⟨_, rfl⟩
  have b1 : Hid (Below w.heap.size w W1) := by rw [← hW1]; exact (Below.refl _ _).alloc (Nat.le_refl _) _
  have g1 : Hid (W1.heap[w.heap.size]? = some (.cells #[.int .i64 0, .int .i64 0] 40)) := by rw [← hW1]; exact heap_alloc_new w _
  have H1 := keep h1
  clear h1
  unfold cntZ
  go_enter Tryz.func9, Tryz.ntmps9
  go_wp2_with fail
  refine (counts_any W1).mono ?_
  rintro e w2 ⟨rfl, hb2⟩
  have IG := keep (cnt_of_no (.pointer (some ⟨tb, 0, none⟩)) id w2 H1.out)
  unfold cntZ at IG
  have B2 := keep (b1.out.trans (hb2.mono b1.out.size))
  have G2 := keep ((hb2.block _ (Array.getElem?_eq_some_iff.1 g1.out).1).trans g1.out)
  clear hb2 hW1
  go_wp2_with fail
  refine IG.out.mono ?_
  rintro e w3 ⟨rfl, hb3⟩
  have B3 := keep (B2.out.trans (hb3.mono B2.out.size))
  have G3 := keep ((hb3.block _ (Array.getElem?_eq_some_iff.1 G2.out).1).trans G2.out)
  clear hb3 IG
  have z0 : w3.cell? ⟨w.heap.size, 0, none⟩ = some (.int .i64 0) := cell_of_row _ _ _ _ _ _ G3.out
  have z1 : w3.cell? ⟨w.heap.size, 1, none⟩ = some (.int .i64 0) := cell_of_row _ _ _ _ _ _ G3.out
  have f0 : w3.frozen? ⟨w.heap.size, 0, none⟩ = false := by simp [World.frozen?, G3.out]
  have f1 : w3.frozen? ⟨w.heap.size, 1, none⟩ = false := by simp [World.frozen?, G3.out]
  go_wp2
  refine ⟨rfl, .tuple #[.agg #[.int .i64 0, .int .i64 0], .int .i64 10], ?_, rfl, ?_⟩
  · have r0 : (w3.setCell ⟨w.heap.size, 0, none⟩ (.int .i64 0)).cell? ⟨w.heap.size, 0, none⟩ = some (.int .i64 0) := World.cell?_setCell_same' _ _ _ (by simp [go_sem, z0])
    have r1 : ((w3.setCell ⟨w.heap.size, 0, none⟩ (.int .i64 0)).setCell ⟨w.heap.size, 1, none⟩ (.int .i64 0)).cell? ⟨w.heap.size, 1, none⟩ = some (.int .i64 0) := World.cell?_setCell_same' _ _ _ (by simp [go_sem, z1])
    simp [results, Tryz.f9, go_sem, loadCells, loadCellsFrom, r0, r1]
  · exact ((B3.out.setCell (p := ⟨w.heap.size, 0, none⟩) (Nat.le_refl _) _).setCell (p := ⟨w.heap.size, 1, none⟩) (Nat.le_refl _) _)
end Go.Proofs.YtbgdkkcobcmpoaaGreatDoor
namespace Go.Proofs.YtbgdkkcobcmpoaaGreatDoor
open Go.RowKit Go.Maps
open Dk (File Disk)

def KHead : Value := .agg #[.int .i64 6, .func (.func 67) #[] #[], .func (.func 68) #[] #[], .func (.func 69) #[] #[]]
def headZ : Value := .agg #[.int .i64 0, .string ⟨#[]⟩, .int .i64 0, .int .i64 0, .slice none 0 0, .string ⟨#[]⟩]
set_option maxHeartbeats 4000000 in
set_option maxRecDepth 100000 in
theorem heads_any (w : World) : Calls Tryz.prog 27 #[] w fun e w' => e = .returned KHead ∧ Below w.heap.size w w' := by
  have hst : ∀ (w' : World) (a : Addr) (f : FuncId), (store a (.func (.func f) #[] #[]) .plain).run Tryz.prog w' = stored Tryz.prog w' a (.func (.func f) #[] #[]) .plain := fun w' a f => run_store Tryz.prog w' a _ .plain rfl
  have b1 := keep ((Below.refl w.heap.size w).alloc (Nat.le_refl _) (.cells #[.int .i64 6, .func (.func 67) #[] #[], .func (.func 68) #[] #[], .func (.func 69) #[] #[]] 90))
  unfold KHead
  go_enter Tryz.func27, Tryz.ntmps27
  go_wp2
  refine ⟨rfl, _, ?_, rfl, b1.out⟩
  simp [results, Tryz.f27, go_sem, loadCells, loadCellsFrom]
structure KWHead (w : World) (g : Nat) : Prop where
  row : w.heap[g]? = some (.cells #[.int .i64 6, .func (.func 67) #[] #[], .func (.func 68) #[] #[], .func (.func 69) #[] #[]] 90 (0, 0))
theorem KWHead.c {w : World} {g : Nat} (h : KWHead w g) : w.cell? ⟨g, 0, none⟩ = some (.int .i64 6) ∧ w.cell? ⟨g, 1, none⟩ = some (.func (.func 67) #[] #[]) ∧ w.cell? ⟨g, 2, none⟩ = some (.func (.func 68) #[] #[]) ∧ w.cell? ⟨g, 3, none⟩ = some (.func (.func 69) #[] #[]) := ⟨cell_of_row _ _ _ _ _ _ h.row, cell_of_row _ _ _ _ _ _ h.row, cell_of_row _ _ _ _ _ _ h.row, cell_of_row _ _ _ _ _ _ h.row⟩
set_option maxHeartbeats 4000000 in
set_option maxRecDepth 100000 in
theorem head_key (id : Nat) (b : Addr) (w : World) (hid : id ≤ 64) (hg : ErrIs w b) :
    Calls Tryz.prog 209 #[KHead, .int .i64 (id : Int)] w fun e w' => ∃ v, e = .returned v ∧ New w w' v 9 (mk id 6 []) := by
  obtain ⟨W1, hW1⟩ : ∃ W1, w.alloc (.cells #[.int .i64 6, .func (.func 67) #[] #[], .func (.func 68) #[] #[], .func (.func 69) #[] #[]] 90) = W1 := ⟨_, rfl⟩
  have b1 : Hid (Below w.heap.size w W1) := by rw [← hW1]; exact (Below.refl _ _).alloc (Nat.le_refl _) _
  have k1 : Hid (KWHead W1 w.heap.size) := by rw [← hW1]; exact ⟨heap_alloc_new w _⟩
  obtain ⟨c0, c1, c2, c3⟩ := k1.out.c
  have MK := keep (make_yes id 6 none 0 0 [] b W1 (by omega) (by omega) (by omega) (Src.empty (fun _ => rfl)) (hg.below b1.out))
  rw [show ((6 : Nat) : Int) = 6 from rfl] at MK
  unfold KHead
  go_enter Tryz.func209, Tryz.ntmps209
  go_wp2_with fail
  refine MK.out.mono ?_
  rintro e w2 ⟨v, rfl, hn2⟩
  have N2 := keep (hn2.base b1.out)
  clear hn2 MK hW1
  go_wp2
  go_ret
  exact ⟨_, rfl, N2.out⟩
set_option maxHeartbeats 4000000 in
set_option maxRecDepth 100000 in
theorem head_get (tb eb wm gm db pm tm sk : Nat) (seq : Int) (l : List Named) (b : Addr) (id : Nat) (w : World) (h : TxnAt w tb eb wm gm seq l) (he : EngAt w eb db pm tm sk seq) (hg : ErrIs w b) (hid : id ≤ 64) (hx : seek l (mk id 6 []) = none) :
    Calls Tryz.prog 139 #[KHead, .pointer (some ⟨tb, 0, none⟩), .int .i64 (id : Int)] w fun e w' => e = .returned (.tuple #[headZ, .int .i64 6]) ∧ Below w.heap.size w w' := by
  obtain ⟨W0, hW0⟩ : ∃ W0, w.alloc (.cells #[.int .i64 6, .func (.func 67) #[] #[], .func (.func 68) #[] #[], .func (.func 69) #[] #[]] 90) = W0 := ⟨_, rfl⟩
  have b0 : Hid (Below w.heap.size w W0) := by rw [← hW0]; exact (Below.refl _ _).alloc (Nat.le_refl _) _
  have k0 : Hid (KWHead W0 w.heap.size) := by rw [← hW0]; exact ⟨heap_alloc_new w _⟩
  have s0 : W0.heap.size = w.heap.size + 1 := by rw [← hW0]; simp
  obtain ⟨rc, hrc⟩ : ∃ rc, W0.heap.size = rc := ⟨_, rfl⟩
  have LRC : Hid (w.heap.size ≤ rc) := by show _ ≤ _; omega
  obtain ⟨W1, hW1⟩ : ∃ W1, W0.alloc (.cells #[.int .i64 0, .string ⟨#[]⟩, .int .i64 0, .int .i64 0, .slice none 0 0, .string ⟨#[]⟩] 45) = W1 := ⟨_, rfl⟩
  have b1 : Hid (Below w.heap.size w W1) := by rw [← hW1]; exact b0.out.alloc b0.out.size _
  have g1 : Hid (W1.heap[rc]? = some (.cells #[.int .i64 0, .string ⟨#[]⟩, .int .i64 0, .int .i64 0, .slice none 0 0, .string ⟨#[]⟩] 45)) := by rw [← hW1, ← hrc]; exact heap_alloc_new W0 _
  have k1 : Hid (KWHead W1 w.heap.size) := by rw [← hW1]; exact ⟨(Below.heap_alloc _ _ _ (Array.getElem?_eq_some_iff.1 k0.out.row).1).trans k0.out.row⟩
  obtain ⟨c0, c1, c2, c3⟩ := k1.out.c
  have IK := keep (head_key id b W1 hid (hg.below b1.out))
  have T1 := keep (h.below b1.out)
  have E1 := keep (he.below b1.out)
  have HX := keep hx
  clear h he hg hx s0
  unfold KHead at IK ⊢
  unfold headZ
  go_enter Tryz.func139, Tryz.ntmps139
  go_wp2_with fail
  refine IK.out.mono ?_
  rintro e w2 ⟨v, rfl, hn2⟩
  obtain ⟨ap, ac, rfl, hs2, _⟩ := hn2.src
  have B2 := keep (b1.out.trans (hn2.2.mono b1.out.size))
  have G2 := keep ((hn2.2.block _ (Array.getElem?_eq_some_iff.1 g1.out).1).trans g1.out)
  have TG := keep (tget_none tb eb wm gm db pm tm sk seq l ap ac (mk id 6 []) w2 (T1.out.below hn2.2) (E1.out.below hn2.2) hs2 (by rw [mk_length]; unfold maxLen; decide) HX.out)
  rw [show (mk id 6 []).length = 9 by rw [mk_length]; rfl] at TG
  clear hn2 hs2 IK hW1 hW0 hrc c0 c1 c2 c3
  go_wp2_with fail
  refine TG.out.mono ?_
  rintro e w3 ⟨rfl, hb3⟩
  have B3 := keep (B2.out.trans (hb3.mono B2.out.size))
  have G3 := keep ((hb3.block _ (Array.getElem?_eq_some_iff.1 G2.out).1).trans G2.out)
  have B4 := keep (B3.out.alloc B3.out.size (.cells #[.int .i64 0, .string ⟨#[]⟩, .int .i64 0, .int .i64 0, .slice none 0 0, .string ⟨#[]⟩] 45))
  have G4 := keep ((Below.heap_alloc w3 (.cells #[.int .i64 0, .string ⟨#[]⟩, .int .i64 0, .int .i64 0, .slice none 0 0, .string ⟨#[]⟩] 45) rc (Array.getElem?_eq_some_iff.1 G3.out).1).trans G3.out)
  clear hb3 TG
  have z0 : (w3.alloc (.cells #[.int .i64 0, .string ⟨#[]⟩, .int .i64 0, .int .i64 0, .slice none 0 0, .string ⟨#[]⟩] 45)).cell? ⟨rc, 0, none⟩ = some (.int .i64 0) := cell_of_row _ _ _ _ _ _ G4.out
  have z1 : (w3.alloc (.cells #[.int .i64 0, .string ⟨#[]⟩, .int .i64 0, .int .i64 0, .slice none 0 0, .string ⟨#[]⟩] 45)).cell? ⟨rc, 1, none⟩ = some (.string ⟨#[]⟩) := cell_of_row _ _ _ _ _ _ G4.out
  have z2 : (w3.alloc (.cells #[.int .i64 0, .string ⟨#[]⟩, .int .i64 0, .int .i64 0, .slice none 0 0, .string ⟨#[]⟩] 45)).cell? ⟨rc, 2, none⟩ = some (.int .i64 0) := cell_of_row _ _ _ _ _ _ G4.out
  have z3 : (w3.alloc (.cells #[.int .i64 0, .string ⟨#[]⟩, .int .i64 0, .int .i64 0, .slice none 0 0, .string ⟨#[]⟩] 45)).cell? ⟨rc, 3, none⟩ = some (.int .i64 0) := cell_of_row _ _ _ _ _ _ G4.out
  have z4 : (w3.alloc (.cells #[.int .i64 0, .string ⟨#[]⟩, .int .i64 0, .int .i64 0, .slice none 0 0, .string ⟨#[]⟩] 45)).cell? ⟨rc, 4, none⟩ = some (.slice none 0 0) := cell_of_row _ _ _ _ _ _ G4.out
  have z5 : (w3.alloc (.cells #[.int .i64 0, .string ⟨#[]⟩, .int .i64 0, .int .i64 0, .slice none 0 0, .string ⟨#[]⟩] 45)).cell? ⟨rc, 5, none⟩ = some (.string ⟨#[]⟩) := cell_of_row _ _ _ _ _ _ G4.out
  have f0 : (w3.alloc (.cells #[.int .i64 0, .string ⟨#[]⟩, .int .i64 0, .int .i64 0, .slice none 0 0, .string ⟨#[]⟩] 45)).frozen? ⟨rc, 0, none⟩ = false := by simp [World.frozen?, G4.out]
  have f1 : (w3.alloc (.cells #[.int .i64 0, .string ⟨#[]⟩, .int .i64 0, .int .i64 0, .slice none 0 0, .string ⟨#[]⟩] 45)).frozen? ⟨rc, 1, none⟩ = false := by simp [World.frozen?, G4.out]
  have f2 : (w3.alloc (.cells #[.int .i64 0, .string ⟨#[]⟩, .int .i64 0, .int .i64 0, .slice none 0 0, .string ⟨#[]⟩] 45)).frozen? ⟨rc, 2, none⟩ = false := by simp [World.frozen?, G4.out]
  have f3 : (w3.alloc (.cells #[.int .i64 0, .string ⟨#[]⟩, .int .i64 0, .int .i64 0, .slice none 0 0, .string ⟨#[]⟩] 45)).frozen? ⟨rc, 3, none⟩ = false := by simp [World.frozen?, G4.out]
  have f4 : (w3.alloc (.cells #[.int .i64 0, .string ⟨#[]⟩, .int .i64 0, .int .i64 0, .slice none 0 0, .string ⟨#[]⟩] 45)).frozen? ⟨rc, 4, none⟩ = false := by simp [World.frozen?, G4.out]
  have f5 : (w3.alloc (.cells #[.int .i64 0, .string ⟨#[]⟩, .int .i64 0, .int .i64 0, .slice none 0 0, .string ⟨#[]⟩] 45)).frozen? ⟨rc, 5, none⟩ = false := by simp [World.frozen?, G4.out]
  go_wp2
  refine ⟨rfl, .tuple #[.agg #[.int .i64 0, .string ⟨#[]⟩, .int .i64 0, .int .i64 0, .slice none 0 0, .string ⟨#[]⟩], .int .i64 6], ?_, rfl, ?_⟩
  · have r0 : ((w3.alloc (.cells #[.int .i64 0, .string ⟨#[]⟩, .int .i64 0, .int .i64 0, .slice none 0 0, .string ⟨#[]⟩] 45)).setCell ⟨rc, 0, none⟩ (.int .i64 0)).cell? ⟨rc, 0, none⟩ = some (.int .i64 0) := World.cell?_setCell_same' _ _ _ (by simp [go_sem, z0])
    have r1 : (((w3.alloc (.cells #[.int .i64 0, .string ⟨#[]⟩, .int .i64 0, .int .i64 0, .slice none 0 0, .string ⟨#[]⟩] 45)).setCell ⟨rc, 0, none⟩ (.int .i64 0)).setCell ⟨rc, 1, none⟩ (.string ⟨#[]⟩)).cell? ⟨rc, 1, none⟩ = some (.string ⟨#[]⟩) := World.cell?_setCell_same' _ _ _ (by simp [go_sem, z1])
    have r2 : ((((w3.alloc (.cells #[.int .i64 0, .string ⟨#[]⟩, .int .i64 0, .int .i64 0, .slice none 0 0, .string ⟨#[]⟩] 45)).setCell ⟨rc, 0, none⟩ (.int .i64 0)).setCell ⟨rc, 1, none⟩ (.string ⟨#[]⟩)).setCell ⟨rc, 2, none⟩ (.int .i64 0)).cell? ⟨rc, 2, none⟩ = some (.int .i64 0) := World.cell?_setCell_same' _ _ _ (by simp [go_sem, z2])
    have r3 : (((((w3.alloc (.cells #[.int .i64 0, .string ⟨#[]⟩, .int .i64 0, .int .i64 0, .slice none 0 0, .string ⟨#[]⟩] 45)).setCell ⟨rc, 0, none⟩ (.int .i64 0)).setCell ⟨rc, 1, none⟩ (.string ⟨#[]⟩)).setCell ⟨rc, 2, none⟩ (.int .i64 0)).setCell ⟨rc, 3, none⟩ (.int .i64 0)).cell? ⟨rc, 3, none⟩ = some (.int .i64 0) := World.cell?_setCell_same' _ _ _ (by simp [go_sem, z3])
    have r4 : ((((((w3.alloc (.cells #[.int .i64 0, .string ⟨#[]⟩, .int .i64 0, .int .i64 0, .slice none 0 0, .string ⟨#[]⟩] 45)).setCell ⟨rc, 0, none⟩ (.int .i64 0)).setCell ⟨rc, 1, none⟩ (.string ⟨#[]⟩)).setCell ⟨rc, 2, none⟩ (.int .i64 0)).setCell ⟨rc, 3, none⟩ (.int .i64 0)).setCell ⟨rc, 4, none⟩ (.slice none 0 0)).cell? ⟨rc, 4, none⟩ = some (.slice none 0 0) := World.cell?_setCell_same' _ _ _ (by simp [go_sem, z4])
    have r5 : (((((((w3.alloc (.cells #[.int .i64 0, .string ⟨#[]⟩, .int .i64 0, .int .i64 0, .slice none 0 0, .string ⟨#[]⟩] 45)).setCell ⟨rc, 0, none⟩ (.int .i64 0)).setCell ⟨rc, 1, none⟩ (.string ⟨#[]⟩)).setCell ⟨rc, 2, none⟩ (.int .i64 0)).setCell ⟨rc, 3, none⟩ (.int .i64 0)).setCell ⟨rc, 4, none⟩ (.slice none 0 0)).setCell ⟨rc, 5, none⟩ (.string ⟨#[]⟩)).cell? ⟨rc, 5, none⟩ = some (.string ⟨#[]⟩) := World.cell?_setCell_same' _ _ _ (by simp [go_sem, z5])
    simp [results, Tryz.f139, go_sem, loadCells, loadCellsFrom, r0, r1, r2, r3, r4, r5]
  · exact ((((((B4.out.setCell (p := ⟨rc, 0, none⟩) LRC.out _).setCell (p := ⟨rc, 1, none⟩) LRC.out _).setCell (p := ⟨rc, 2, none⟩) LRC.out _).setCell (p := ⟨rc, 3, none⟩) LRC.out _).setCell (p := ⟨rc, 4, none⟩) LRC.out _).setCell (p := ⟨rc, 5, none⟩) LRC.out _)
set_option maxHeartbeats 4000000 in
set_option maxRecDepth 100000 in
theorem head_goz (tb eb wm gm db pm tm sk : Nat) (seq : Int) (l : List Named) (b : Addr) (id : Nat) (w : World) (h : TxnAt w tb eb wm gm seq l) (he : EngAt w eb db pm tm sk seq) (hg : ErrIs w b) (hid : id ≤ 64) (hx : seek l (mk id 6 []) = none) :
    Calls Tryz.prog 70 #[KHead, .pointer (some ⟨tb, 0, none⟩), .int .i64 (id : Int)] w fun e w' => e = .returned (.tuple #[headZ, .int .i64 0]) ∧ Below w.heap.size w w' := by
  obtain ⟨W0, hW0⟩ : ∃ W0, w.alloc (.cells #[.int .i64 6, .func (.func 67) #[] #[], .func (.func 68) #[] #[], .func (.func 69) #[] #[]] 90) = W0 := ⟨_, rfl⟩
  have b0 : Hid (Below w.heap.size w W0) := by rw [← hW0]; exact (Below.refl _ _).alloc (Nat.le_refl _) _
  have k0 : Hid (KWHead W0 w.heap.size) := by rw [← hW0]; exact ⟨heap_alloc_new w _⟩
  have s0 : W0.heap.size = w.heap.size + 1 := by rw [← hW0]; simp
  obtain ⟨rc, hrc⟩ : ∃ rc, W0.heap.size = rc := ⟨_, rfl⟩
  have LRC : Hid (w.heap.size ≤ rc) := by show _ ≤ _; omega
  obtain ⟨W1, hW1⟩ : ∃ W1, W0.alloc (.cells #[.int .i64 0, .string ⟨#[]⟩, .int .i64 0, .int .i64 0, .slice none 0 0, .string ⟨#[]⟩] 45) = W1 := ⟨_, rfl⟩
  have b1 : Hid (Below w.heap.size w W1) := by rw [← hW1]; exact b0.out.alloc b0.out.size _
  have g1 : Hid (W1.heap[rc]? = some (.cells #[.int .i64 0, .string ⟨#[]⟩, .int .i64 0, .int .i64 0, .slice none 0 0, .string ⟨#[]⟩] 45)) := by rw [← hW1, ← hrc]; exact heap_alloc_new W0 _
  have k1 : Hid (KWHead W1 w.heap.size) := by rw [← hW1]; exact ⟨(Below.heap_alloc _ _ _ (Array.getElem?_eq_some_iff.1 k0.out.row).1).trans k0.out.row⟩
  obtain ⟨c0, c1, c2, c3⟩ := k1.out.c
  have IG := keep (head_get tb eb wm gm db pm tm sk seq l b id W1 (h.below b1.out) (he.below b1.out) (hg.below b1.out) hid hx)
  clear h he hg hx s0
  unfold KHead headZ at IG
  unfold KHead headZ
  go_enter Tryz.func70, Tryz.ntmps70
  go_wp2_with fail
  refine IG.out.mono ?_
  rintro e w3 ⟨rfl, hb3⟩
  have B3 := keep (b1.out.trans (hb3.mono b1.out.size))
  have G3 := keep ((hb3.block _ (Array.getElem?_eq_some_iff.1 g1.out).1).trans g1.out)
  have B4 := keep (B3.out.alloc B3.out.size (.cells #[.int .i64 0, .string ⟨#[]⟩, .int .i64 0, .int .i64 0, .slice none 0 0, .string ⟨#[]⟩] 45))
  have G4 := keep ((Below.heap_alloc w3 (.cells #[.int .i64 0, .string ⟨#[]⟩, .int .i64 0, .int .i64 0, .slice none 0 0, .string ⟨#[]⟩] 45) rc (Array.getElem?_eq_some_iff.1 G3.out).1).trans G3.out)
  clear hb3 IG hW1 hW0 hrc c0 c1 c2 c3
  have z0 : (w3.alloc (.cells #[.int .i64 0, .string ⟨#[]⟩, .int .i64 0, .int .i64 0, .slice none 0 0, .string ⟨#[]⟩] 45)).cell? ⟨rc, 0, none⟩ = some (.int .i64 0) := cell_of_row _ _ _ _ _ _ G4.out
  have z1 : (w3.alloc (.cells #[.int .i64 0, .string ⟨#[]⟩, .int .i64 0, .int .i64 0, .slice none 0 0, .string ⟨#[]⟩] 45)).cell? ⟨rc, 1, none⟩ = some (.string ⟨#[]⟩) := cell_of_row _ _ _ _ _ _ G4.out
  have z2 : (w3.alloc (.cells #[.int .i64 0, .string ⟨#[]⟩, .int .i64 0, .int .i64 0, .slice none 0 0, .string ⟨#[]⟩] 45)).cell? ⟨rc, 2, none⟩ = some (.int .i64 0) := cell_of_row _ _ _ _ _ _ G4.out
  have z3 : (w3.alloc (.cells #[.int .i64 0, .string ⟨#[]⟩, .int .i64 0, .int .i64 0, .slice none 0 0, .string ⟨#[]⟩] 45)).cell? ⟨rc, 3, none⟩ = some (.int .i64 0) := cell_of_row _ _ _ _ _ _ G4.out
  have z4 : (w3.alloc (.cells #[.int .i64 0, .string ⟨#[]⟩, .int .i64 0, .int .i64 0, .slice none 0 0, .string ⟨#[]⟩] 45)).cell? ⟨rc, 4, none⟩ = some (.slice none 0 0) := cell_of_row _ _ _ _ _ _ G4.out
  have z5 : (w3.alloc (.cells #[.int .i64 0, .string ⟨#[]⟩, .int .i64 0, .int .i64 0, .slice none 0 0, .string ⟨#[]⟩] 45)).cell? ⟨rc, 5, none⟩ = some (.string ⟨#[]⟩) := cell_of_row _ _ _ _ _ _ G4.out
  have f0 : (w3.alloc (.cells #[.int .i64 0, .string ⟨#[]⟩, .int .i64 0, .int .i64 0, .slice none 0 0, .string ⟨#[]⟩] 45)).frozen? ⟨rc, 0, none⟩ = false := by simp [World.frozen?, G4.out]
  have f1 : (w3.alloc (.cells #[.int .i64 0, .string ⟨#[]⟩, .int .i64 0, .int .i64 0, .slice none 0 0, .string ⟨#[]⟩] 45)).frozen? ⟨rc, 1, none⟩ = false := by simp [World.frozen?, G4.out]
  have f2 : (w3.alloc (.cells #[.int .i64 0, .string ⟨#[]⟩, .int .i64 0, .int .i64 0, .slice none 0 0, .string ⟨#[]⟩] 45)).frozen? ⟨rc, 2, none⟩ = false := by simp [World.frozen?, G4.out]
  have f3 : (w3.alloc (.cells #[.int .i64 0, .string ⟨#[]⟩, .int .i64 0, .int .i64 0, .slice none 0 0, .string ⟨#[]⟩] 45)).frozen? ⟨rc, 3, none⟩ = false := by simp [World.frozen?, G4.out]
  have f4 : (w3.alloc (.cells #[.int .i64 0, .string ⟨#[]⟩, .int .i64 0, .int .i64 0, .slice none 0 0, .string ⟨#[]⟩] 45)).frozen? ⟨rc, 4, none⟩ = false := by simp [World.frozen?, G4.out]
  have f5 : (w3.alloc (.cells #[.int .i64 0, .string ⟨#[]⟩, .int .i64 0, .int .i64 0, .slice none 0 0, .string ⟨#[]⟩] 45)).frozen? ⟨rc, 5, none⟩ = false := by simp [World.frozen?, G4.out]
  go_wp2
  refine ⟨rfl, .tuple #[.agg #[.int .i64 0, .string ⟨#[]⟩, .int .i64 0, .int .i64 0, .slice none 0 0, .string ⟨#[]⟩], .int .i64 0], ?_, rfl, ?_⟩
  · have r0 : ((w3.alloc (.cells #[.int .i64 0, .string ⟨#[]⟩, .int .i64 0, .int .i64 0, .slice none 0 0, .string ⟨#[]⟩] 45)).setCell ⟨rc, 0, none⟩ (.int .i64 0)).cell? ⟨rc, 0, none⟩ = some (.int .i64 0) := World.cell?_setCell_same' _ _ _ (by simp [go_sem, z0])
    have r1 : (((w3.alloc (.cells #[.int .i64 0, .string ⟨#[]⟩, .int .i64 0, .int .i64 0, .slice none 0 0, .string ⟨#[]⟩] 45)).setCell ⟨rc, 0, none⟩ (.int .i64 0)).setCell ⟨rc, 1, none⟩ (.string ⟨#[]⟩)).cell? ⟨rc, 1, none⟩ = some (.string ⟨#[]⟩) := World.cell?_setCell_same' _ _ _ (by simp [go_sem, z1])
    have r2 : ((((w3.alloc (.cells #[.int .i64 0, .string ⟨#[]⟩, .int .i64 0, .int .i64 0, .slice none 0 0, .string ⟨#[]⟩] 45)).setCell ⟨rc, 0, none⟩ (.int .i64 0)).setCell ⟨rc, 1, none⟩ (.string ⟨#[]⟩)).setCell ⟨rc, 2, none⟩ (.int .i64 0)).cell? ⟨rc, 2, none⟩ = some (.int .i64 0) := World.cell?_setCell_same' _ _ _ (by simp [go_sem, z2])
    have r3 : (((((w3.alloc (.cells #[.int .i64 0, .string ⟨#[]⟩, .int .i64 0, .int .i64 0, .slice none 0 0, .string ⟨#[]⟩] 45)).setCell ⟨rc, 0, none⟩ (.int .i64 0)).setCell ⟨rc, 1, none⟩ (.string ⟨#[]⟩)).setCell ⟨rc, 2, none⟩ (.int .i64 0)).setCell ⟨rc, 3, none⟩ (.int .i64 0)).cell? ⟨rc, 3, none⟩ = some (.int .i64 0) := World.cell?_setCell_same' _ _ _ (by simp [go_sem, z3])
    have r4 : ((((((w3.alloc (.cells #[.int .i64 0, .string ⟨#[]⟩, .int .i64 0, .int .i64 0, .slice none 0 0, .string ⟨#[]⟩] 45)).setCell ⟨rc, 0, none⟩ (.int .i64 0)).setCell ⟨rc, 1, none⟩ (.string ⟨#[]⟩)).setCell ⟨rc, 2, none⟩ (.int .i64 0)).setCell ⟨rc, 3, none⟩ (.int .i64 0)).setCell ⟨rc, 4, none⟩ (.slice none 0 0)).cell? ⟨rc, 4, none⟩ = some (.slice none 0 0) := World.cell?_setCell_same' _ _ _ (by simp [go_sem, z4])
    have r5 : (((((((w3.alloc (.cells #[.int .i64 0, .string ⟨#[]⟩, .int .i64 0, .int .i64 0, .slice none 0 0, .string ⟨#[]⟩] 45)).setCell ⟨rc, 0, none⟩ (.int .i64 0)).setCell ⟨rc, 1, none⟩ (.string ⟨#[]⟩)).setCell ⟨rc, 2, none⟩ (.int .i64 0)).setCell ⟨rc, 3, none⟩ (.int .i64 0)).setCell ⟨rc, 4, none⟩ (.slice none 0 0)).setCell ⟨rc, 5, none⟩ (.string ⟨#[]⟩)).cell? ⟨rc, 5, none⟩ = some (.string ⟨#[]⟩) := World.cell?_setCell_same' _ _ _ (by simp [go_sem, z5])
    simp [results, Tryz.f70, go_sem, loadCells, loadCellsFrom, r0, r1, r2, r3, r4, r5]
  · exact ((((((B4.out.setCell (p := ⟨rc, 0, none⟩) LRC.out _).setCell (p := ⟨rc, 1, none⟩) LRC.out _).setCell (p := ⟨rc, 2, none⟩) LRC.out _).setCell (p := ⟨rc, 3, none⟩) LRC.out _).setCell (p := ⟨rc, 4, none⟩) LRC.out _).setCell (p := ⟨rc, 5, none⟩) LRC.out _)
set_option maxHeartbeats 4000000 in
set_option maxRecDepth 100000 in
theorem head_of_yes (tb eb wm gm db pm tm sk : Nat) (seq : Int) (l : List Named) (b : Addr) (id : Nat) (w : World) (h : TxnAt w tb eb wm gm seq l) (he : EngAt w eb db pm tm sk seq) (hg : ErrIs w b) (hid : id ≤ 64) (hx : seek l (mk id 6 []) = none) (h1 : 1 ≤ id) :
    Calls Tryz.prog 28 #[KHead, .pointer (some ⟨tb, 0, none⟩), .int .i64 (id : Int)] w fun e w' => e = .returned (.tuple #[headZ, .int .i64 0]) ∧ Below w.heap.size w w' := by
  obtain ⟨W0, hW0⟩ : ∃ W0, w.alloc (.cells #[.int .i64 6, .func (.func 67) #[] #[], .func (.func 68) #[] #[], .func (.func 69) #[] #[]] 90) = W0 := ⟨_, rfl⟩
  have b0 : Hid (Below w.heap.size w W0) := by rw [← hW0]; exact (Below.refl _ _).alloc (Nat.le_refl _) _
  have k0 : Hid (KWHead W0 w.heap.size) := by rw [← hW0]; exact ⟨heap_alloc_new w _⟩
  have s0 : W0.heap.size = w.heap.size + 1 := by rw [← hW0]; simp
  obtain ⟨rc, hrc⟩ : ∃ rc, W0.heap.size = rc := ⟨_, rfl⟩
  have LRC : Hid (w.heap.size ≤ rc) := by show _ ≤ _; omega
  obtain ⟨W1, hW1⟩ : ∃ W1, W0.alloc (.cells #[.int .i64 0, .string ⟨#[]⟩, .int .i64 0, .int .i64 0, .slice none 0 0, .string ⟨#[]⟩] 45) = W1 := ⟨_, rfl⟩
  have b1 : Hid (Below w.heap.size w W1) := by rw [← hW1]; exact b0.out.alloc b0.out.size _
  have g1 : Hid (W1.heap[rc]? = some (.cells #[.int .i64 0, .string ⟨#[]⟩, .int .i64 0, .int .i64 0, .slice none 0 0, .string ⟨#[]⟩] 45)) := by rw [← hW1, ← hrc]; exact heap_alloc_new W0 _
  have k1 : Hid (KWHead W1 w.heap.size) := by rw [← hW1]; exact ⟨(Below.heap_alloc _ _ _ (Array.getElem?_eq_some_iff.1 k0.out.row).1).trans k0.out.row⟩
  obtain ⟨c0, c1, c2, c3⟩ := k1.out.c
  have IG := keep (head_goz tb eb wm gm db pm tm sk seq l b id W1 (h.below b1.out) (he.below b1.out) (hg.below b1.out) hid hx)
  have IT := keep (istree_yes (id : Int) W1 (by omega) (by omega))
  clear h he hg hx s0
  unfold KHead headZ at IG
  unfold KHead headZ
  go_enter Tryz.func28, Tryz.ntmps28
  go_wp2_with fail
  refine IT.out.mono ?_
  rintro e w2 ⟨rfl, rfl⟩
  clear IT
  go_wp2_with fail
  refine IG.out.mono ?_
  rintro e w3 ⟨rfl, hb3⟩
  have B3 := keep (b1.out.trans (hb3.mono b1.out.size))
  have G3 := keep ((hb3.block _ (Array.getElem?_eq_some_iff.1 g1.out).1).trans g1.out)
  clear hb3 IG hW1 hW0 hrc c0 c1 c2 c3
  have z0 : w3.cell? ⟨rc, 0, none⟩ = some (.int .i64 0) := cell_of_row _ _ _ _ _ _ G3.out
  have z1 : w3.cell? ⟨rc, 1, none⟩ = some (.string ⟨#[]⟩) := cell_of_row _ _ _ _ _ _ G3.out
  have z2 : w3.cell? ⟨rc, 2, none⟩ = some (.int .i64 0) := cell_of_row _ _ _ _ _ _ G3.out
  have z3 : w3.cell? ⟨rc, 3, none⟩ = some (.int .i64 0) := cell_of_row _ _ _ _ _ _ G3.out
  have z4 : w3.cell? ⟨rc, 4, none⟩ = some (.slice none 0 0) := cell_of_row _ _ _ _ _ _ G3.out
  have z5 : w3.cell? ⟨rc, 5, none⟩ = some (.string ⟨#[]⟩) := cell_of_row _ _ _ _ _ _ G3.out
  have f0 : w3.frozen? ⟨rc, 0, none⟩ = false := by simp [World.frozen?, G3.out]
  have f1 : w3.frozen? ⟨rc, 1, none⟩ = false := by simp [World.frozen?, G3.out]
  have f2 : w3.frozen? ⟨rc, 2, none⟩ = false := by simp [World.frozen?, G3.out]
  have f3 : w3.frozen? ⟨rc, 3, none⟩ = false := by simp [World.frozen?, G3.out]
  have f4 : w3.frozen? ⟨rc, 4, none⟩ = false := by simp [World.frozen?, G3.out]
  have f5 : w3.frozen? ⟨rc, 5, none⟩ = false := by simp [World.frozen?, G3.out]
  go_wp2
  refine ⟨rfl, .tuple #[.agg #[.int .i64 0, .string ⟨#[]⟩, .int .i64 0, .int .i64 0, .slice none 0 0, .string ⟨#[]⟩], .int .i64 0], ?_, rfl, ?_⟩
  · have r0 : (w3.setCell ⟨rc, 0, none⟩ (.int .i64 0)).cell? ⟨rc, 0, none⟩ = some (.int .i64 0) := World.cell?_setCell_same' _ _ _ (by simp [go_sem, z0])
    have r1 : ((w3.setCell ⟨rc, 0, none⟩ (.int .i64 0)).setCell ⟨rc, 1, none⟩ (.string ⟨#[]⟩)).cell? ⟨rc, 1, none⟩ = some (.string ⟨#[]⟩) := World.cell?_setCell_same' _ _ _ (by simp [go_sem, z1])
    have r2 : (((w3.setCell ⟨rc, 0, none⟩ (.int .i64 0)).setCell ⟨rc, 1, none⟩ (.string ⟨#[]⟩)).setCell ⟨rc, 2, none⟩ (.int .i64 0)).cell? ⟨rc, 2, none⟩ = some (.int .i64 0) := World.cell?_setCell_same' _ _ _ (by simp [go_sem, z2])
    have r3 : ((((w3.setCell ⟨rc, 0, none⟩ (.int .i64 0)).setCell ⟨rc, 1, none⟩ (.string ⟨#[]⟩)).setCell ⟨rc, 2, none⟩ (.int .i64 0)).setCell ⟨rc, 3, none⟩ (.int .i64 0)).cell? ⟨rc, 3, none⟩ = some (.int .i64 0) := World.cell?_setCell_same' _ _ _ (by simp [go_sem, z3])
    have r4 : (((((w3.setCell ⟨rc, 0, none⟩ (.int .i64 0)).setCell ⟨rc, 1, none⟩ (.string ⟨#[]⟩)).setCell ⟨rc, 2, none⟩ (.int .i64 0)).setCell ⟨rc, 3, none⟩ (.int .i64 0)).setCell ⟨rc, 4, none⟩ (.slice none 0 0)).cell? ⟨rc, 4, none⟩ = some (.slice none 0 0) := World.cell?_setCell_same' _ _ _ (by simp [go_sem, z4])
    have r5 : ((((((w3.setCell ⟨rc, 0, none⟩ (.int .i64 0)).setCell ⟨rc, 1, none⟩ (.string ⟨#[]⟩)).setCell ⟨rc, 2, none⟩ (.int .i64 0)).setCell ⟨rc, 3, none⟩ (.int .i64 0)).setCell ⟨rc, 4, none⟩ (.slice none 0 0)).setCell ⟨rc, 5, none⟩ (.string ⟨#[]⟩)).cell? ⟨rc, 5, none⟩ = some (.string ⟨#[]⟩) := World.cell?_setCell_same' _ _ _ (by simp [go_sem, z5])
    simp [results, Tryz.f28, go_sem, loadCells, loadCellsFrom, r0, r1, r2, r3, r4, r5]
  · exact ((((((B3.out.setCell (p := ⟨rc, 0, none⟩) LRC.out _).setCell (p := ⟨rc, 1, none⟩) LRC.out _).setCell (p := ⟨rc, 2, none⟩) LRC.out _).setCell (p := ⟨rc, 3, none⟩) LRC.out _).setCell (p := ⟨rc, 4, none⟩) LRC.out _).setCell (p := ⟨rc, 5, none⟩) LRC.out _)
set_option maxHeartbeats 4000000 in
set_option maxRecDepth 100000 in
theorem head_of_no (tp : Value) (id : Int) (w : World) (h1 : ¬ (1 ≤ id ∧ id ≤ 64)) :
    Calls Tryz.prog 28 #[KHead, tp, .int .i64 id] w fun e w' => e = .returned (.tuple #[headZ, .int .i64 10]) ∧ Below w.heap.size w w' := by
  obtain ⟨W0, hW0⟩ : ∃ W0, w.alloc (.cells #[.int .i64 6, .func (.func 67) #[] #[], .func (.func 68) #[] #[], .func (.func 69) #[] #[]] 90) = W0 := ⟨_, rfl⟩
  have b0 : Hid (Below w.heap.size w W0) := by rw [← hW0]; exact (Below.refl _ _).alloc (Nat.le_refl _) _
  have k0 : Hid (KWHead W0 w.heap.size) := by rw [← hW0]; exact ⟨heap_alloc_new w _⟩
  have s0 : W0.heap.size = w.heap.size + 1 := by rw [← hW0]; simp
  obtain ⟨rc, hrc⟩ : ∃ rc, W0.heap.size = rc := ⟨_, rfl⟩
  have LRC : Hid (w.heap.size ≤ rc) := by show _ ≤ _; omega
  obtain ⟨W1, hW1⟩ : ∃ W1, W0.alloc (.cells #[.int .i64 0, .string ⟨#[]⟩, .int .i64 0, .int .i64 0, .slice none 0 0, .string ⟨#[]⟩] 45) = W1 := ⟨_, rfl⟩
  have b1 : Hid (Below w.heap.size w W1) := by rw [← hW1]; exact b0.out.alloc b0.out.size _
  have g1 : Hid (W1.heap[rc]? = some (.cells #[.int .i64 0, .string ⟨#[]⟩, .int .i64 0, .int .i64 0, .slice none 0 0, .string ⟨#[]⟩] 45)) := by rw [← hW1, ← hrc]; exact heap_alloc_new W0 _
  have k1 : Hid (KWHead W1 w.heap.size) := by rw [← hW1]; exact ⟨(Below.heap_alloc _ _ _ (Array.getElem?_eq_some_iff.1 k0.out.row).1).trans k0.out.row⟩
  obtain ⟨c0, c1, c2, c3⟩ := k1.out.c
  have IT := keep (istree_no id W1 h1)
  have B4 := keep (b1.out.alloc b1.out.size (.cells #[.int .i64 0, .string ⟨#[]⟩, .int .i64 0, .int .i64 0, .slice none 0 0, .string ⟨#[]⟩] 45))
  have G4 := keep ((Below.heap_alloc W1 (.cells #[.int .i64 0, .string ⟨#[]⟩, .int .i64 0, .int .i64 0, .slice none 0 0, .string ⟨#[]⟩] 45) rc (Array.getElem?_eq_some_iff.1 g1.out).1).trans g1.out)
  clear s0 h1
  unfold KHead headZ
  go_enter Tryz.func28, Tryz.ntmps28
  go_wp2_with fail
  refine IT.out.mono ?_
  rintro e w3 ⟨rfl, rfl⟩
  clear IT hW1 hW0 hrc c0 c1 c2 c3
  have z0 : (w3.alloc (.cells #[.int .i64 0, .string ⟨#[]⟩, .int .i64 0, .int .i64 0, .slice none 0 0, .string ⟨#[]⟩] 45)).cell? ⟨rc, 0, none⟩ = some (.int .i64 0) := cell_of_row _ _ _ _ _ _ G4.out
  have z1 : (w3.alloc (.cells #[.int .i64 0, .string ⟨#[]⟩, .int .i64 0, .int .i64 0, .slice none 0 0, .string ⟨#[]⟩] 45)).cell? ⟨rc, 1, none⟩ = some (.string ⟨#[]⟩) := cell_of_row _ _ _ _ _ _ G4.out
  have z2 : (w3.alloc (.cells #[.int .i64 0, .string ⟨#[]⟩, .int .i64 0, .int .i64 0, .slice none 0 0, .string ⟨#[]⟩] 45)).cell? ⟨rc, 2, none⟩ = some (.int .i64 0) := cell_of_row _ _ _ _ _ _ G4.out
  have z3 : (w3.alloc (.cells #[.int .i64 0, .string ⟨#[]⟩, .int .i64 0, .int .i64 0, .slice none 0 0, .string ⟨#[]⟩] 45)).cell? ⟨rc, 3, none⟩ = some (.int .i64 0) := cell_of_row _ _ _ _ _ _ G4.out
  have z4 : (w3.alloc (.cells #[.int .i64 0, .string ⟨#[]⟩, .int .i64 0, .int .i64 0, .slice none 0 0, .string ⟨#[]⟩] 45)).cell? ⟨rc, 4, none⟩ = some (.slice none 0 0) := cell_of_row _ _ _ _ _ _ G4.out
  have z5 : (w3.alloc (.cells #[.int .i64 0, .string ⟨#[]⟩, .int .i64 0, .int .i64 0, .slice none 0 0, .string ⟨#[]⟩] 45)).cell? ⟨rc, 5, none⟩ = some (.string ⟨#[]⟩) := cell_of_row _ _ _ _ _ _ G4.out
  have f0 : (w3.alloc (.cells #[.int .i64 0, .string ⟨#[]⟩, .int .i64 0, .int .i64 0, .slice none 0 0, .string ⟨#[]⟩] 45)).frozen? ⟨rc, 0, none⟩ = false := by simp [World.frozen?, G4.out]
  have f1 : (w3.alloc (.cells #[.int .i64 0, .string ⟨#[]⟩, .int .i64 0, .int .i64 0, .slice none 0 0, .string ⟨#[]⟩] 45)).frozen? ⟨rc, 1, none⟩ = false := by simp [World.frozen?, G4.out]
  have f2 : (w3.alloc (.cells #[.int .i64 0, .string ⟨#[]⟩, .int .i64 0, .int .i64 0, .slice none 0 0, .string ⟨#[]⟩] 45)).frozen? ⟨rc, 2, none⟩ = false := by simp [World.frozen?, G4.out]
  have f3 : (w3.alloc (.cells #[.int .i64 0, .string ⟨#[]⟩, .int .i64 0, .int .i64 0, .slice none 0 0, .string ⟨#[]⟩] 45)).frozen? ⟨rc, 3, none⟩ = false := by simp [World.frozen?, G4.out]
  have f4 : (w3.alloc (.cells #[.int .i64 0, .string ⟨#[]⟩, .int .i64 0, .int .i64 0, .slice none 0 0, .string ⟨#[]⟩] 45)).frozen? ⟨rc, 4, none⟩ = false := by simp [World.frozen?, G4.out]
  have f5 : (w3.alloc (.cells #[.int .i64 0, .string ⟨#[]⟩, .int .i64 0, .int .i64 0, .slice none 0 0, .string ⟨#[]⟩] 45)).frozen? ⟨rc, 5, none⟩ = false := by simp [World.frozen?, G4.out]
  go_wp2
  refine ⟨rfl, .tuple #[.agg #[.int .i64 0, .string ⟨#[]⟩, .int .i64 0, .int .i64 0, .slice none 0 0, .string ⟨#[]⟩], .int .i64 10], ?_, rfl, ?_⟩
  · have r0 : ((w3.alloc (.cells #[.int .i64 0, .string ⟨#[]⟩, .int .i64 0, .int .i64 0, .slice none 0 0, .string ⟨#[]⟩] 45)).setCell ⟨rc, 0, none⟩ (.int .i64 0)).cell? ⟨rc, 0, none⟩ = some (.int .i64 0) := World.cell?_setCell_same' _ _ _ (by simp [go_sem, z0])
    have r1 : (((w3.alloc (.cells #[.int .i64 0, .string ⟨#[]⟩, .int .i64 0, .int .i64 0, .slice none 0 0, .string ⟨#[]⟩] 45)).setCell ⟨rc, 0, none⟩ (.int .i64 0)).setCell ⟨rc, 1, none⟩ (.string ⟨#[]⟩)).cell? ⟨rc, 1, none⟩ = some (.string ⟨#[]⟩) := World.cell?_setCell_same' _ _ _ (by simp [go_sem, z1])
    have r2 : ((((w3.alloc (.cells #[.int .i64 0, .string ⟨#[]⟩, .int .i64 0, .int .i64 0, .slice none 0 0, .string ⟨#[]⟩] 45)).setCell ⟨rc, 0, none⟩ (.int .i64 0)).setCell ⟨rc, 1, none⟩ (.string ⟨#[]⟩)).setCell ⟨rc, 2, none⟩ (.int .i64 0)).cell? ⟨rc, 2, none⟩ = some (.int .i64 0) := World.cell?_setCell_same' _ _ _ (by simp [go_sem, z2])
    have r3 : (((((w3.alloc (.cells #[.int .i64 0, .string ⟨#[]⟩, .int .i64 0, .int .i64 0, .slice none 0 0, .string ⟨#[]⟩] 45)).setCell ⟨rc, 0, none⟩ (.int .i64 0)).setCell ⟨rc, 1, none⟩ (.string ⟨#[]⟩)).setCell ⟨rc, 2, none⟩ (.int .i64 0)).setCell ⟨rc, 3, none⟩ (.int .i64 0)).cell? ⟨rc, 3, none⟩ = some (.int .i64 0) := World.cell?_setCell_same' _ _ _ (by simp [go_sem, z3])
    have r4 : ((((((w3.alloc (.cells #[.int .i64 0, .string ⟨#[]⟩, .int .i64 0, .int .i64 0, .slice none 0 0, .string ⟨#[]⟩] 45)).setCell ⟨rc, 0, none⟩ (.int .i64 0)).setCell ⟨rc, 1, none⟩ (.string ⟨#[]⟩)).setCell ⟨rc, 2, none⟩ (.int .i64 0)).setCell ⟨rc, 3, none⟩ (.int .i64 0)).setCell ⟨rc, 4, none⟩ (.slice none 0 0)).cell? ⟨rc, 4, none⟩ = some (.slice none 0 0) := World.cell?_setCell_same' _ _ _ (by simp [go_sem, z4])
    have r5 : (((((((w3.alloc (.cells #[.int .i64 0, .string ⟨#[]⟩, .int .i64 0, .int .i64 0, .slice none 0 0, .string ⟨#[]⟩] 45)).setCell ⟨rc, 0, none⟩ (.int .i64 0)).setCell ⟨rc, 1, none⟩ (.string ⟨#[]⟩)).setCell ⟨rc, 2, none⟩ (.int .i64 0)).setCell ⟨rc, 3, none⟩ (.int .i64 0)).setCell ⟨rc, 4, none⟩ (.slice none 0 0)).setCell ⟨rc, 5, none⟩ (.string ⟨#[]⟩)).cell? ⟨rc, 5, none⟩ = some (.string ⟨#[]⟩) := World.cell?_setCell_same' _ _ _ (by simp [go_sem, z5])
    simp [results, Tryz.f28, go_sem, loadCells, loadCellsFrom, r0, r1, r2, r3, r4, r5]
  · exact ((((((B4.out.setCell (p := ⟨rc, 0, none⟩) LRC.out _).setCell (p := ⟨rc, 1, none⟩) LRC.out _).setCell (p := ⟨rc, 2, none⟩) LRC.out _).setCell (p := ⟨rc, 3, none⟩) LRC.out _).setCell (p := ⟨rc, 4, none⟩) LRC.out _).setCell (p := ⟨rc, 5, none⟩) LRC.out _)
set_option maxHeartbeats 4000000 in
set_option maxRecDepth 100000 in
theorem head_none (tb eb wm gm db pm tm sk : Nat) (seq : Int) (l : List Named) (b : Addr) (id : Nat) (w : World) (h : TxnAt w tb eb wm gm seq l) (he : EngAt w eb db pm tm sk seq) (hg : ErrIs w b) (hid : id ≤ 64) (hx : seek l (mk id 6 []) = none) (h1 : 1 ≤ id) :
    Calls Tryz.prog 10 #[.pointer (some ⟨tb, 0, none⟩), .int .i64 (id : Int)] w fun e w' => e = .returned (.tuple #[headZ, .int .i64 0]) ∧ Below w.heap.size w w' := by
  obtain ⟨W1, hW1⟩ : ∃ W1, w.alloc (.cells #[.int .i64 0, .string ⟨#[]⟩, .int .i64 0, .int .i64 0, .slice none 0 0, .string ⟨#[]⟩] 45) = W1 := ⟨_, rfl⟩
  have b1 : Hid (Below w.heap.size w W1) := by rw [← hW1]; exact (Below.refl _ _).alloc (Nat.le_refl _) _
  have g1 : Hid (W1.heap[w.heap.size]? = some (.cells #[.int .i64 0, .string ⟨#[]⟩, .int .i64 0, .int .i64 0, .slice none 0 0, .string ⟨#[]⟩] 45)) := by rw [← hW1]; exact heap_alloc_new w _
  have T1 := keep (h.below b1.out)
  have E1 := keep (he.below b1.out)
  have G1 := keep (hg.below b1.out)
  have HX := keep hx
  have H1 := keep (And.intro h1 hid)
  clear h he hg hx h1 hid
  unfold headZ
  go_enter Tryz.func10, Tryz.ntmps10
  go_wp2_with fail
  refine (heads_any W1).mono ?_
  rintro e w2 ⟨rfl, hb2⟩
  have IG := keep (head_of_yes tb eb wm gm db pm tm sk seq l b id w2 (T1.out.below hb2) (E1.out.below hb2) (G1.out.below hb2) H1.out.2 HX.out H1.out.1)
  unfold headZ at IG
  have B2 := keep (b1.out.trans (hb2.mono b1.out.size))
  have G2 := keep ((hb2.block _ (Array.getElem?_eq_some_iff.1 g1.out).1).trans g1.out)
  clear hb2 hW1
  go_wp2_with fail
  refine IG.out.mono ?_
  rintro e w3 ⟨rfl, hb3⟩
  have B3 := keep (B2.out.trans (hb3.mono B2.out.size))
  have G3 := keep ((hb3.block _ (Array.getElem?_eq_some_iff.1 G2.out).1).trans G2.out)
  clear hb3 IG
  have z0 : w3.cell? ⟨w.heap.size, 0, none⟩ = some (.int .i64 0) := cell_of_row _ _ _ _ _ _ G3.out
  have z1 : w3.cell? ⟨w.heap.size, 1, none⟩ = some (.string ⟨#[]⟩) := cell_of_row _ _ _ _ _ _ G3.out
  have z2 : w3.cell? ⟨w.heap.size, 2, none⟩ = some (.int .i64 0) := cell_of_row _ _ _ _ _ _ G3.out
  have z3 : w3.cell? ⟨w.heap.size, 3, none⟩ = some (.int .i64 0) := cell_of_row _ _ _ _ _ _ G3.out
  have z4 : w3.cell? ⟨w.heap.size, 4, none⟩ = some (.slice none 0 0) := cell_of_row _ _ _ _ _ _ G3.out
  have z5 : w3.cell? ⟨w.heap.size, 5, none⟩ = some (.string ⟨#[]⟩) := cell_of_row _ _ _ _ _ _ G3.out
  have f0 : w3.frozen? ⟨w.heap.size, 0, none⟩ = false := by simp [World.frozen?, G3.out]
  have f1 : w3.frozen? ⟨w.heap.size, 1, none⟩ = false := by simp [World.frozen?, G3.out]
  have f2 : w3.frozen? ⟨w.heap.size, 2, none⟩ = false := by simp [World.frozen?, G3.out]
  have f3 : w3.frozen? ⟨w.heap.size, 3, none⟩ = false := by simp [World.frozen?, G3.out]
  have f4 : w3.frozen? ⟨w.heap.size, 4, none⟩ = false := by simp [World.frozen?, G3.out]
  have f5 : w3.frozen? ⟨w.heap.size, 5, none⟩ = false := by simp [World.frozen?, G3.out]
  go_wp2
  refine ⟨rfl, .tuple #[.agg #[.int .i64 0, .string ⟨#[]⟩, .int .i64 0, .int .i64 0, .slice none 0 0, .string ⟨#[]⟩], .int .i64 0], ?_, rfl, ?_⟩
  · have r0 : (w3.setCell ⟨w.heap.size, 0, none⟩ (.int .i64 0)).cell? ⟨w.heap.size, 0, none⟩ = some (.int .i64 0) := World.cell?_setCell_same' _ _ _ (by simp [go_sem, z0])
    have r1 : ((w3.setCell ⟨w.heap.size, 0, none⟩ (.int .i64 0)).setCell ⟨w.heap.size, 1, none⟩ (.string ⟨#[]⟩)).cell? ⟨w.heap.size, 1, none⟩ = some (.string ⟨#[]⟩) := World.cell?_setCell_same' _ _ _ (by simp [go_sem, z1])
    have r2 : (((w3.setCell ⟨w.heap.size, 0, none⟩ (.int .i64 0)).setCell ⟨w.heap.size, 1, none⟩ (.string ⟨#[]⟩)).setCell ⟨w.heap.size, 2, none⟩ (.int .i64 0)).cell? ⟨w.heap.size, 2, none⟩ = some (.int .i64 0) := World.cell?_setCell_same' _ _ _ (by simp [go_sem, z2])
    have r3 : ((((w3.setCell ⟨w.heap.size, 0, none⟩ (.int .i64 0)).setCell ⟨w.heap.size, 1, none⟩ (.string ⟨#[]⟩)).setCell ⟨w.heap.size, 2, none⟩ (.int .i64 0)).setCell ⟨w.heap.size, 3, none⟩ (.int .i64 0)).cell? ⟨w.heap.size, 3, none⟩ = some (.int .i64 0) := World.cell?_setCell_same' _ _ _ (by simp [go_sem, z3])
    have r4 : (((((w3.setCell ⟨w.heap.size, 0, none⟩ (.int .i64 0)).setCell ⟨w.heap.size, 1, none⟩ (.string ⟨#[]⟩)).setCell ⟨w.heap.size, 2, none⟩ (.int .i64 0)).setCell ⟨w.heap.size, 3, none⟩ (.int .i64 0)).setCell ⟨w.heap.size, 4, none⟩ (.slice none 0 0)).cell? ⟨w.heap.size, 4, none⟩ = some (.slice none 0 0) := World.cell?_setCell_same' _ _ _ (by simp [go_sem, z4])
    have r5 : ((((((w3.setCell ⟨w.heap.size, 0, none⟩ (.int .i64 0)).setCell ⟨w.heap.size, 1, none⟩ (.string ⟨#[]⟩)).setCell ⟨w.heap.size, 2, none⟩ (.int .i64 0)).setCell ⟨w.heap.size, 3, none⟩ (.int .i64 0)).setCell ⟨w.heap.size, 4, none⟩ (.slice none 0 0)).setCell ⟨w.heap.size, 5, none⟩ (.string ⟨#[]⟩)).cell? ⟨w.heap.size, 5, none⟩ = some (.string ⟨#[]⟩) := World.cell?_setCell_same' _ _ _ (by simp [go_sem, z5])
    simp [results, Tryz.f10, go_sem, loadCells, loadCellsFrom, r0, r1, r2, r3, r4, r5]
  · exact ((((((B3.out.setCell (p := ⟨w.heap.size, 0, none⟩) (Nat.le_refl _) _).setCell (p := ⟨w.heap.size, 1, none⟩) (Nat.le_refl _) _).setCell (p := ⟨w.heap.size, 2, none⟩) (Nat.le_refl _) _).setCell (p := ⟨w.heap.size, 3, none⟩) (Nat.le_refl _) _).setCell (p := ⟨w.heap.size, 4, none⟩) (Nat.le_refl _) _).setCell (p := ⟨w.heap.size, 5, none⟩) (Nat.le_refl _) _)
set_option maxHeartbeats 4000000 in
set_option maxRecDepth 100000 in
theorem head_bad (tb : Nat) (id : Int) (w : World) (h1 : ¬ (1 ≤ id ∧ id ≤ 64)) :
    Calls Tryz.prog 10 #[.pointer (some ⟨tb, 0, none⟩), .int .i64 id] w fun e w' => e = .returned (.tuple #[headZ, .int .i64 10]) ∧ Below w.heap.size w w' := by
  obtain ⟨W1, hW1⟩ : ∃ W1, w.alloc (.cells #[.int .i64 0, .string ⟨#[]⟩, .int .i64 0, .int .i64 0, .slice none 0 0, .string ⟨#[]⟩] 45) = W1 := ⟨_, rfl⟩
  have b1 : Hid (Below w.heap.size w W1) := by rw [← hW1]; exact (Below.refl _ _).alloc (Nat.le_refl _) _
  have g1 : Hid (W1.heap[w.heap.size]? = some (.cells #[.int .i64 0, .string ⟨#[]⟩, .int .i64 0, .int .i64 0, .slice none 0 0, .string ⟨#[]⟩] 45)) := by rw [← hW1]; exact heap_alloc_new w _
  have H1 := keep h1
  clear h1
  unfold headZ
  go_enter Tryz.func10, Tryz.ntmps10
  go_wp2_with fail
  refine (heads_any W1).mono ?_
  rintro e w2 ⟨rfl, hb2⟩
  have IG := keep (head_of_no (.pointer (some ⟨tb, 0, none⟩)) id w2 H1.out)
  unfold headZ at IG
  have B2 := keep (b1.out.trans (hb2.mono b1.out.size))
  have G2 := keep ((hb2.block _ (Array.getElem?_eq_some_iff.1 g1.out).1).trans g1.out)
  clear hb2 hW1
  go_wp2_with fail
  refine IG.out.mono ?_
  rintro e w3 ⟨rfl, hb3⟩
  have B3 := keep (B2.out.trans (hb3.mono B2.out.size))
  have G3 := keep ((hb3.block _ (Array.getElem?_eq_some_iff.1 G2.out).1).trans G2.out)
  clear hb3 IG
  have z0 : w3.cell? ⟨w.heap.size, 0, none⟩ = some (.int .i64 0) := cell_of_row _ _ _ _ _ _ G3.out
  have z1 : w3.cell? ⟨w.heap.size, 1, none⟩ = some (.string ⟨#[]⟩) := cell_of_row _ _ _ _ _ _ G3.out
  have z2 : w3.cell? ⟨w.heap.size, 2, none⟩ = some (.int .i64 0) := cell_of_row _ _ _ _ _ _ G3.out
  have z3 : w3.cell? ⟨w.heap.size, 3, none⟩ = some (.int .i64 0) := cell_of_row _ _ _ _ _ _ G3.out
  have z4 : w3.cell? ⟨w.heap.size, 4, none⟩ = some (.slice none 0 0) := cell_of_row _ _ _ _ _ _ G3.out
  have z5 : w3.cell? ⟨w.heap.size, 5, none⟩ = some (.string ⟨#[]⟩) := cell_of_row _ _ _ _ _ _ G3.out
  have f0 : w3.frozen? ⟨w.heap.size, 0, none⟩ = false := by simp [World.frozen?, G3.out]
  have f1 : w3.frozen? ⟨w.heap.size, 1, none⟩ = false := by simp [World.frozen?, G3.out]
  have f2 : w3.frozen? ⟨w.heap.size, 2, none⟩ = false := by simp [World.frozen?, G3.out]
  have f3 : w3.frozen? ⟨w.heap.size, 3, none⟩ = false := by simp [World.frozen?, G3.out]
  have f4 : w3.frozen? ⟨w.heap.size, 4, none⟩ = false := by simp [World.frozen?, G3.out]
  have f5 : w3.frozen? ⟨w.heap.size, 5, none⟩ = false := by simp [World.frozen?, G3.out]
  go_wp2
  refine ⟨rfl, .tuple #[.agg #[.int .i64 0, .string ⟨#[]⟩, .int .i64 0, .int .i64 0, .slice none 0 0, .string ⟨#[]⟩], .int .i64 10], ?_, rfl, ?_⟩
  · have r0 : (w3.setCell ⟨w.heap.size, 0, none⟩ (.int .i64 0)).cell? ⟨w.heap.size, 0, none⟩ = some (.int .i64 0) := World.cell?_setCell_same' _ _ _ (by simp [go_sem, z0])
    have r1 : ((w3.setCell ⟨w.heap.size, 0, none⟩ (.int .i64 0)).setCell ⟨w.heap.size, 1, none⟩ (.string ⟨#[]⟩)).cell? ⟨w.heap.size, 1, none⟩ = some (.string ⟨#[]⟩) := World.cell?_setCell_same' _ _ _ (by simp [go_sem, z1])
    have r2 : (((w3.setCell ⟨w.heap.size, 0, none⟩ (.int .i64 0)).setCell ⟨w.heap.size, 1, none⟩ (.string ⟨#[]⟩)).setCell ⟨w.heap.size, 2, none⟩ (.int .i64 0)).cell? ⟨w.heap.size, 2, none⟩ = some (.int .i64 0) := World.cell?_setCell_same' _ _ _ (by simp [go_sem, z2])
    have r3 : ((((w3.setCell ⟨w.heap.size, 0, none⟩ (.int .i64 0)).setCell ⟨w.heap.size, 1, none⟩ (.string ⟨#[]⟩)).setCell ⟨w.heap.size, 2, none⟩ (.int .i64 0)).setCell ⟨w.heap.size, 3, none⟩ (.int .i64 0)).cell? ⟨w.heap.size, 3, none⟩ = some (.int .i64 0) := World.cell?_setCell_same' _ _ _ (by simp [go_sem, z3])
    have r4 : (((((w3.setCell ⟨w.heap.size, 0, none⟩ (.int .i64 0)).setCell ⟨w.heap.size, 1, none⟩ (.string ⟨#[]⟩)).setCell ⟨w.heap.size, 2, none⟩ (.int .i64 0)).setCell ⟨w.heap.size, 3, none⟩ (.int .i64 0)).setCell ⟨w.heap.size, 4, none⟩ (.slice none 0 0)).cell? ⟨w.heap.size, 4, none⟩ = some (.slice none 0 0) := World.cell?_setCell_same' _ _ _ (by simp [go_sem, z4])
    have r5 : ((((((w3.setCell ⟨w.heap.size, 0, none⟩ (.int .i64 0)).setCell ⟨w.heap.size, 1, none⟩ (.string ⟨#[]⟩)).setCell ⟨w.heap.size, 2, none⟩ (.int .i64 0)).setCell ⟨w.heap.size, 3, none⟩ (.int .i64 0)).setCell ⟨w.heap.size, 4, none⟩ (.slice none 0 0)).setCell ⟨w.heap.size, 5, none⟩ (.string ⟨#[]⟩)).cell? ⟨w.heap.size, 5, none⟩ = some (.string ⟨#[]⟩) := World.cell?_setCell_same' _ _ _ (by simp [go_sem, z5])
    simp [results, Tryz.f10, go_sem, loadCells, loadCellsFrom, r0, r1, r2, r3, r4, r5]
  · exact ((((((B3.out.setCell (p := ⟨w.heap.size, 0, none⟩) (Nat.le_refl _) _).setCell (p := ⟨w.heap.size, 1, none⟩) (Nat.le_refl _) _).setCell (p := ⟨w.heap.size, 2, none⟩) (Nat.le_refl _) _).setCell (p := ⟨w.heap.size, 3, none⟩) (Nat.le_refl _) _).setCell (p := ⟨w.heap.size, 4, none⟩) (Nat.le_refl _) _).setCell (p := ⟨w.heap.size, 5, none⟩) (Nat.le_refl _) _)
end Go.Proofs.YtbgdkkcobcmpoaaGreatDoor
namespace Go.Proofs.YtbgdkkcobcmpoaaGreatDoor
open Go.RowKit Go.Maps
open Dk (File Disk)

def KLease : Value := .agg #[.int .i64 7, .func (.func 71) #[] #[], .func (.func 72) #[] #[], .func (.func 73) #[] #[]]
def leaseZ : Value := .agg #[.int .i64 0, .int .i64 0, .int .i64 0]
set_option maxHeartbeats 4000000 in
set_option maxRecDepth 100000 in
theorem leases_any (w : World) : Calls Tryz.prog 29 #[] w fun e w' => e = .returned KLease ∧ Below w.heap.size w w' := by
  have hst : ∀ (w' : World) (a : Addr) (f : FuncId), (store a (.func (.func f) #[] #[]) .plain).run Tryz.prog w' = stored Tryz.prog w' a (.func (.func f) #[] #[]) .plain := fun w' a f => run_store Tryz.prog w' a _ .plain rfl
  have b1 := keep ((Below.refl w.heap.size w).alloc (Nat.le_refl _) (.cells #[.int .i64 7, .func (.func 71) #[] #[], .func (.func 72) #[] #[], .func (.func 73) #[] #[]] 96))
  unfold KLease
  go_enter Tryz.func29, Tryz.ntmps29
  go_wp2
  refine ⟨rfl, _, ?_, rfl, b1.out⟩
  simp [results, Tryz.f29, go_sem, loadCells, loadCellsFrom]
structure KWLease (w : World) (g : Nat) : Prop where
  row : w.heap[g]? = some (.cells #[.int .i64 7, .func (.func 71) #[] #[], .func (.func 72) #[] #[], .func (.func 73) #[] #[]] 96 (0, 0))
theorem KWLease.c {w : World} {g : Nat} (h : KWLease w g) : w.cell? ⟨g, 0, none⟩ = some (.int .i64 7) ∧ w.cell? ⟨g, 1, none⟩ = some (.func (.func 71) #[] #[]) ∧ w.cell? ⟨g, 2, none⟩ = some (.func (.func 72) #[] #[]) ∧ w.cell? ⟨g, 3, none⟩ = some (.func (.func 73) #[] #[]) := ⟨cell_of_row _ _ _ _ _ _ h.row, cell_of_row _ _ _ _ _ _ h.row, cell_of_row _ _ _ _ _ _ h.row, cell_of_row _ _ _ _ _ _ h.row⟩
set_option maxHeartbeats 4000000 in
set_option maxRecDepth 100000 in
theorem lease_key (id : Nat) (b : Addr) (w : World) (hid : id ≤ 64) (hg : ErrIs w b) :
    Calls Tryz.prog 211 #[KLease, .int .i64 (id : Int)] w fun e w' => ∃ v, e = .returned v ∧ New w w' v 9 (mk id 7 []) := by
  obtain ⟨W1, hW1⟩ : ∃ W1, w.alloc (.cells #[.int .i64 7, .func (.func 71) #[] #[], .func (.func 72) #[] #[], .func (.func 73) #[] #[]] 96) = W1 := ⟨_, rfl⟩
  have b1 : Hid (Below w.heap.size w W1) := by rw [← hW1]; exact (Below.refl _ _).alloc (Nat.le_refl _) _
  have k1 : Hid (KWLease W1 w.heap.size) := by rw [← hW1]; exact ⟨heap_alloc_new w _⟩
  obtain ⟨c0, c1, c2, c3⟩ := k1.out.c
  have MK := keep (make_yes id 7 none 0 0 [] b W1 (by omega) (by omega) (by omega) (Src.empty (fun _ => rfl)) (hg.below b1.out))
  rw [show ((7 : Nat) : Int) = 7 from rfl] at MK
  unfold KLease
  go_enter Tryz.func211, Tryz.ntmps211
  go_wp2_with fail
  refine MK.out.mono ?_
  rintro e w2 ⟨v, rfl, hn2⟩
  have N2 := keep (hn2.base b1.out)
  clear hn2 MK hW1
  go_wp2
  go_ret
  exact ⟨_, rfl, N2.out⟩
set_option maxHeartbeats 4000000 in
set_option maxRecDepth 100000 in
theorem lease_get (tb eb wm gm db pm tm sk : Nat) (seq : Int) (l : List Named) (b : Addr) (id : Nat) (w : World) (h : TxnAt w tb eb wm gm seq l) (he : EngAt w eb db pm tm sk seq) (hg : ErrIs w b) (hid : id ≤ 64) (hx : seek l (mk id 7 []) = none) :
    Calls Tryz.prog 140 #[KLease, .pointer (some ⟨tb, 0, none⟩), .int .i64 (id : Int)] w fun e w' => e = .returned (.tuple #[leaseZ, .int .i64 6]) ∧ Below w.heap.size w w' := by
  obtain ⟨W0, hW0⟩ : ∃ W0, w.alloc (.cells #[.int .i64 7, .func (.func 71) #[] #[], .func (.func 72) #[] #[], .func (.func 73) #[] #[]] 96) = W0 := ⟨_, rfl⟩
  have b0 : Hid (Below w.heap.size w W0) := by rw [← hW0]; exact (Below.refl _ _).alloc (Nat.le_refl _) _
  have k0 : Hid (KWLease W0 w.heap.size) := by rw [← hW0]; exact ⟨heap_alloc_new w _⟩
  have s0 : W0.heap.size = w.heap.size + 1 := by rw [← hW0]; simp
  obtain ⟨rc, hrc⟩ : ∃ rc, W0.heap.size = rc := ⟨_, rfl⟩
  have LRC : Hid (w.heap.size ≤ rc) := by show _ ≤ _; omega
  obtain ⟨W1, hW1⟩ : ∃ W1, W0.alloc (.cells #[.int .i64 0, .int .i64 0, .int .i64 0] 49) = W1 := ⟨_, rfl⟩
  have b1 : Hid (Below w.heap.size w W1) := by rw [← hW1]; exact b0.out.alloc b0.out.size _
  have g1 : Hid (W1.heap[rc]? = some (.cells #[.int .i64 0, .int .i64 0, .int .i64 0] 49)) := by rw [← hW1, ← hrc]; exact heap_alloc_new W0 _
  have k1 : Hid (KWLease W1 w.heap.size) := by rw [← hW1]; exact ⟨(Below.heap_alloc _ _ _ (Array.getElem?_eq_some_iff.1 k0.out.row).1).trans k0.out.row⟩
  obtain ⟨c0, c1, c2, c3⟩ := k1.out.c
  have IK := keep (lease_key id b W1 hid (hg.below b1.out))
  have T1 := keep (h.below b1.out)
  have E1 := keep (he.below b1.out)
  have HX := keep hx
  clear h he hg hx s0
  unfold KLease at IK ⊢
  unfold leaseZ
  go_enter Tryz.func140, Tryz.ntmps140
  go_wp2_with fail
  refine IK.out.mono ?_
  rintro e w2 ⟨v, rfl, hn2⟩
  obtain ⟨ap, ac, rfl, hs2, _⟩ := hn2.src
  have B2 := keep (b1.out.trans (hn2.2.mono b1.out.size))
  have G2 := keep ((hn2.2.block _ (Array.getElem?_eq_some_iff.1 g1.out).1).trans g1.out)
  have TG := keep (tget_none tb eb wm gm db pm tm sk seq l ap ac (mk id 7 []) w2 (T1.out.below hn2.2) (E1.out.below hn2.2) hs2 (by rw [mk_length]; unfold maxLen; decide) HX.out)
  rw [show (mk id 7 []).length = 9 by rw [mk_length]; rfl] at TG
  clear hn2 hs2 IK hW1 hW0 hrc c0 c1 c2 c3
  go_wp2_with fail
  refine TG.out.mono ?_
  rintro e w3 ⟨rfl, hb3⟩
  have B3 := keep (B2.out.trans (hb3.mono B2.out.size))
  have G3 := keep ((hb3.block _ (Array.getElem?_eq_some_iff.1 G2.out).1).trans G2.out)
  have B4 := keep (B3.out.alloc B3.out.size (.cells #[.int .i64 0, .int .i64 0, .int .i64 0] 49))
  have G4 := keep ((Below.heap_alloc w3 (.cells #[.int .i64 0, .int .i64 0, .int .i64 0] 49) rc (Array.getElem?_eq_some_iff.1 G3.out).1).trans G3.out)
  clear hb3 TG
  have z0 : (w3.alloc (.cells #[.int .i64 0, .int .i64 0, .int .i64 0] 49)).cell? ⟨rc, 0, none⟩ = some (.int .i64 0) := cell_of_row _ _ _ _ _ _ G4.out
  have z1 : (w3.alloc (.cells #[.int .i64 0, .int .i64 0, .int .i64 0] 49)).cell? ⟨rc, 1, none⟩ = some (.int .i64 0) := cell_of_row _ _ _ _ _ _ G4.out
  have z2 : (w3.alloc (.cells #[.int .i64 0, .int .i64 0, .int .i64 0] 49)).cell? ⟨rc, 2, none⟩ = some (.int .i64 0) := cell_of_row _ _ _ _ _ _ G4.out
  have f0 : (w3.alloc (.cells #[.int .i64 0, .int .i64 0, .int .i64 0] 49)).frozen? ⟨rc, 0, none⟩ = false := by simp [World.frozen?, G4.out]
  have f1 : (w3.alloc (.cells #[.int .i64 0, .int .i64 0, .int .i64 0] 49)).frozen? ⟨rc, 1, none⟩ = false := by simp [World.frozen?, G4.out]
  have f2 : (w3.alloc (.cells #[.int .i64 0, .int .i64 0, .int .i64 0] 49)).frozen? ⟨rc, 2, none⟩ = false := by simp [World.frozen?, G4.out]
  go_wp2
  refine ⟨rfl, .tuple #[.agg #[.int .i64 0, .int .i64 0, .int .i64 0], .int .i64 6], ?_, rfl, ?_⟩
  · have r0 : ((w3.alloc (.cells #[.int .i64 0, .int .i64 0, .int .i64 0] 49)).setCell ⟨rc, 0, none⟩ (.int .i64 0)).cell? ⟨rc, 0, none⟩ = some (.int .i64 0) := World.cell?_setCell_same' _ _ _ (by simp [go_sem, z0])
    have r1 : (((w3.alloc (.cells #[.int .i64 0, .int .i64 0, .int .i64 0] 49)).setCell ⟨rc, 0, none⟩ (.int .i64 0)).setCell ⟨rc, 1, none⟩ (.int .i64 0)).cell? ⟨rc, 1, none⟩ = some (.int .i64 0) := World.cell?_setCell_same' _ _ _ (by simp [go_sem, z1])
    have r2 : ((((w3.alloc (.cells #[.int .i64 0, .int .i64 0, .int .i64 0] 49)).setCell ⟨rc, 0, none⟩ (.int .i64 0)).setCell ⟨rc, 1, none⟩ (.int .i64 0)).setCell ⟨rc, 2, none⟩ (.int .i64 0)).cell? ⟨rc, 2, none⟩ = some (.int .i64 0) := World.cell?_setCell_same' _ _ _ (by simp [go_sem, z2])
    simp [results, Tryz.f140, go_sem, loadCells, loadCellsFrom, r0, r1, r2]
  · exact (((B4.out.setCell (p := ⟨rc, 0, none⟩) LRC.out _).setCell (p := ⟨rc, 1, none⟩) LRC.out _).setCell (p := ⟨rc, 2, none⟩) LRC.out _)
set_option maxHeartbeats 4000000 in
set_option maxRecDepth 100000 in
theorem lease_goz (tb eb wm gm db pm tm sk : Nat) (seq : Int) (l : List Named) (b : Addr) (id : Nat) (w : World) (h : TxnAt w tb eb wm gm seq l) (he : EngAt w eb db pm tm sk seq) (hg : ErrIs w b) (hid : id ≤ 64) (hx : seek l (mk id 7 []) = none) :
    Calls Tryz.prog 74 #[KLease, .pointer (some ⟨tb, 0, none⟩), .int .i64 (id : Int)] w fun e w' => e = .returned (.tuple #[leaseZ, .int .i64 0]) ∧ Below w.heap.size w w' := by
  obtain ⟨W0, hW0⟩ : ∃ W0, w.alloc (.cells #[.int .i64 7, .func (.func 71) #[] #[], .func (.func 72) #[] #[], .func (.func 73) #[] #[]] 96) = W0 := ⟨_, rfl⟩
  have b0 : Hid (Below w.heap.size w W0) := by rw [← hW0]; exact (Below.refl _ _).alloc (Nat.le_refl _) _
  have k0 : Hid (KWLease W0 w.heap.size) := by rw [← hW0]; exact ⟨heap_alloc_new w _⟩
  have s0 : W0.heap.size = w.heap.size + 1 := by rw [← hW0]; simp
  obtain ⟨rc, hrc⟩ : ∃ rc, W0.heap.size = rc := ⟨_, rfl⟩
  have LRC : Hid (w.heap.size ≤ rc) := by show _ ≤ _; omega
  obtain ⟨W1, hW1⟩ : ∃ W1, W0.alloc (.cells #[.int .i64 0, .int .i64 0, .int .i64 0] 49) = W1 := ⟨_, rfl⟩
  have b1 : Hid (Below w.heap.size w W1) := by rw [← hW1]; exact b0.out.alloc b0.out.size _
  have g1 : Hid (W1.heap[rc]? = some (.cells #[.int .i64 0, .int .i64 0, .int .i64 0] 49)) := by rw [← hW1, ← hrc]; exact heap_alloc_new W0 _
  have k1 : Hid (KWLease W1 w.heap.size) := by rw [← hW1]; exact ⟨(Below.heap_alloc _ _ _ (Array.getElem?_eq_some_iff.1 k0.out.row).1).trans k0.out.row⟩
  obtain ⟨c0, c1, c2, c3⟩ := k1.out.c
  have IG := keep (lease_get tb eb wm gm db pm tm sk seq l b id W1 (h.below b1.out) (he.below b1.out) (hg.below b1.out) hid hx)
  clear h he hg hx s0
  unfold KLease leaseZ at IG
  unfold KLease leaseZ
  go_enter Tryz.func74, Tryz.ntmps74
  go_wp2_with fail
  refine IG.out.mono ?_
  rintro e w3 ⟨rfl, hb3⟩
  have B3 := keep (b1.out.trans (hb3.mono b1.out.size))
  have G3 := keep ((hb3.block _ (Array.getElem?_eq_some_iff.1 g1.out).1).trans g1.out)
  have B4 := keep (B3.out.alloc B3.out.size (.cells #[.int .i64 0, .int .i64 0, .int .i64 0] 49))
  have G4 := keep ((Below.heap_alloc w3 (.cells #[.int .i64 0, .int .i64 0, .int .i64 0] 49) rc (Array.getElem?_eq_some_iff.1 G3.out).1).trans G3.out)
  clear hb3 IG hW1 hW0 hrc c0 c1 c2 c3
  have z0 : (w3.alloc (.cells #[.int .i64 0, .int .i64 0, .int .i64 0] 49)).cell? ⟨rc, 0, none⟩ = some (.int .i64 0) := cell_of_row _ _ _ _ _ _ G4.out
  have z1 : (w3.alloc (.cells #[.int .i64 0, .int .i64 0, .int .i64 0] 49)).cell? ⟨rc, 1, none⟩ = some (.int .i64 0) := cell_of_row _ _ _ _ _ _ G4.out
  have z2 : (w3.alloc (.cells #[.int .i64 0, .int .i64 0, .int .i64 0] 49)).cell? ⟨rc, 2, none⟩ = some (.int .i64 0) := cell_of_row _ _ _ _ _ _ G4.out
  have f0 : (w3.alloc (.cells #[.int .i64 0, .int .i64 0, .int .i64 0] 49)).frozen? ⟨rc, 0, none⟩ = false := by simp [World.frozen?, G4.out]
  have f1 : (w3.alloc (.cells #[.int .i64 0, .int .i64 0, .int .i64 0] 49)).frozen? ⟨rc, 1, none⟩ = false := by simp [World.frozen?, G4.out]
  have f2 : (w3.alloc (.cells #[.int .i64 0, .int .i64 0, .int .i64 0] 49)).frozen? ⟨rc, 2, none⟩ = false := by simp [World.frozen?, G4.out]
  go_wp2
  refine ⟨rfl, .tuple #[.agg #[.int .i64 0, .int .i64 0, .int .i64 0], .int .i64 0], ?_, rfl, ?_⟩
  · have r0 : ((w3.alloc (.cells #[.int .i64 0, .int .i64 0, .int .i64 0] 49)).setCell ⟨rc, 0, none⟩ (.int .i64 0)).cell? ⟨rc, 0, none⟩ = some (.int .i64 0) := World.cell?_setCell_same' _ _ _ (by simp [go_sem, z0])
    have r1 : (((w3.alloc (.cells #[.int .i64 0, .int .i64 0, .int .i64 0] 49)).setCell ⟨rc, 0, none⟩ (.int .i64 0)).setCell ⟨rc, 1, none⟩ (.int .i64 0)).cell? ⟨rc, 1, none⟩ = some (.int .i64 0) := World.cell?_setCell_same' _ _ _ (by simp [go_sem, z1])
    have r2 : ((((w3.alloc (.cells #[.int .i64 0, .int .i64 0, .int .i64 0] 49)).setCell ⟨rc, 0, none⟩ (.int .i64 0)).setCell ⟨rc, 1, none⟩ (.int .i64 0)).setCell ⟨rc, 2, none⟩ (.int .i64 0)).cell? ⟨rc, 2, none⟩ = some (.int .i64 0) := World.cell?_setCell_same' _ _ _ (by simp [go_sem, z2])
    simp [results, Tryz.f74, go_sem, loadCells, loadCellsFrom, r0, r1, r2]
  · exact (((B4.out.setCell (p := ⟨rc, 0, none⟩) LRC.out _).setCell (p := ⟨rc, 1, none⟩) LRC.out _).setCell (p := ⟨rc, 2, none⟩) LRC.out _)
set_option maxHeartbeats 4000000 in
set_option maxRecDepth 100000 in
theorem lease_of_yes (tb eb wm gm db pm tm sk : Nat) (seq : Int) (l : List Named) (b : Addr) (id : Nat) (w : World) (h : TxnAt w tb eb wm gm seq l) (he : EngAt w eb db pm tm sk seq) (hg : ErrIs w b) (hid : id ≤ 64) (hx : seek l (mk id 7 []) = none) (h1 : 1 ≤ id) :
    Calls Tryz.prog 30 #[KLease, .pointer (some ⟨tb, 0, none⟩), .int .i64 (id : Int)] w fun e w' => e = .returned (.tuple #[leaseZ, .int .i64 0]) ∧ Below w.heap.size w w' := by
  obtain ⟨W0, hW0⟩ : ∃ W0, w.alloc (.cells #[.int .i64 7, .func (.func 71) #[] #[], .func (.func 72) #[] #[], .func (.func 73) #[] #[]] 96) = W0 := ⟨_, rfl⟩
  have b0 : Hid (Below w.heap.size w W0) := by rw [← hW0]; exact (Below.refl _ _).alloc (Nat.le_refl _) _
  have k0 : Hid (KWLease W0 w.heap.size) := by rw [← hW0]; exact ⟨heap_alloc_new w _⟩
  have s0 : W0.heap.size = w.heap.size + 1 := by rw [← hW0]; simp
  obtain ⟨rc, hrc⟩ : ∃ rc, W0.heap.size = rc := ⟨_, rfl⟩
  have LRC : Hid (w.heap.size ≤ rc) := by show _ ≤ _; omega
  obtain ⟨W1, hW1⟩ : ∃ W1, W0.alloc (.cells #[.int .i64 0, .int .i64 0, .int .i64 0] 49) = W1 := ⟨_, rfl⟩
  have b1 : Hid (Below w.heap.size w W1) := by rw [← hW1]; exact b0.out.alloc b0.out.size _
  have g1 : Hid (W1.heap[rc]? = some (.cells #[.int .i64 0, .int .i64 0, .int .i64 0] 49)) := by rw [← hW1, ← hrc]; exact heap_alloc_new W0 _
  have k1 : Hid (KWLease W1 w.heap.size) := by rw [← hW1]; exact ⟨(Below.heap_alloc _ _ _ (Array.getElem?_eq_some_iff.1 k0.out.row).1).trans k0.out.row⟩
  obtain ⟨c0, c1, c2, c3⟩ := k1.out.c
  have IG := keep (lease_goz tb eb wm gm db pm tm sk seq l b id W1 (h.below b1.out) (he.below b1.out) (hg.below b1.out) hid hx)
  have IT := keep (istree_yes (id : Int) W1 (by omega) (by omega))
  clear h he hg hx s0
  unfold KLease leaseZ at IG
  unfold KLease leaseZ
  go_enter Tryz.func30, Tryz.ntmps30
  go_wp2_with fail
  refine IT.out.mono ?_
  rintro e w2 ⟨rfl, rfl⟩
  clear IT
  go_wp2_with fail
  refine IG.out.mono ?_
  rintro e w3 ⟨rfl, hb3⟩
  have B3 := keep (b1.out.trans (hb3.mono b1.out.size))
  have G3 := keep ((hb3.block _ (Array.getElem?_eq_some_iff.1 g1.out).1).trans g1.out)
  clear hb3 IG hW1 hW0 hrc c0 c1 c2 c3
  have z0 : w3.cell? ⟨rc, 0, none⟩ = some (.int .i64 0) := cell_of_row _ _ _ _ _ _ G3.out
  have z1 : w3.cell? ⟨rc, 1, none⟩ = some (.int .i64 0) := cell_of_row _ _ _ _ _ _ G3.out
  have z2 : w3.cell? ⟨rc, 2, none⟩ = some (.int .i64 0) := cell_of_row _ _ _ _ _ _ G3.out
  have f0 : w3.frozen? ⟨rc, 0, none⟩ = false := by simp [World.frozen?, G3.out]
  have f1 : w3.frozen? ⟨rc, 1, none⟩ = false := by simp [World.frozen?, G3.out]
  have f2 : w3.frozen? ⟨rc, 2, none⟩ = false := by simp [World.frozen?, G3.out]
  go_wp2
  refine ⟨rfl, .tuple #[.agg #[.int .i64 0, .int .i64 0, .int .i64 0], .int .i64 0], ?_, rfl, ?_⟩
  · have r0 : (w3.setCell ⟨rc, 0, none⟩ (.int .i64 0)).cell? ⟨rc, 0, none⟩ = some (.int .i64 0) := World.cell?_setCell_same' _ _ _ (by simp [go_sem, z0])
    have r1 : ((w3.setCell ⟨rc, 0, none⟩ (.int .i64 0)).setCell ⟨rc, 1, none⟩ (.int .i64 0)).cell? ⟨rc, 1, none⟩ = some (.int .i64 0) := World.cell?_setCell_same' _ _ _ (by simp [go_sem, z1])
    have r2 : (((w3.setCell ⟨rc, 0, none⟩ (.int .i64 0)).setCell ⟨rc, 1, none⟩ (.int .i64 0)).setCell ⟨rc, 2, none⟩ (.int .i64 0)).cell? ⟨rc, 2, none⟩ = some (.int .i64 0) := World.cell?_setCell_same' _ _ _ (by simp [go_sem, z2])
    simp [results, Tryz.f30, go_sem, loadCells, loadCellsFrom, r0, r1, r2]
  · exact (((B3.out.setCell (p := ⟨rc, 0, none⟩) LRC.out _).setCell (p := ⟨rc, 1, none⟩) LRC.out _).setCell (p := ⟨rc, 2, none⟩) LRC.out _)
set_option maxHeartbeats 4000000 in
set_option maxRecDepth 100000 in
theorem lease_of_no (tp : Value) (id : Int) (w : World) (h1 : ¬ (1 ≤ id ∧ id ≤ 64)) :
    Calls Tryz.prog 30 #[KLease, tp, .int .i64 id] w fun e w' => e = .returned (.tuple #[leaseZ, .int .i64 10]) ∧ Below w.heap.size w w' := by
  obtain ⟨W0, hW0⟩ : ∃ W0, w.alloc (.cells #[.int .i64 7, .func (.func 71) #[] #[], .func (.func 72) #[] #[], .func (.func 73) #[] #[]] 96) = W0 := ⟨_, rfl⟩
  have b0 : Hid (Below w.heap.size w W0) := by rw [← hW0]; exact (Below.refl _ _).alloc (Nat.le_refl _) _
  have k0 : Hid (KWLease W0 w.heap.size) := by rw [← hW0]; exact ⟨heap_alloc_new w _⟩
  have s0 : W0.heap.size = w.heap.size + 1 := by rw [← hW0]; simp
  obtain ⟨rc, hrc⟩ : ∃ rc, W0.heap.size = rc := ⟨_, rfl⟩
  have LRC : Hid (w.heap.size ≤ rc) := by show _ ≤ _; omega
  obtain ⟨W1, hW1⟩ : ∃ W1, W0.alloc (.cells #[.int .i64 0, .int .i64 0, .int .i64 0] 49) = W1 := ⟨_, rfl⟩
  have b1 : Hid (Below w.heap.size w W1) := by rw [← hW1]; exact b0.out.alloc b0.out.size _
  have g1 : Hid (W1.heap[rc]? = some (.cells #[.int .i64 0, .int .i64 0, .int .i64 0] 49)) := by rw [← hW1, ← hrc]; exact heap_alloc_new W0 _
  have k1 : Hid (KWLease W1 w.heap.size) := by rw [← hW1]; exact ⟨(Below.heap_alloc _ _ _ (Array.getElem?_eq_some_iff.1 k0.out.row).1).trans k0.out.row⟩
  obtain ⟨c0, c1, c2, c3⟩ := k1.out.c
  have IT := keep (istree_no id W1 h1)
  have B4 := keep (b1.out.alloc b1.out.size (.cells #[.int .i64 0, .int .i64 0, .int .i64 0] 49))
  have G4 := keep ((Below.heap_alloc W1 (.cells #[.int .i64 0, .int .i64 0, .int .i64 0] 49) rc (Array.getElem?_eq_some_iff.1 g1.out).1).trans g1.out)
  clear s0 h1
  unfold KLease leaseZ
  go_enter Tryz.func30, Tryz.ntmps30
  go_wp2_with fail
  refine IT.out.mono ?_
  rintro e w3 ⟨rfl, rfl⟩
  clear IT hW1 hW0 hrc c0 c1 c2 c3
  have z0 : (w3.alloc (.cells #[.int .i64 0, .int .i64 0, .int .i64 0] 49)).cell? ⟨rc, 0, none⟩ = some (.int .i64 0) := cell_of_row _ _ _ _ _ _ G4.out
  have z1 : (w3.alloc (.cells #[.int .i64 0, .int .i64 0, .int .i64 0] 49)).cell? ⟨rc, 1, none⟩ = some (.int .i64 0) := cell_of_row _ _ _ _ _ _ G4.out
  have z2 : (w3.alloc (.cells #[.int .i64 0, .int .i64 0, .int .i64 0] 49)).cell? ⟨rc, 2, none⟩ = some (.int .i64 0) := cell_of_row _ _ _ _ _ _ G4.out
  have f0 : (w3.alloc (.cells #[.int .i64 0, .int .i64 0, .int .i64 0] 49)).frozen? ⟨rc, 0, none⟩ = false := by simp [World.frozen?, G4.out]
  have f1 : (w3.alloc (.cells #[.int .i64 0, .int .i64 0, .int .i64 0] 49)).frozen? ⟨rc, 1, none⟩ = false := by simp [World.frozen?, G4.out]
  have f2 : (w3.alloc (.cells #[.int .i64 0, .int .i64 0, .int .i64 0] 49)).frozen? ⟨rc, 2, none⟩ = false := by simp [World.frozen?, G4.out]
  go_wp2
  refine ⟨rfl, .tuple #[.agg #[.int .i64 0, .int .i64 0, .int .i64 0], .int .i64 10], ?_, rfl, ?_⟩
  · have r0 : ((w3.alloc (.cells #[.int .i64 0, .int .i64 0, .int .i64 0] 49)).setCell ⟨rc, 0, none⟩ (.int .i64 0)).cell? ⟨rc, 0, none⟩ = some (.int .i64 0) := World.cell?_setCell_same' _ _ _ (by simp [go_sem, z0])
    have r1 : (((w3.alloc (.cells #[.int .i64 0, .int .i64 0, .int .i64 0] 49)).setCell ⟨rc, 0, none⟩ (.int .i64 0)).setCell ⟨rc, 1, none⟩ (.int .i64 0)).cell? ⟨rc, 1, none⟩ = some (.int .i64 0) := World.cell?_setCell_same' _ _ _ (by simp [go_sem, z1])
    have r2 : ((((w3.alloc (.cells #[.int .i64 0, .int .i64 0, .int .i64 0] 49)).setCell ⟨rc, 0, none⟩ (.int .i64 0)).setCell ⟨rc, 1, none⟩ (.int .i64 0)).setCell ⟨rc, 2, none⟩ (.int .i64 0)).cell? ⟨rc, 2, none⟩ = some (.int .i64 0) := World.cell?_setCell_same' _ _ _ (by simp [go_sem, z2])
    simp [results, Tryz.f30, go_sem, loadCells, loadCellsFrom, r0, r1, r2]
  · exact (((B4.out.setCell (p := ⟨rc, 0, none⟩) LRC.out _).setCell (p := ⟨rc, 1, none⟩) LRC.out _).setCell (p := ⟨rc, 2, none⟩) LRC.out _)
set_option maxHeartbeats 4000000 in
set_option maxRecDepth 100000 in
theorem lease_none (tb eb wm gm db pm tm sk : Nat) (seq : Int) (l : List Named) (b : Addr) (id : Nat) (w : World) (h : TxnAt w tb eb wm gm seq l) (he : EngAt w eb db pm tm sk seq) (hg : ErrIs w b) (hid : id ≤ 64) (hx : seek l (mk id 7 []) = none) (h1 : 1 ≤ id) :
    Calls Tryz.prog 11 #[.pointer (some ⟨tb, 0, none⟩), .int .i64 (id : Int)] w fun e w' => e = .returned (.tuple #[leaseZ, .int .i64 0]) ∧ Below w.heap.size w w' := by
  obtain ⟨W1, hW1⟩ : ∃ W1, w.alloc (.cells #[.int .i64 0, .int .i64 0, .int .i64 0] 49) = W1 := ⟨_, rfl⟩
  have b1 : Hid (Below w.heap.size w W1) := by rw [← hW1]; exact (Below.refl _ _).alloc (Nat.le_refl _) _
  have g1 : Hid (W1.heap[w.heap.size]? = some (.cells #[.int .i64 0, .int .i64 0, .int .i64 0] 49)) := by rw [← hW1]; exact heap_alloc_new w _
  have T1 := keep (h.below b1.out)
  have E1 := keep (he.below b1.out)
  have G1 := keep (hg.below b1.out)
  have HX := keep hx
  have H1 := keep (And.intro h1 hid)
  clear h he hg hx h1 hid
  unfold leaseZ
  go_enter Tryz.func11, Tryz.ntmps11
  go_wp2_with fail
  refine (leases_any W1).mono ?_
  rintro e w2 ⟨rfl, hb2⟩
  have IG := keep (lease_of_yes tb eb wm gm db pm tm sk seq l b id w2 (T1.out.below hb2) (E1.out.below hb2) (G1.out.below hb2) H1.out.2 HX.out H1.out.1)
  unfold leaseZ at IG
  have B2 := keep (b1.out.trans (hb2.mono b1.out.size))
  have G2 := keep ((hb2.block _ (Array.getElem?_eq_some_iff.1 g1.out).1).trans g1.out)
  clear hb2 hW1
  go_wp2_with fail
  refine IG.out.mono ?_
  rintro e w3 ⟨rfl, hb3⟩
  have B3 := keep (B2.out.trans (hb3.mono B2.out.size))
  have G3 := keep ((hb3.block _ (Array.getElem?_eq_some_iff.1 G2.out).1).trans G2.out)
  clear hb3 IG
  have z0 : w3.cell? ⟨w.heap.size, 0, none⟩ = some (.int .i64 0) := cell_of_row _ _ _ _ _ _ G3.out
  have z1 : w3.cell? ⟨w.heap.size, 1, none⟩ = some (.int .i64 0) := cell_of_row _ _ _ _ _ _ G3.out
  have z2 : w3.cell? ⟨w.heap.size, 2, none⟩ = some (.int .i64 0) := cell_of_row _ _ _ _ _ _ G3.out
  have f0 : w3.frozen? ⟨w.heap.size, 0, none⟩ = false := by simp [World.frozen?, G3.out]
  have f1 : w3.frozen? ⟨w.heap.size, 1, none⟩ = false := by simp [World.frozen?, G3.out]
  have f2 : w3.frozen? ⟨w.heap.size, 2, none⟩ = false := by simp [World.frozen?, G3.out]
  go_wp2
  refine ⟨rfl, .tuple #[.agg #[.int .i64 0, .int .i64 0, .int .i64 0], .int .i64 0], ?_, rfl, ?_⟩
  · have r0 : (w3.setCell ⟨w.heap.size, 0, none⟩ (.int .i64 0)).cell? ⟨w.heap.size, 0, none⟩ = some (.int .i64 0) := World.cell?_setCell_same' _ _ _ (by simp [go_sem, z0])
    have r1 : ((w3.setCell ⟨w.heap.size, 0, none⟩ (.int .i64 0)).setCell ⟨w.heap.size, 1, none⟩ (.int .i64 0)).cell? ⟨w.heap.size, 1, none⟩ = some (.int .i64 0) := World.cell?_setCell_same' _ _ _ (by simp [go_sem, z1])
    have r2 : (((w3.setCell ⟨w.heap.size, 0, none⟩ (.int .i64 0)).setCell ⟨w.heap.size, 1, none⟩ (.int .i64 0)).setCell ⟨w.heap.size, 2, none⟩ (.int .i64 0)).cell? ⟨w.heap.size, 2, none⟩ = some (.int .i64 0) := World.cell?_setCell_same' _ _ _ (by simp [go_sem, z2])
    simp [results, Tryz.f11, go_sem, loadCells, loadCellsFrom, r0, r1, r2]
  · exact (((B3.out.setCell (p := ⟨w.heap.size, 0, none⟩) (Nat.le_refl _) _).setCell (p := ⟨w.heap.size, 1, none⟩) (Nat.le_refl _) _).setCell (p := ⟨w.heap.size, 2, none⟩) (Nat.le_refl _) _)
set_option maxHeartbeats 4000000 in
set_option maxRecDepth 100000 in
theorem lease_bad (tb : Nat) (id : Int) (w : World) (h1 : ¬ (1 ≤ id ∧ id ≤ 64)) :
    Calls Tryz.prog 11 #[.pointer (some ⟨tb, 0, none⟩), .int .i64 id] w fun e w' => e = .returned (.tuple #[leaseZ, .int .i64 10]) ∧ Below w.heap.size w w' := by
  obtain ⟨W1, hW1⟩ : ∃ W1, w.alloc (.cells #[.int .i64 0, .int .i64 0, .int .i64 0] 49) = W1 := ⟨_, rfl⟩
  have b1 : Hid (Below w.heap.size w W1) := by rw [← hW1]; exact (Below.refl _ _).alloc (Nat.le_refl _) _
  have g1 : Hid (W1.heap[w.heap.size]? = some (.cells #[.int .i64 0, .int .i64 0, .int .i64 0] 49)) := by rw [← hW1]; exact heap_alloc_new w _
  have H1 := keep h1
  clear h1
  unfold leaseZ
  go_enter Tryz.func11, Tryz.ntmps11
  go_wp2_with fail
  refine (leases_any W1).mono ?_
  rintro e w2 ⟨rfl, hb2⟩
  have IG := keep (lease_of_no (.pointer (some ⟨tb, 0, none⟩)) id w2 H1.out)
  unfold leaseZ at IG
  have B2 := keep (b1.out.trans (hb2.mono b1.out.size))
  have G2 := keep ((hb2.block _ (Array.getElem?_eq_some_iff.1 g1.out).1).trans g1.out)
  clear hb2 hW1
  go_wp2_with fail
  refine IG.out.mono ?_
  rintro e w3 ⟨rfl, hb3⟩
  have B3 := keep (B2.out.trans (hb3.mono B2.out.size))
  have G3 := keep ((hb3.block _ (Array.getElem?_eq_some_iff.1 G2.out).1).trans G2.out)
  clear hb3 IG
  have z0 : w3.cell? ⟨w.heap.size, 0, none⟩ = some (.int .i64 0) := cell_of_row _ _ _ _ _ _ G3.out
  have z1 : w3.cell? ⟨w.heap.size, 1, none⟩ = some (.int .i64 0) := cell_of_row _ _ _ _ _ _ G3.out
  have z2 : w3.cell? ⟨w.heap.size, 2, none⟩ = some (.int .i64 0) := cell_of_row _ _ _ _ _ _ G3.out
  have f0 : w3.frozen? ⟨w.heap.size, 0, none⟩ = false := by simp [World.frozen?, G3.out]
  have f1 : w3.frozen? ⟨w.heap.size, 1, none⟩ = false := by simp [World.frozen?, G3.out]
  have f2 : w3.frozen? ⟨w.heap.size, 2, none⟩ = false := by simp [World.frozen?, G3.out]
  go_wp2
  refine ⟨rfl, .tuple #[.agg #[.int .i64 0, .int .i64 0, .int .i64 0], .int .i64 10], ?_, rfl, ?_⟩
  · have r0 : (w3.setCell ⟨w.heap.size, 0, none⟩ (.int .i64 0)).cell? ⟨w.heap.size, 0, none⟩ = some (.int .i64 0) := World.cell?_setCell_same' _ _ _ (by simp [go_sem, z0])
    have r1 : ((w3.setCell ⟨w.heap.size, 0, none⟩ (.int .i64 0)).setCell ⟨w.heap.size, 1, none⟩ (.int .i64 0)).cell? ⟨w.heap.size, 1, none⟩ = some (.int .i64 0) := World.cell?_setCell_same' _ _ _ (by simp [go_sem, z1])
    have r2 : (((w3.setCell ⟨w.heap.size, 0, none⟩ (.int .i64 0)).setCell ⟨w.heap.size, 1, none⟩ (.int .i64 0)).setCell ⟨w.heap.size, 2, none⟩ (.int .i64 0)).cell? ⟨w.heap.size, 2, none⟩ = some (.int .i64 0) := World.cell?_setCell_same' _ _ _ (by simp [go_sem, z2])
    simp [results, Tryz.f11, go_sem, loadCells, loadCellsFrom, r0, r1, r2]
  · exact (((B3.out.setCell (p := ⟨w.heap.size, 0, none⟩) (Nat.le_refl _) _).setCell (p := ⟨w.heap.size, 1, none⟩) (Nat.le_refl _) _).setCell (p := ⟨w.heap.size, 2, none⟩) (Nat.le_refl _) _)
end Go.Proofs.YtbgdkkcobcmpoaaGreatDoor
