/- The walk of slices.IsSortedFunc by a note's order. -/
/- Which Nums stand twice: over plain lists, and the walk of numStandsTwice. -/
import Derived.Test.YthnebhddakfadaaGreatDoorJoinHk
import Derived.Deep.RegionHeld3
import Derived.Test.YthnebhddakfadaaGreatDoorPq
import Derived.Lib.OwnBridge
import Derived.Sort.OwnSortedInts
namespace Go.Proofs.YthnebhddakfadaaGreatDoor.Ed
/-- Does the one at j + 1 not go ahead of the one at j? -/
def okS (l : List Nt) (j : Nat) : Bool :=
  match l[j]?, l[j + 1]? with
  | some a, some b => !decide (order b a < 0)
  | _, _ => true
/-- Are notes in order? -/
def sorted (l : List Nt) : Bool := (List.range (l.length - 1)).all (okS l)
theorem sorted_no {l : List Nt} {j : Nat} (hj : j + 1 < l.length) (h : okS l j = false) : sorted l = false := by
  cases hs : sorted l with
  | false => rfl
  | true => rw [List.all_eq_true.1 hs j (List.mem_range.2 (by omega))] at h; cases h
theorem sorted_yes {l : List Nt} (h : ∀ j, j + 1 < l.length → okS l j = true) : sorted l = true := List.all_eq_true.2 (fun j hj => h j (by have := List.mem_range.1 hj; omega))
end Go.Proofs.YthnebhddakfadaaGreatDoor.Ed
namespace Go.Proofs.YthnebhddakfadaaGreatDoor
open Go.RowKit
open Ed (Nt)

set_option maxHeartbeats 4000000 in
set_option maxRecDepth 100000 in
theorem isSorted_any (ao : Option Addr) (n c : Nat) (es : List MV) (w : World) (hsrc : RSrc metaKind w ao n c es) (hn : n ≤ 1000000) :
    Calls Tryz.prog 113 #[.slice ao n c, .func (.func 114) #[] #[]] w fun e w' => e = .returned (.bool (Ed.sorted (es.map (·.m)))) ∧ Below w.heap.size w w' := by
  have SRC := keep hsrc
  have HL : Hid (es.length = n) := hsrc.len
  have HML : Hid ((es.map (·.m)).length = n) := by show _ = _; rw [List.length_map]; exact HL.out
  clear hsrc
  rcases Nat.eq_zero_or_pos n with hn0 | hn0
  · subst hn0
    have e : Ed.sorted (es.map (·.m)) = true := Ed.sorted_yes (fun j hj => by rw [HML.out] at hj; omega)
    rw [e]
    clear e
    go_enter Tryz.func113, Tryz.ntmps113
    go_wp2
    go_loopw [5] (fun i wr => i = .int .i64 (-1) ∧ wr = w) (fun _ _ => 0)
    case atStart => exact ⟨by first | rfl | go_num, rfl⟩
    case round =>
      obtain ⟨rfl, rfl⟩ := hrel
      go_wp2
      go_ret
      exact ⟨rfl, Below.refl _ _⟩
  · obtain ⟨M, rfl⟩ : ∃ M, n = M + 1 := ⟨n - 1, by omega⟩
    obtain ⟨b, off, rfl, _, _⟩ := SRC.out.form metaKind_ok (by omega)
    have s1 : IntKind.i64.wrap (M : Int) = (M : Int) := wrap_small _ (by omega) (by omega)
    have s2 : ((M + 1 : Nat) : Int) - 1 = (M : Int) := by omega
    have s3 : (M : Int) + 1 - 1 = (M : Int) := by omega
    go_enter Tryz.func113, Tryz.ntmps113
    go_wp2
    clear s1 s2 s3
    go_loopw [5] (fun i wr => ∃ q : Nat, q ≤ M ∧ i = .int .i64 (q : Int) ∧ Hid (Below w.heap.size w wr ∧ ∀ j, q ≤ j → j + 1 < M + 1 → Ed.okS (es.map (·.m)) j = true)) (fun i _ => (intOf i).toNat)
    case atStart => exact ⟨M, Nat.le_refl _, by first | rfl | go_num, Below.refl _ _, fun j h1 h2 => by omega⟩
    case round =>
      obtain ⟨q, hq, rfl, hI⟩ := hrel
      rcases Nat.eq_zero_or_pos q with hq0 | hq0
      · subst hq0
        have e : Ed.sorted (es.map (·.m)) = true := Ed.sorted_yes (fun j hj => hI.out.2 j (Nat.zero_le _) (by rw [HML.out] at hj; exact hj))
        have E0 := keep e
        clear e
        go_wp2
        go_ret
        exact ⟨by rw [E0.out]; rfl, hI.out.1⟩
      · obtain ⟨j, rfl⟩ : ∃ j, q = j + 1 := ⟨q - 1, by omega⟩
        have SE : Hid (∀ w', Below wr.heap.size wr w' → RSrc metaKind w' (some ⟨b, off, none⟩) (M + 1) c es) := fun w' hb => SRC.out.below metaKind_ok (hI.out.1.trans (hb.mono hI.out.1.size))
        obtain ⟨x, hx⟩ : ∃ x, es[j + 1]? = some x := ⟨es[j + 1]'(by rw [HL.out]; omega), List.getElem?_eq_getElem _⟩
        obtain ⟨y, hy⟩ : ∃ y, es[j]? = some y := ⟨es[j]'(by rw [HL.out]; omega), List.getElem?_eq_getElem _⟩
        have CX : Hid (∀ w', Below wr.heap.size wr w' → _) := fun w' hb => meta_cells (SE.out w' hb) hx
        have CY : Hid (∀ w', Below wr.heap.size wr w' → _) := fun w' hb => meta_cells (SE.out w' hb) hy
        have OR : Hid (∀ w', Below wr.heap.size wr w' → _) := fun w' hb => order_any x y w' ((SE.out w' hb).held x (List.mem_of_getElem? hx)) ((SE.out w' hb).held y (List.mem_of_getElem? hy))
        have OKS : Hid (Ed.okS (es.map (·.m)) j = !decide (Ed.order x.m y.m < 0)) := by
          show _ = _
          unfold Ed.okS
          rw [List.getElem?_map, List.getElem?_map, hx, hy]
          rfl
        obtain ⟨o, ho⟩ : ∃ o, Ed.order x.m y.m = o := ⟨_, rfl⟩
        rw [ho] at OR OKS
        clear hx hy ho
        obtain ⟨xfp, xfc, xlp, xlc, ⟨xnum, xlevel, xcount, xfirst, xlast⟩⟩ := x
        obtain ⟨yfp, yfc, ylp, ylc, ⟨ynum, ylevel, ycount, yfirst, ylast⟩⟩ := y
        unfold mv at OR
        simp only at CX CY OR
        have lg : (0 : Int) < ((j + 1 : Nat) : Int) := by omega
        have lg2 : (0 : Int) < (j : Int) + 1 := by omega
        have t1 : IntKind.i64.wrap (j : Int) = (j : Int) := wrap_small _ (by omega) (by omega)
        have t2 : ((j + 1 : Nat) : Int) - 1 = (j : Int) := by omega
        have t2b : (j : Int) + 1 - 1 = (j : Int) := by omega
        have t3 : (j : Int) < ((M + 1 : Nat) : Int) := by omega
        have t3b : (j : Int) < (M : Int) + 1 := by omega
        have t4 : (0 : Int) ≤ (j : Int) := by omega
        have t5 : ((j + 1 : Nat) : Int) < ((M + 1 : Nat) : Int) := by omega
        have t5b : (j : Int) + 1 < (M : Int) + 1 := by omega
        have t6 : (0 : Int) ≤ (j : Int) + 1 := by omega
        have t7 : j < M := by omega
        by_cases hlt : o < 0
        · have dl : decide (o < 0) = true := decide_eq_true hlt
          have e : Ed.sorted (es.map (·.m)) = false := Ed.sorted_no (j := j) (by rw [HML.out]; omega) (by rw [OKS.out, dl]; rfl)
          have E0 := keep e
          clear e
          go_wp2_with fail
          refine wp_region_held_drew (S := fun w' => Below wr.heap.size wr w') (by kernel_rfl) ((Below.refl _ _).drew) (fun hHeld => ?_)
          refine takeH (i := 0) 13 (v := .func (.func 114) #[] #[]) rfl rfl (by kernel_rfl) (by kernel_rfl) (by kernel_rfl) (fun _ _ _ h => h) (Or.inl ⟨by rfl, ?_⟩) (by assumption) ?_
          · intro w' hSw'
            go_simp
          simp only [Act.put, List.setIfInBounds_toArray, List.set_cons_zero, List.set_cons_succ]
          refine takeH (i := 1) 14 (v := .slice (some ⟨b, off, none⟩) (M + 1) c) rfl rfl (by kernel_rfl) (by kernel_rfl) (by kernel_rfl) (fun _ _ _ h => h) (Or.inl ⟨by rfl, ?_⟩) (by assumption) ?_
          · intro w' hSw'
            go_simp
          simp only [Act.put, List.setIfInBounds_toArray, List.set_cons_zero, List.set_cons_succ]
          refine takeH (i := 2) 15 (v := .int .i64 ((j + 1 : Nat) : Int)) rfl rfl (by kernel_rfl) (by kernel_rfl) (by kernel_rfl) (fun _ _ _ h => h) (Or.inl ⟨by rfl, ?_⟩) (by assumption) ?_
          · intro w' hSw'
            go_simp
          simp only [Act.put, List.setIfInBounds_toArray, List.set_cons_zero, List.set_cons_succ]
          refine takeH (i := 3) 16 (v := .pointer (some ⟨b, off + (j + 1) * 5, none⟩)) rfl rfl (by kernel_rfl) (by kernel_rfl) (by kernel_rfl) (fun _ _ _ h => h) (Or.inl ⟨by rfl, ?_⟩) (by assumption) ?_
          · intro w' hSw'
            go_simp
          simp only [Act.put, List.setIfInBounds_toArray, List.set_cons_zero, List.set_cons_succ]
          refine takeH (i := 4) 17 (v := .agg #[.int .i64 xnum, .int .i64 xlevel, .int .i64 xcount, .slice xfp xfirst.length xfc, .slice xlp xlast.length xlc]) rfl rfl (by kernel_rfl) (by kernel_rfl) (by kernel_rfl) (fun _ _ _ h => h) (Or.inl ⟨by rfl, ?_⟩) (by assumption) ?_
          · intro w' hSw'
            obtain ⟨d0, d1, d2, d3, d4⟩ := CX.out w' hSw'
            go_simp
          simp only [Act.put, List.setIfInBounds_toArray, List.set_cons_zero, List.set_cons_succ]
          refine takeH (i := 5) 18 (v := .slice (some ⟨b, off, none⟩) (M + 1) c) rfl rfl (by kernel_rfl) (by kernel_rfl) (by kernel_rfl) (fun _ _ _ h => h) (Or.inl ⟨by rfl, ?_⟩) (by assumption) ?_
          · intro w' hSw'
            go_simp
          simp only [Act.put, List.setIfInBounds_toArray, List.set_cons_zero, List.set_cons_succ]
          refine takeH (i := 6) 19 (v := .int .i64 ((j + 1 : Nat) : Int)) rfl rfl (by kernel_rfl) (by kernel_rfl) (by kernel_rfl) (fun _ _ _ h => h) (Or.inl ⟨by rfl, ?_⟩) (by assumption) ?_
          · intro w' hSw'
            go_simp
          simp only [Act.put, List.setIfInBounds_toArray, List.set_cons_zero, List.set_cons_succ]
          refine takeH (i := 7) 20 (v := .int .i64 (j : Int)) rfl rfl (by kernel_rfl) (by kernel_rfl) (by kernel_rfl) (fun _ _ _ h => h) (Or.inl ⟨by rfl, ?_⟩) (by assumption) ?_
          · intro w' hSw'
            go_simp
          simp only [Act.put, List.setIfInBounds_toArray, List.set_cons_zero, List.set_cons_succ]
          refine takeH (i := 8) 21 (v := .pointer (some ⟨b, off + j * 5, none⟩)) rfl rfl (by kernel_rfl) (by kernel_rfl) (by kernel_rfl) (fun _ _ _ h => h) (Or.inl ⟨by rfl, ?_⟩) (by assumption) ?_
          · intro w' hSw'
            go_simp
          simp only [Act.put, List.setIfInBounds_toArray, List.set_cons_zero, List.set_cons_succ]
          refine takeH (i := 9) 0x16 (v := .agg #[.int .i64 ynum, .int .i64 ylevel, .int .i64 ycount, .slice yfp yfirst.length yfc, .slice ylp ylast.length ylc]) rfl rfl (by kernel_rfl) (by kernel_rfl) (by kernel_rfl) (fun _ _ _ h => h) (Or.inl ⟨by rfl, ?_⟩) (by assumption) ?_
          · intro w' hSw'
            obtain ⟨d0, d1, d2, d3, d4⟩ := CY.out w' hSw'
            go_simp
          simp only [Act.put, List.setIfInBounds_toArray, List.set_cons_zero, List.set_cons_succ]
          refine wpAnyH_ready (rs := [10]) (by kernel_rfl) (by simp) ?_
          refine AllReadyH.cons rfl (fun K hK => ?_) AllReadyH.nil
          go_simp
          refine (OR.out _ (Below.refl _ _).drew).mono ?_
          rintro e w7 ⟨rfl, hb7⟩
          have b7 : Hid (Below wr.heap.size wr w7) := ((Below.refl _ _).drew).trans (hb7.mono (Nat.le_refl _))
          clear hb7
          go_wp2_with fail
          refine hK.out _ _ (b7.out) (fun hHeld1 => ?_)
          clear hK K
          refine takeH (i := 11) 24 (v := .bool true) rfl rfl (by kernel_rfl) (by kernel_rfl) (by kernel_rfl) (fun _ _ _ h => h) (Or.inl ⟨by rfl, ?_⟩) (by assumption) ?_
          · intro w' hSw'
            go_simp
          simp only [Act.put, List.setIfInBounds_toArray, List.set_cons_zero, List.set_cons_succ]
          refine wpAnyH_done (by kernel_rfl) ?_ _
          go_wp2
          go_ret
          exact ⟨by rw [E0.out]; rfl, hI.out.1.trans (b7.out.mono hI.out.1.size)⟩
        · have dl : decide (o < 0) = false := decide_eq_false hlt
          have HO : Hid (Ed.okS (es.map (·.m)) j = true) := by show _ = _; rw [OKS.out, dl]; rfl
          go_wp2_with fail
          refine wp_region_held_drew (S := fun w' => Below wr.heap.size wr w') (by kernel_rfl) ((Below.refl _ _).drew) (fun hHeld => ?_)
          refine takeH (i := 0) 13 (v := .func (.func 114) #[] #[]) rfl rfl (by kernel_rfl) (by kernel_rfl) (by kernel_rfl) (fun _ _ _ h => h) (Or.inl ⟨by rfl, ?_⟩) (by assumption) ?_
          · intro w' hSw'
            go_simp
          simp only [Act.put, List.setIfInBounds_toArray, List.set_cons_zero, List.set_cons_succ]
          refine takeH (i := 1) 14 (v := .slice (some ⟨b, off, none⟩) (M + 1) c) rfl rfl (by kernel_rfl) (by kernel_rfl) (by kernel_rfl) (fun _ _ _ h => h) (Or.inl ⟨by rfl, ?_⟩) (by assumption) ?_
          · intro w' hSw'
            go_simp
          simp only [Act.put, List.setIfInBounds_toArray, List.set_cons_zero, List.set_cons_succ]
          refine takeH (i := 2) 15 (v := .int .i64 ((j + 1 : Nat) : Int)) rfl rfl (by kernel_rfl) (by kernel_rfl) (by kernel_rfl) (fun _ _ _ h => h) (Or.inl ⟨by rfl, ?_⟩) (by assumption) ?_
          · intro w' hSw'
            go_simp
          simp only [Act.put, List.setIfInBounds_toArray, List.set_cons_zero, List.set_cons_succ]
          refine takeH (i := 3) 16 (v := .pointer (some ⟨b, off + (j + 1) * 5, none⟩)) rfl rfl (by kernel_rfl) (by kernel_rfl) (by kernel_rfl) (fun _ _ _ h => h) (Or.inl ⟨by rfl, ?_⟩) (by assumption) ?_
          · intro w' hSw'
            go_simp
          simp only [Act.put, List.setIfInBounds_toArray, List.set_cons_zero, List.set_cons_succ]
          refine takeH (i := 4) 17 (v := .agg #[.int .i64 xnum, .int .i64 xlevel, .int .i64 xcount, .slice xfp xfirst.length xfc, .slice xlp xlast.length xlc]) rfl rfl (by kernel_rfl) (by kernel_rfl) (by kernel_rfl) (fun _ _ _ h => h) (Or.inl ⟨by rfl, ?_⟩) (by assumption) ?_
          · intro w' hSw'
            obtain ⟨d0, d1, d2, d3, d4⟩ := CX.out w' hSw'
            go_simp
          simp only [Act.put, List.setIfInBounds_toArray, List.set_cons_zero, List.set_cons_succ]
          refine takeH (i := 5) 18 (v := .slice (some ⟨b, off, none⟩) (M + 1) c) rfl rfl (by kernel_rfl) (by kernel_rfl) (by kernel_rfl) (fun _ _ _ h => h) (Or.inl ⟨by rfl, ?_⟩) (by assumption) ?_
          · intro w' hSw'
            go_simp
          simp only [Act.put, List.setIfInBounds_toArray, List.set_cons_zero, List.set_cons_succ]
          refine takeH (i := 6) 19 (v := .int .i64 ((j + 1 : Nat) : Int)) rfl rfl (by kernel_rfl) (by kernel_rfl) (by kernel_rfl) (fun _ _ _ h => h) (Or.inl ⟨by rfl, ?_⟩) (by assumption) ?_
          · intro w' hSw'
            go_simp
          simp only [Act.put, List.setIfInBounds_toArray, List.set_cons_zero, List.set_cons_succ]
          refine takeH (i := 7) 20 (v := .int .i64 (j : Int)) rfl rfl (by kernel_rfl) (by kernel_rfl) (by kernel_rfl) (fun _ _ _ h => h) (Or.inl ⟨by rfl, ?_⟩) (by assumption) ?_
          · intro w' hSw'
            go_simp
          simp only [Act.put, List.setIfInBounds_toArray, List.set_cons_zero, List.set_cons_succ]
          refine takeH (i := 8) 21 (v := .pointer (some ⟨b, off + j * 5, none⟩)) rfl rfl (by kernel_rfl) (by kernel_rfl) (by kernel_rfl) (fun _ _ _ h => h) (Or.inl ⟨by rfl, ?_⟩) (by assumption) ?_
          · intro w' hSw'
            go_simp
          simp only [Act.put, List.setIfInBounds_toArray, List.set_cons_zero, List.set_cons_succ]
          refine takeH (i := 9) 0x16 (v := .agg #[.int .i64 ynum, .int .i64 ylevel, .int .i64 ycount, .slice yfp yfirst.length yfc, .slice ylp ylast.length ylc]) rfl rfl (by kernel_rfl) (by kernel_rfl) (by kernel_rfl) (fun _ _ _ h => h) (Or.inl ⟨by rfl, ?_⟩) (by assumption) ?_
          · intro w' hSw'
            obtain ⟨d0, d1, d2, d3, d4⟩ := CY.out w' hSw'
            go_simp
          simp only [Act.put, List.setIfInBounds_toArray, List.set_cons_zero, List.set_cons_succ]
          refine wpAnyH_ready (rs := [10]) (by kernel_rfl) (by simp) ?_
          refine AllReadyH.cons rfl (fun K hK => ?_) AllReadyH.nil
          go_simp
          refine (OR.out _ (Below.refl _ _).drew).mono ?_
          rintro e w7 ⟨rfl, hb7⟩
          have b7 : Hid (Below wr.heap.size wr w7) := ((Below.refl _ _).drew).trans (hb7.mono (Nat.le_refl _))
          clear hb7
          go_wp2_with fail
          refine hK.out _ _ (b7.out) (fun hHeld1 => ?_)
          clear hK K
          refine takeH (i := 11) 24 (v := .bool false) rfl rfl (by kernel_rfl) (by kernel_rfl) (by kernel_rfl) (fun _ _ _ h => h) (Or.inl ⟨by rfl, ?_⟩) (by assumption) ?_
          · intro w' hSw'
            go_simp
          simp only [Act.put, List.setIfInBounds_toArray, List.set_cons_zero, List.set_cons_succ]
          refine wpAnyH_done (by kernel_rfl) ?_ _
          go_wp2
          go_roundw
          case rel => exact ⟨j, by omega, by first | rfl | go_num, hI.out.1.trans (b7.out.mono hI.out.1.size), fun i h1 h2 => by
            rcases Nat.lt_or_ge j i with h | h
            · exact hI.out.2 i (by omega) h2
            · obtain rfl : i = j := by omega
              exact HO.out⟩
          case measure => first | (simp [intOf]; done) | (simp [intOf]; omega)
end Go.Proofs.YthnebhddakfadaaGreatDoor
namespace Go.Proofs.YthnebhddakfadaaGreatDoor.Ed
open Go Go.Lib Go.Sort
/-- Ints, rising. -/
def rising (zs : List Int) : List Int := zs.mergeSort fun x y => decide (x ≤ y)
theorem rising_perm (zs : List Int) : (rising zs).Perm zs := List.mergeSort_perm _ _
theorem rising_le (zs : List Int) : (rising zs).Pairwise (· ≤ ·) := by
  have h := List.pairwise_mergeSort (le := fun x y : Int => decide (x ≤ y)) (fun a b c => by simp; omega) (fun a b => by simp; omega) zs
  rw [List.pairwise_iff_getElem] at h ⊢
  exact fun i j hi hj hij => of_decide_eq_true (h i j hi hj hij)
theorem rising_length (zs : List Int) : (rising zs).length = zs.length := (rising_perm zs).length_eq
theorem compact_short (zs : List Int) : decide ((Lib.compact (rising zs)).length < zs.length) = !decide zs.Nodup := by
  have hp := rising_perm zs
  have hs := List.pairwise_iff_getElem.1 (rising_le zs)
  have hl := rising_length zs
  generalize rising zs = ms at hp hs hl
  have kat : ∀ j, keeps ms.toArray j = decide (j = 0 ∨ ms[j]! ≠ ms[j - 1]!) := fun j => by simp [keeps]
  rw [← hl]
  by_cases hn : zs.Nodup
  · rw [decide_eq_true hn]
    have hm : ms.Nodup := hp.nodup_iff.2 hn
    have hm' := List.pairwise_iff_getElem.1 hm
    rw [compact_all ms (fun j hj => by
      rw [kat]
      rcases Nat.eq_zero_or_pos j with h0 | h0
      · simp [h0]
      · have := hm' (j - 1) j (by omega) hj (by omega)
        refine decide_eq_true (.inr ?_)
        rw [getElem!_pos ms j hj, getElem!_pos ms (j - 1) (by omega)]
        exact fun e => this e.symm)]
    simp
  · rw [decide_eq_false hn]
    refine decide_eq_true ?_
    rcases Nat.lt_or_ge (Lib.compact ms).length ms.length with h | h
    · exact h
    · refine absurd (hp.nodup_iff.1 (List.pairwise_iff_getElem.2 fun i j hi hj hij e => ?_)) hn
      have hall : ∀ k, k < ms.length → keeps ms.toArray k = true := fun k hk => by
        have e2 : ((List.range ms.length).filter (keeps ms.toArray)).length = (List.range ms.length).length := by
          have h1 : (Lib.compact ms).length = ((List.range ms.length).filter (keeps ms.toArray)).length := by simp [Lib.compact, compactUpTo]
          have h2 := List.length_filter_le (keeps ms.toArray) (List.range ms.length)
          rw [List.length_range] at h2 ⊢
          omega
        exact List.length_filter_eq_length_iff.1 e2 k (List.mem_range.2 hk)
      have h1 := hall j hj
      rw [kat] at h1
      have h2 := of_decide_eq_true h1
      rcases h2 with h2 | h2
      · omega
      · rw [getElem!_pos ms j hj, getElem!_pos ms (j - 1) (by omega)] at h2
        have h3 := hs (j - 1) j (by omega) hj (by omega)
        rcases Nat.lt_or_ge i (j - 1) with h4 | h4
        · have h5 := hs i (j - 1) hi (by omega) h4
          omega
        · obtain rfl : i = j - 1 := by omega
          exact h2 e.symm
/-- The notes' Nums. -/
def nums (l : List Nt) : List Int := l.map (·.num)
/-- Stands a Num twice? -/
def twice (l : List Nt) : Bool := !decide (nums l).Nodup
end Go.Proofs.YthnebhddakfadaaGreatDoor.Ed
namespace Go.Proofs.YthnebhddakfadaaGreatDoor
open Go.RowKit
open Ed (Nt)

theorem belowE {w w' : World} (h : Below w.heap.size w w') {p : Addr} {v : Value} (hc : w.cell? p = some v) : w'.cell? p = some v := by rw [h.cell (World.block_lt_of_cell? w _ hc)]; exact hc
theorem info_partsM {P : Program} {t : TypeId} {z : Value} {s b : Nat} (h : (P.info? t).map (fun i => (i.zero, i.size, i.bytes)) = some (some z, s, b)) : ∃ i, P.info? t = some i ∧ i.zero = some z ∧ i.size = s ∧ i.bytes = b := by
  cases hi : P.info? t with
  | none => rw [hi] at h; cases h
  | some i =>
    rw [hi] at h
    simp only [Option.map_some, Option.some.injEq, Prod.mk.injEq] at h
    exact ⟨i, rfl, h.1, h.2.1, h.2.2⟩
theorem infoInt : (Tryz.prog.info? 3).map (fun i => (i.zero, i.size, i.bytes)) = some (some (.int .i64 0), 1, 8) := by kernel_rfl
theorem infoMeta : (Tryz.prog.info? 113).map (fun i => (i.zero, i.size, i.bytes)) = some (some (.agg #[.int .i64 0, .int .i64 0, .int .i64 0, .slice none 0 0, .slice none 0 0]), 5, 72) := by kernel_rfl
/-- Ints in memory. -/
def inK : Kind Int where
  size := 1
  vals x := [.int .i64 x]
  held _ _ := True
theorem inK_ok : inK.Ok :=
  ⟨by decide, fun _ => rfl, fun e u hu => by
    simp only [inK, List.mem_cons, List.not_mem_nil, or_false] at hu
    rw [hu]; rfl, fun h _ => h⟩
theorem rv_int (zs : List Int) : rv inK zs = zs.map (Value.int .i64) := by
  induction zs with
  | nil => rfl
  | cons a l ih => show [Value.int .i64 a] ++ rv inK l = _; rw [ih]; rfl
/-- Behind the sort: a row of its own, rising. -/
theorem sortInts_own (v : Value) (n B : Nat) (zs : List Int) (w0 w : World) (ho : w.ownsRow B 3 1 v n (zs.map (Value.int .i64))) (hb : Below B w0 w) (hB : B ≤ w.heap.size) (hn : n ≤ 1000000) :
    Calls Tryz.prog 166 #[v] w fun e w' => e = .returned (.tuple #[]) ∧ w'.ownsRow B 3 1 v n ((Ed.rising zs).map (Value.int .i64)) ∧ Below B w0 w' := by
  have hl : zs.length = n := by simpa using ho.1
  rcases ho.2 with ⟨rfl, h0⟩ | ⟨g, cap, cur, rfl, hg, hh, hc, hm, hs, ht⟩
  · subst h0
    refine (sh_slices_Sort_int_none none 0 w).mono ?_
    rintro e w' ⟨rfl, rfl⟩
    obtain rfl : zs = [] := List.length_eq_zero_iff.1 hl
    exact ⟨rfl, by rw [show Ed.rising [] = [] by simp [Ed.rising]]; exact ho, hb⟩
  · have hlt : g < w.heap.size := (Array.getElem?_eq_some_iff.1 hh).1
    have hH := Go.holds_of_blockI (w := w) (g := g) (cur := cur) (e := 3) (ss := zs) hh (by rw [hl]; rw [Nat.mul_one] at ht; exact ht)
    subst hl
    refine (sh_slices_Sort_int g 0 cap zs w hH hlt (by omega)).mono ?_
    rintro e w' ⟨rfl, q, os, rfl⟩
    refine ⟨rfl, Go.ownsRow_sortedI (Ed.rising_length zs) hg hh hc hm hs, ?_⟩
    exact hb.grown (Go.grownBy_sortedI _) hB (fun k hk => by cases hk; exact hg)
set_option maxHeartbeats 2000000 in
set_option maxRecDepth 100000 in
theorem compactInts_own (v : Value) (n B : Nat) (zs : List Int) (w0 w : World) (ho : w.ownsRow B 3 1 v n (zs.map (Value.int .i64))) (hb : Below B w0 w) (hn : n ≤ 1000000) :
    Calls Tryz.prog 167 #[v] w fun e w' => (∃ a c, e = .returned (.slice a (Lib.compact zs).length c)) ∧ Below B w0 w' := by
  have hl : zs.length = n := by simpa using ho.1
  rcases ho.2 with ⟨rfl, h0⟩ | ⟨g, cap, cur, rfl, hg, hh, hc, hm, hs, ht⟩
  · subst h0
    obtain rfl : zs = [] := List.length_eq_zero_iff.1 hl
    refine (sh_slices_Compact_int_empty none 0 w).mono ?_
    rintro e w' ⟨rfl, rfl⟩
    exact ⟨⟨none, 0, rfl⟩, hb⟩
  · have hH := Go.holds_of_blockI (w := w) (g := g) (cur := cur) (e := 3) (ss := zs) hh (by rw [hl]; rw [Nat.mul_one] at ht; exact ht)
    subst hl
    refine (sh_slices_Compact_int g 0 cap zs w hH (by omega) hc).mono ?_
    rintro e w' ⟨rfl, q, rfl⟩
    exact ⟨⟨_, _, rfl⟩, Lib.below_putRow hb hg⟩
theorem nums_more {l : List Nt} {k : Nat} {m : Nt} (h : l[k]? = some m) : Ed.nums (l.take (k + 1)) = Ed.nums (l.take k) ++ [m.num] := by
  unfold Ed.nums
  rw [List.take_add_one, h, List.map_append]
  rfl
set_option maxHeartbeats 2000000 in
set_option maxRecDepth 100000 in
theorem twice_any (ao : Option Addr) (n c : Nat) (es : List MV) (w : World) (hsrc : RSrc metaKind w ao n c es) (hn : n ≤ 1000000) :
    Calls Tryz.prog 115 #[.slice ao n c] w fun e w' => e = .returned (.bool (Ed.twice (es.map (·.m)))) ∧ Below w.heap.size w w' := by
  obtain ⟨j0, ji, jz0, jz1, jz2⟩ := info_partsM infoInt
  have SRC := keep hsrc
  have HN := keep hsrc.len
  have FULL : Hid ((es.map (·.m)).take n = es.map (·.m)) := List.take_of_length_le (by rw [List.length_map, hsrc.len]; exact Nat.le_refl _)
  have NL : Hid ((Ed.nums (es.map (·.m))).length = n) := by show _ = _; unfold Ed.nums; rw [List.length_map, List.length_map]; exact hsrc.len
  clear hsrc
  obtain ⟨tw, htw⟩ : ∃ tw, Ed.twice (es.map (·.m)) = tw := ⟨_, rfl⟩
  have HTW := keep htw
  rw [htw]
  clear htw
  go_enter Tryz.func115, Tryz.ntmps115
  go_wp2
  go_loopw [3, 8] (fun v i wr => ∃ k : Nat, k ≤ n ∧ i = .int .i64 (k : Int) ∧ Hid (wr.ownsRow w.heap.size 3 1 v k ((Ed.nums ((es.map (·.m)).take k)).map (Value.int .i64)) ∧ Below w.heap.size w wr)) (fun _ i _ => n - (intOf i).toNat)
  case atStart => exact ⟨0, Nat.zero_le _, rfl, World.ownsRow_nil _ _ _ _, Below.refl _ _⟩
  case round =>
    obtain ⟨k, hk, rfl, hI⟩ := hrel
    have HB := keep hI.out.2
    by_cases hkn : k < n
    · obtain ⟨b, off, rfl, _, _⟩ := SRC.out.form metaKind_ok (by omega)
      obtain ⟨y, hy⟩ : ∃ y, es[k]? = some y := ⟨es[k]'(by rw [HN.out]; exact hkn), List.getElem?_eq_getElem _⟩
      obtain ⟨p0, p1, p2, p3, p4⟩ := meta_cells (SRC.out.below metaKind_ok HB.out) hy
      have HY : Hid (Ed.nums ((es.map (·.m)).take (k + 1)) = Ed.nums ((es.map (·.m)).take k) ++ [y.m.num]) := nums_more (by rw [List.getElem?_map, hy]; rfl)
      clear hy
      obtain ⟨yfp, yfc, ylp, ylc, ⟨ynum, ylevel, ycount, yfirst, ylast⟩⟩ := y
      simp only at p0 p1 p2 p3 p4 HY
      have ll : (k : Int) < (n : Int) := by omega
      have l0 : (0 : Int) ≤ (k : Int) := by omega
      obtain ⟨W2, hW2⟩ : ∃ W2, wr.alloc (.cells #[.int .i64 ynum, .int .i64 ylevel, .int .i64 ycount, .slice yfp yfirst.length yfc, .slice ylp ylast.length ylc] 113) = W2 := ⟨_, rfl⟩
      have b2 : Hid (Below w.heap.size w W2) := by rw [← hW2]; exact HB.out.alloc HB.out.size _
      have o2 : Hid (W2.ownsRow w.heap.size 3 1 u3 k ((Ed.nums ((es.map (·.m)).take k)).map (Value.int .i64))) := by rw [← hW2]; exact hI.out.1.alloc _
      have c0 : W2.cell? ⟨wr.heap.size, 0, none⟩ = some (.int .i64 ynum) := by rw [← hW2]; exact cell_of_row _ _ _ _ _ _ (heap_alloc_new wr _)
      go_wp2_with (at_builtin; refine wpList_append_own _ rfl _ _ 35 rfl w.heap.size 3 j0 (.int .i64 0) 1 8 Tryz.underlying35 ji jz0 jz1 jz2 rfl (by decide) _ k _ rfl (o2.out.alloc _) ⟨W2.heap.size, 0, none⟩ 1 1 [.int .i64 ynum] rfl rfl (cell_one_new _ _ _) (by simp [Value.oneCell']) (by unfold maxLen; omega) (by omega) (le_alloc b2.out.size _) ?_; intro v3 w3 ho3 hg3 hn3; have O3 := keep ho3; have B3 := keep ((b2.out.alloc b2.out.size _).grown hg3 (le_alloc b2.out.size _) (fun j hj => (o2.out.lt j hj).1)); clear ho3 hg3 hn3)
      go_roundw
      case rel => exact ⟨k + 1, by omega, by go_num, by rw [HY.out, List.map_append]; exact O3.out, B3.out⟩
      case measure => simp [intOf]; omega
    · obtain rfl : k = n := by omega
      have O1 := keep hI.out.1
      rw [FULL.out] at O1
      clear hI
      go_wp2_with fail
      refine (sortInts_own _ k w.heap.size _ w wr O1.out HB.out HB.out.size hn).mono ?_
      rintro e w1 ⟨rfl, ho1, hb1⟩
      have O2 := keep ho1
      have B2 := keep hb1
      clear ho1 hb1 O1 HB
      go_wp2_with fail
      refine (compactInts_own _ k w.heap.size _ w w1 O2.out B2.out hn).mono ?_
      rintro e w2 ⟨⟨a, c2, rfl⟩, hb2⟩
      have B3 := keep hb2
      have E : Hid (decide ((Lib.compact (Ed.rising (Ed.nums (es.map (·.m))))).length < k) = tw) := by
        show _ = _
        rw [← HTW.out]
        unfold Ed.twice
        rw [← Ed.compact_short, NL.out]
      obtain ⟨q, hq⟩ : ∃ q, (Lib.compact (Ed.rising (Ed.nums (es.map (·.m))))).length = q := ⟨_, rfl⟩
      rw [hq] at E
      rw [hq]
      clear hb2 O2 B2 hq FULL NL
      go_wp2
      go_ret
      exact ⟨congrArg (fun b => Ending.returned (.bool b)) E.out, B3.out⟩
end Go.Proofs.YthnebhddakfadaaGreatDoor
