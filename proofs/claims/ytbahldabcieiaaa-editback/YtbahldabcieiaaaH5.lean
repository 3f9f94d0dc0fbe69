/- The walk of slices.IsSortedFunc by a note's order. -/
import Derived.Test.YtbahldabcieiaaaH4
import Derived.Test.YtbahldabcieiaaaHk
import Derived.Deep.RegionHeld3
namespace Go.Proofs.Ytbahldabcieiaaa.Ed
/-- Does the one at j + 1 not go ahead of the one at j? -/
def okS (l : List Nt) (j : Nat) : Bool :=
  match l[j]?, l[j + 1]? with
  | some a, some b => !decide (order b a < 0)
  | _, _ => true
/-- Are notes in order? -/
def sorted (l : List Nt) : Bool := (List.range (l.length - 1)).all (okS l)
theorem sorted_no {l : List Nt} {j : Nat} (hj : j + 1 < l.length) (h : okS l j = false) : sorted l = false := by
  cases hs : sorted l with
  | false => rfl
  | true => rw [List.all_eq_true.1 hs j (List.mem_range.2 (by omega))] at h; cases h
theorem sorted_yes {l : List Nt} (h : ∀ j, j + 1 < l.length → okS l j = true) : sorted l = true := List.all_eq_true.2 (fun j hj => h j (by have := List.mem_range.1 hj; omega))
end Go.Proofs.Ytbahldabcieiaaa.Ed
namespace Go.Proofs.Ytbahldabcieiaaa
open Go.RowKit
open Ed (Nt)

set_option maxHeartbeats 4000000 in
set_option maxRecDepth 100000 in
theorem isSorted_any (ao : Option Addr) (n c : Nat) (es : List MV) (w : World) (hsrc : RSrc metaKind w ao n c es) (hn : n ≤ 1000000) :
    Calls Try.prog 58 #[.slice ao n c, .func (.func 25) #[] #[]] w fun e w' => e = .returned (.bool (Ed.sorted (es.map (·.m)))) ∧ Below w.heap.size w w' := by
  have SRC := keep hsrc
  have HL : Hid (es.length = n) := hsrc.len
  have HML : Hid ((es.map (·.m)).length = n) := by show _ = _; rw [List.length_map]; exact HL.out
  clear hsrc
  rcases Nat.eq_zero_or_pos n with hn0 | hn0
  · subst hn0
    have e : Ed.sorted (es.map (·.m)) = true := Ed.sorted_yes (fun j hj => by rw [HML.out] at hj; omega)
    rw [e]
    clear e
    go_enter Try.func58, Try.ntmps58
    go_wp2
    go_loopw [5] (fun i wr => i = .int .i64 (-1) ∧ wr = w) (fun _ _ => 0)
    case atStart => exact ⟨by first | rfl | go_num, rfl⟩
    case round =>
      obtain ⟨rfl, rfl⟩ := hrel
      go_wp2
      go_ret
      exact ⟨rfl, Below.refl _ _⟩
  · obtain ⟨M, rfl⟩ : ∃ M, n = M + 1 := ⟨n - 1, by omega⟩
    obtain ⟨b, off, rfl, _, _⟩ := SRC.out.form metaKind_ok (by omega)
    have s1 : IntKind.i64.wrap (M : Int) = (M : Int) := wrap_small _ (by omega) (by omega)
    have s2 : ((M + 1 : Nat) : Int) - 1 = (M : Int) := by omega
    have s3 : (M : Int) + 1 - 1 = (M : Int) := by omega
    go_enter Try.func58, Try.ntmps58
    go_wp2
    clear s1 s2 s3
    go_loopw [5] (fun i wr => ∃ q : Nat, q ≤ M ∧ i = .int .i64 (q : Int) ∧ Hid (Below w.heap.size w wr ∧ ∀ j, q ≤ j → j + 1 < M + 1 → Ed.okS (es.map (·.m)) j = true)) (fun i _ => (intOf i).toNat)
    case atStart => exact ⟨M, Nat.le_refl _, by first | rfl | go_num, Below.refl _ _, fun j h1 h2 => by omega⟩
    case round =>
      obtain ⟨q, hq, rfl, hI⟩ := hrel
      rcases Nat.eq_zero_or_pos q with hq0 | hq0
      · subst hq0
        have e : Ed.sorted (es.map (·.m)) = true := Ed.sorted_yes (fun j hj => hI.out.2 j (Nat.zero_le _) (by rw [HML.out] at hj; exact hj))
        have E0 := keep e
        clear e
        go_wp2
        go_ret
        exact ⟨by rw [E0.out]; rfl, hI.out.1⟩
      · obtain ⟨j, rfl⟩ : ∃ j, q = j + 1 := ⟨q - 1, by omega⟩
        have SE : Hid (∀ w', Below wr.heap.size wr w' → RSrc metaKind w' (some ⟨b, off, none⟩) (M + 1) c es) := fun w' hb => SRC.out.below metaKind_ok (hI.out.1.trans (hb.mono hI.out.1.size))
        obtain ⟨x, hx⟩ : ∃ x, es[j + 1]? = some x := ⟨es[j + 1]'(by rw [HL.out]; omega), List.getElem?_eq_getElem _⟩
        obtain ⟨y, hy⟩ : ∃ y, es[j]? = some y := ⟨es[j]'(by rw [HL.out]; omega), List.getElem?_eq_getElem _⟩
        have CX : Hid (∀ w', Below wr.heap.size wr w' → _) := fun w' hb => meta_cells (SE.out w' hb) hx
        have CY : Hid (∀ w', Below wr.heap.size wr w' → _) := fun w' hb => meta_cells (SE.out w' hb) hy
        have OR : Hid (∀ w', Below wr.heap.size wr w' → _) := fun w' hb => order_any x y w' ((SE.out w' hb).held x (List.mem_of_getElem? hx)) ((SE.out w' hb).held y (List.mem_of_getElem? hy))
        have OKS : Hid (Ed.okS (es.map (·.m)) j = !decide (Ed.order x.m y.m < 0)) := by
          show _ = _
          unfold Ed.okS
          rw [List.getElem?_map, List.getElem?_map, hx, hy]
          rfl
        obtain ⟨o, ho⟩ : ∃ o, Ed.order x.m y.m = o := ⟨_, rfl⟩
        rw [ho] at OR OKS
        clear hx hy ho
        obtain ⟨xfp, xfc, xlp, xlc, ⟨xnum, xlevel, xcount, xfirst, xlast⟩⟩ := x
        obtain ⟨yfp, yfc, ylp, ylc, ⟨ynum, ylevel, ycount, yfirst, ylast⟩⟩ := y
        unfold mv at OR
        simp only at CX CY OR
        have lg : (0 : Int) < ((j + 1 : Nat) : Int) := by omega
        have lg2 : (0 : Int) < (j : Int) + 1 := by omega
        have t1 : IntKind.i64.wrap (j : Int) = (j : Int) := wrap_small _ (by omega) (by omega)
        have t2 : ((j + 1 : Nat) : Int) - 1 = (j : Int) := by omega
        have t2b : (j : Int) + 1 - 1 = (j : Int) := by omega
        have t3 : (j : Int) < ((M + 1 : Nat) : Int) := by omega
        have t3b : (j : Int) < (M : Int) + 1 := by omega
        have t4 : (0 : Int) ≤ (j : Int) := by omega
        have t5 : ((j + 1 : Nat) : Int) < ((M + 1 : Nat) : Int) := by omega
        have t5b : (j : Int) + 1 < (M : Int) + 1 := by omega
        have t6 : (0 : Int) ≤ (j : Int) + 1 := by omega
        have t7 : j < M := by omega
        by_cases hlt : o < 0
        · have dl : decide (o < 0) = true := decide_eq_true hlt
          have e : Ed.sorted (es.map (·.m)) = false := Ed.sorted_no (j := j) (by rw [HML.out]; omega) (by rw [OKS.out, dl]; rfl)
          have E0 := keep e
          clear e
          go_wp2_with fail
          refine wp_region_held_drew (S := fun w' => Below wr.heap.size wr w') (by kernel_rfl) ((Below.refl _ _).drew) (fun hHeld => ?_)
          refine takeH (i := 0) 13 (v := .func (.func 25) #[] #[]) rfl rfl (by kernel_rfl) (by kernel_rfl) (by kernel_rfl) (fun _ _ _ h => h) (Or.inl ⟨by rfl, ?_⟩) (by assumption) ?_
          · intro w' hSw'
            go_simp
          simp only [Act.put, List.setIfInBounds_toArray, List.set_cons_zero, List.set_cons_succ]
          refine takeH (i := 1) 14 (v := .slice (some ⟨b, off, none⟩) (M + 1) c) rfl rfl (by kernel_rfl) (by kernel_rfl) (by kernel_rfl) (fun _ _ _ h => h) (Or.inl ⟨by rfl, ?_⟩) (by assumption) ?_
          · intro w' hSw'
            go_simp
          simp only [Act.put, List.setIfInBounds_toArray, List.set_cons_zero, List.set_cons_succ]
          refine takeH (i := 2) 15 (v := .int .i64 ((j + 1 : Nat) : Int)) rfl rfl (by kernel_rfl) (by kernel_rfl) (by kernel_rfl) (fun _ _ _ h => h) (Or.inl ⟨by rfl, ?_⟩) (by assumption) ?_
          · intro w' hSw'
            go_simp
          simp only [Act.put, List.setIfInBounds_toArray, List.set_cons_zero, List.set_cons_succ]
          refine takeH (i := 3) 16 (v := .pointer (some ⟨b, off + (j + 1) * 5, none⟩)) rfl rfl (by kernel_rfl) (by kernel_rfl) (by kernel_rfl) (fun _ _ _ h => h) (Or.inl ⟨by rfl, ?_⟩) (by assumption) ?_
          · intro w' hSw'
            go_simp
          simp only [Act.put, List.setIfInBounds_toArray, List.set_cons_zero, List.set_cons_succ]
          refine takeH (i := 4) 17 (v := .agg #[.int .i64 xnum, .int .i64 xlevel, .int .i64 xcount, .slice xfp xfirst.length xfc, .slice xlp xlast.length xlc]) rfl rfl (by kernel_rfl) (by kernel_rfl) (by kernel_rfl) (fun _ _ _ h => h) (Or.inl ⟨by rfl, ?_⟩) (by assumption) ?_
          · intro w' hSw'
            obtain ⟨d0, d1, d2, d3, d4⟩ := CX.out w' hSw'
            go_simp
          simp only [Act.put, List.setIfInBounds_toArray, List.set_cons_zero, List.set_cons_succ]
          refine takeH (i := 5) 18 (v := .slice (some ⟨b, off, none⟩) (M + 1) c) rfl rfl (by kernel_rfl) (by kernel_rfl) (by kernel_rfl) (fun _ _ _ h => h) (Or.inl ⟨by rfl, ?_⟩) (by assumption) ?_
          · intro w' hSw'
            go_simp
          simp only [Act.put, List.setIfInBounds_toArray, List.set_cons_zero, List.set_cons_succ]
          refine takeH (i := 6) 19 (v := .int .i64 ((j + 1 : Nat) : Int)) rfl rfl (by kernel_rfl) (by kernel_rfl) (by kernel_rfl) (fun _ _ _ h => h) (Or.inl ⟨by rfl, ?_⟩) (by assumption) ?_
          · intro w' hSw'
            go_simp
          simp only [Act.put, List.setIfInBounds_toArray, List.set_cons_zero, List.set_cons_succ]
          refine takeH (i := 7) 20 (v := .int .i64 (j : Int)) rfl rfl (by kernel_rfl) (by kernel_rfl) (by kernel_rfl) (fun _ _ _ h => h) (Or.inl ⟨by rfl, ?_⟩) (by assumption) ?_
          · intro w' hSw'
            go_simp
          simp only [Act.put, List.setIfInBounds_toArray, List.set_cons_zero, List.set_cons_succ]
          refine takeH (i := 8) 21 (v := .pointer (some ⟨b, off + j * 5, none⟩)) rfl rfl (by kernel_rfl) (by kernel_rfl) (by kernel_rfl) (fun _ _ _ h => h) (Or.inl ⟨by rfl, ?_⟩) (by assumption) ?_
          · intro w' hSw'
            go_simp
          simp only [Act.put, List.setIfInBounds_toArray, List.set_cons_zero, List.set_cons_succ]
          refine takeH (i := 9) 0x16 (v := .agg #[.int .i64 ynum, .int .i64 ylevel, .int .i64 ycount, .slice yfp yfirst.length yfc, .slice ylp ylast.length ylc]) rfl rfl (by kernel_rfl) (by kernel_rfl) (by kernel_rfl) (fun _ _ _ h => h) (Or.inl ⟨by rfl, ?_⟩) (by assumption) ?_
          · intro w' hSw'
            obtain ⟨d0, d1, d2, d3, d4⟩ := CY.out w' hSw'
            go_simp
          simp only [Act.put, List.setIfInBounds_toArray, List.set_cons_zero, List.set_cons_succ]
          refine wpAnyH_ready (rs := [10]) (by kernel_rfl) (by simp) ?_
          refine AllReadyH.cons rfl (fun K hK => ?_) AllReadyH.nil
          go_simp
          refine (OR.out _ (Below.refl _ _).drew).mono ?_
          rintro e w7 ⟨rfl, hb7⟩
          have b7 : Hid (Below wr.heap.size wr w7) := ((Below.refl _ _).drew).trans (hb7.mono (Nat.le_refl _))
          clear hb7
          go_wp2_with fail
          refine hK.out _ _ (b7.out) (fun hHeld1 => ?_)
          clear hK K
          refine takeH (i := 11) 24 (v := .bool true) rfl rfl (by kernel_rfl) (by kernel_rfl) (by kernel_rfl) (fun _ _ _ h => h) (Or.inl ⟨by rfl, ?_⟩) (by assumption) ?_
          · intro w' hSw'
            go_simp
          simp only [Act.put, List.setIfInBounds_toArray, List.set_cons_zero, List.set_cons_succ]
          refine wpAnyH_done (by kernel_rfl) ?_ _
          go_wp2
          go_ret
          exact ⟨by rw [E0.out]; rfl, hI.out.1.trans (b7.out.mono hI.out.1.size)⟩
        · have dl : decide (o < 0) = false := decide_eq_false hlt
          have HO : Hid (Ed.okS (es.map (·.m)) j = true) := by show _ = _; rw [OKS.out, dl]; rfl
          go_wp2_with fail
          refine wp_region_held_drew (S := fun w' => Below wr.heap.size wr w') (by kernel_rfl) ((Below.refl _ _).drew) (fun hHeld => ?_)
          refine takeH (i := 0) 13 (v := .func (.func 25) #[] #[]) rfl rfl (by kernel_rfl) (by kernel_rfl) (by kernel_rfl) (fun _ _ _ h => h) (Or.inl ⟨by rfl, ?_⟩) (by assumption) ?_
          · intro w' hSw'
            go_simp
          simp only [Act.put, List.setIfInBounds_toArray, List.set_cons_zero, List.set_cons_succ]
          refine takeH (i := 1) 14 (v := .slice (some ⟨b, off, none⟩) (M + 1) c) rfl rfl (by kernel_rfl) (by kernel_rfl) (by kernel_rfl) (fun _ _ _ h => h) (Or.inl ⟨by rfl, ?_⟩) (by assumption) ?_
          · intro w' hSw'
            go_simp
          simp only [Act.put, List.setIfInBounds_toArray, List.set_cons_zero, List.set_cons_succ]
          refine takeH (i := 2) 15 (v := .int .i64 ((j + 1 : Nat) : Int)) rfl rfl (by kernel_rfl) (by kernel_rfl) (by kernel_rfl) (fun _ _ _ h => h) (Or.inl ⟨by rfl, ?_⟩) (by assumption) ?_
          · intro w' hSw'
            go_simp
          simp only [Act.put, List.setIfInBounds_toArray, List.set_cons_zero, List.set_cons_succ]
          refine takeH (i := 3) 16 (v := .pointer (some ⟨b, off + (j + 1) * 5, none⟩)) rfl rfl (by kernel_rfl) (by kernel_rfl) (by kernel_rfl) (fun _ _ _ h => h) (Or.inl ⟨by rfl, ?_⟩) (by assumption) ?_
          · intro w' hSw'
            go_simp
          simp only [Act.put, List.setIfInBounds_toArray, List.set_cons_zero, List.set_cons_succ]
          refine takeH (i := 4) 17 (v := .agg #[.int .i64 xnum, .int .i64 xlevel, .int .i64 xcount, .slice xfp xfirst.length xfc, .slice xlp xlast.length xlc]) rfl rfl (by kernel_rfl) (by kernel_rfl) (by kernel_rfl) (fun _ _ _ h => h) (Or.inl ⟨by rfl, ?_⟩) (by assumption) ?_
          · intro w' hSw'
            obtain ⟨d0, d1, d2, d3, d4⟩ := CX.out w' hSw'
            go_simp
          simp only [Act.put, List.setIfInBounds_toArray, List.set_cons_zero, List.set_cons_succ]
          refine takeH (i := 5) 18 (v := .slice (some ⟨b, off, none⟩) (M + 1) c) rfl rfl (by kernel_rfl) (by kernel_rfl) (by kernel_rfl) (fun _ _ _ h => h) (Or.inl ⟨by rfl, ?_⟩) (by assumption) ?_
          · intro w' hSw'
            go_simp
          simp only [Act.put, List.setIfInBounds_toArray, List.set_cons_zero, List.set_cons_succ]
          refine takeH (i := 6) 19 (v := .int .i64 ((j + 1 : Nat) : Int)) rfl rfl (by kernel_rfl) (by kernel_rfl) (by kernel_rfl) (fun _ _ _ h => h) (Or.inl ⟨by rfl, ?_⟩) (by assumption) ?_
          · intro w' hSw'
            go_simp
          simp only [Act.put, List.setIfInBounds_toArray, List.set_cons_zero, List.set_cons_succ]
          refine takeH (i := 7) 20 (v := .int .i64 (j : Int)) rfl rfl (by kernel_rfl) (by kernel_rfl) (by kernel_rfl) (fun _ _ _ h => h) (Or.inl ⟨by rfl, ?_⟩) (by assumption) ?_
          · intro w' hSw'
            go_simp
          simp only [Act.put, List.setIfInBounds_toArray, List.set_cons_zero, List.set_cons_succ]
          refine takeH (i := 8) 21 (v := .pointer (some ⟨b, off + j * 5, none⟩)) rfl rfl (by kernel_rfl) (by kernel_rfl) (by kernel_rfl) (fun _ _ _ h => h) (Or.inl ⟨by rfl, ?_⟩) (by assumption) ?_
          · intro w' hSw'
            go_simp
          simp only [Act.put, List.setIfInBounds_toArray, List.set_cons_zero, List.set_cons_succ]
          refine takeH (i := 9) 0x16 (v := .agg #[.int .i64 ynum, .int .i64 ylevel, .int .i64 ycount, .slice yfp yfirst.length yfc, .slice ylp ylast.length ylc]) rfl rfl (by kernel_rfl) (by kernel_rfl) (by kernel_rfl) (fun _ _ _ h => h) (Or.inl ⟨by rfl, ?_⟩) (by assumption) ?_
          · intro w' hSw'
            obtain ⟨d0, d1, d2, d3, d4⟩ := CY.out w' hSw'
            go_simp
          simp only [Act.put, List.setIfInBounds_toArray, List.set_cons_zero, List.set_cons_succ]
          refine wpAnyH_ready (rs := [10]) (by kernel_rfl) (by simp) ?_
          refine AllReadyH.cons rfl (fun K hK => ?_) AllReadyH.nil
          go_simp
          refine (OR.out _ (Below.refl _ _).drew).mono ?_
          rintro e w7 ⟨rfl, hb7⟩
          have b7 : Hid (Below wr.heap.size wr w7) := ((Below.refl _ _).drew).trans (hb7.mono (Nat.le_refl _))
          clear hb7
          go_wp2_with fail
          refine hK.out _ _ (b7.out) (fun hHeld1 => ?_)
          clear hK K
          refine takeH (i := 11) 24 (v := .bool false) rfl rfl (by kernel_rfl) (by kernel_rfl) (by kernel_rfl) (fun _ _ _ h => h) (Or.inl ⟨by rfl, ?_⟩) (by assumption) ?_
          · intro w' hSw'
            go_simp
          simp only [Act.put, List.setIfInBounds_toArray, List.set_cons_zero, List.set_cons_succ]
          refine wpAnyH_done (by kernel_rfl) ?_ _
          go_wp2
          go_roundw
          case rel => exact ⟨j, by omega, by first | rfl | go_num, hI.out.1.trans (b7.out.mono hI.out.1.size), fun i h1 h2 => by
            rcases Nat.lt_or_ge j i with h | h
            · exact hI.out.2 i (by omega) h2
            · obtain rfl : i = j := by omega
              exact HO.out⟩
          case measure => first | (simp [intOf]; done) | (simp [intOf]; omega)
end Go.Proofs.Ytbahldabcieiaaa
