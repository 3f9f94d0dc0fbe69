/- The walk of the document's put of a note. -/
import Derived.Test.YtbahldabcieiaaaRq1
import Derived.Test.YtbahldabcieiaaaRr
import Derived.Test.YtbahldabcieiaaaRc1
import Derived.BigQuiet
namespace Go.Proofs.Ytbahldabcieiaaa
open Go.RowKit
open Ed (Nt)

theorem infoNoteR : (Try.prog.info? 61).map (fun i => (i.zero, i.size, i.bytes)) = some (some (.agg #[.int .i64 0, .int .i64 0, .int .i64 0, .slice none 0 0, .slice none 0 0]), 5, 72) := by kernel_rfl
/-- What put answers. -/
def PutA (ys : List MV) (y : MV) (n : Nat) (w : World) (e : Ending) (w' : World) : Prop := ∃ a' m' c' k, e = .returned (.slice a' m' c') ∧ w'.ownsRow w.heap.size 61 5 (.slice a' m' c') m' (rv metaKind (ys.take k ++ [y] ++ ys.drop k)) ∧ RSrc metaKind w' a' m' c' (ys.take k ++ [y] ++ ys.drop k) ∧ 0 < m' ∧ c' ≤ maxLen ∧ k ≤ n ∧ (∀ (j : Nat) (x : MV), j < k → ys[j]? = some x → Ed.rahead x.m y.m = true) ∧ (∀ x, ys[k]? = some x → Ed.rahead x.m y.m = false) ∧ Below w.heap.size w w'
set_option maxHeartbeats 2500000 in
set_option maxRecDepth 100000 in
theorem rmput_any (ao : Option Addr) (n c : Nat) (ys : List MV) (y : MV) (w : World) (hs : RSrc metaKind w ao n c ys) (hn : n ≤ 1000000) (hc : c ≤ maxLen) (hz : 0 < n ∨ c = 0) (hy : metaKind.held w y) (hsm : ∀ x ∈ ys, x.m.first.length ≤ 140737488355328) (hym : y.m.first.length ≤ 140737488355328) :
    Calls Try.prog 29 #[.slice ao n c, mv y] w (PutA ys y n w) := by
  obtain ⟨i0, hi0, hz0, hz1, hz2⟩ := info_partsM infoNoteR
  have HS := keep hs
  have HLEN := keep hs.len
  have hcap := hs.cap
  have SM := keep hsm
  have HZ := keep hz
  unfold maxLen at hc
  have HH : Hid (∀ x ∈ ys, ∀ w', Below w.heap.size w w' → metaKind.held w' x) := fun x hx w' hb => metaKind_ok.below (hs.held x hx) hb
  have YM := keep hym
  obtain ⟨yfp, yfc, ylp, ylc, ⟨ynum, ylevel, ycount, yfirst, ylast⟩⟩ := y
  obtain ⟨W1, hW1⟩ : ∃ W1, w.alloc (.cells #[.int .i64 ynum, .int .i64 ylevel, .int .i64 ycount, .slice yfp yfirst.length yfc, .slice ylp ylast.length ylc] 61) = W1 := ⟨_, rfl⟩
  have b1 : Hid (Below w.heap.size w W1) := by rw [← hW1]; exact (Below.refl _ _).alloc (Nat.le_refl _) _
  have g1 : Hid (W1.heap[w.heap.size]? = some (.cells #[.int .i64 ynum, .int .i64 ylevel, .int .i64 ycount, .slice yfp yfirst.length yfc, .slice ylp ylast.length ylc] 61)) := by rw [← hW1]; exact heap_alloc_new w _
  have s1 : Hid (w.heap.size < W1.heap.size) := by rw [← hW1]; show _ < _; simp
  have YH := keep (metaKind_ok.below hy b1.out)
  obtain ⟨E0, hE0⟩ : ∃ E0, w.heap.size = E0 := ⟨_, rfl⟩
  unfold mv
  simp only at YM YH ⊢
  clear hs hz hsm hym hy
  go_enter Try.func29, Try.ntmps29
  go_wp2
  rw [hE0] at g1
  go_loopw [5] (fun i wr => ∃ k : Nat, k ≤ n ∧ i = .int .i64 (k : Int) ∧ Hid (Below W1.heap.size W1 wr ∧ ∀ (j : Nat) (x : MV), j < k → ys[j]? = some x → Ed.rahead x.m ⟨ynum, ylevel, ycount, yfirst, ylast⟩ = true)) (fun i _ => n - (intOf i).toNat)
  case atStart => exact ⟨0, Nat.zero_le _, rfl, Below.refl _ _, fun j x hj => by omega⟩
  case round =>
    obtain ⟨k, hk, rfl, hI⟩ := hrel
    have HB := keep hI.out.1
    have HA := keep hI.out.2
    have BW0 := keep (b1.out.trans (HB.out.mono b1.out.size))
    have SR := keep (HS.out.below metaKind_ok BW0.out)
    have YR := keep (metaKind_ok.below YH.out HB.out)
    have gE : Hid (wr.heap[E0]? = some (.cells #[.int .i64 ynum, .int .i64 ylevel, .int .i64 ycount, .slice yfp yfirst.length yfc, .slice ylp ylast.length ylc] 61)) := (HB.out.block E0 (by rw [← hE0]; exact s1.out)).trans g1.out
    have CYV : Hid (∀ w', Below wr.heap.size wr w' → w'.cell? ⟨E0, 0, none⟩ = some (.int .i64 ynum) ∧ w'.cell? ⟨E0, 1, none⟩ = some (.int .i64 ylevel) ∧ w'.cell? ⟨E0, 2, none⟩ = some (.int .i64 ycount) ∧ w'.cell? ⟨E0, 3, none⟩ = some (.slice yfp yfirst.length yfc) ∧ w'.cell? ⟨E0, 4, none⟩ = some (.slice ylp ylast.length ylc)) := fun w' hb => by
      have h := (hb.block E0 (Array.getElem?_eq_some_iff.1 gE.out).1).trans gE.out
      exact ⟨cell_of_row _ _ _ _ _ _ h, cell_of_row _ _ _ _ _ _ h, cell_of_row _ _ _ _ _ _ h, cell_of_row _ _ _ _ _ _ h, cell_of_row _ _ _ _ _ _ h⟩
    by_cases hkn : k < n
    · obtain ⟨b, off, rfl, _, _⟩ := SR.out.form metaKind_ok (by omega)
      obtain ⟨x, hx⟩ : ∃ x, ys[k]? = some x := ⟨ys[k]'(by rw [HLEN.out]; exact hkn), List.getElem?_eq_getElem _⟩
      have HX := keep hx
      have xm := List.mem_of_getElem? hx
      have CX0 : ∀ w', Below wr.heap.size wr w' → _ := fun w' hb => meta_cells (SR.out.below metaKind_ok hb) hx
      have CX := keep CX0
      have IA : Hid (∀ w', Below wr.heap.size wr w' → Calls Try.prog 52 #[mv x, mv ⟨yfp, yfc, ylp, ylc, ⟨ynum, ylevel, ycount, yfirst, ylast⟩⟩] w' fun e w'' => e = .returned (.bool (Ed.rahead x.m ⟨ynum, ylevel, ycount, yfirst, ylast⟩)) ∧ Below wr.heap.size wr w'') := fun w' hb => by
        refine (rahead_any x ⟨yfp, yfc, ylp, ylc, ⟨ynum, ylevel, ycount, yfirst, ylast⟩⟩ w' (metaKind_ok.below (SR.out.held x xm) hb) (metaKind_ok.below YR.out hb) (SM.out x xm) YM.out).mono ?_
        rintro e w'' ⟨rfl, hb'⟩
        exact ⟨rfl, hb.trans (hb'.mono hb.size)⟩
      obtain ⟨r, hr⟩ : ∃ r, Ed.rahead x.m ⟨ynum, ylevel, ycount, yfirst, ylast⟩ = r := ⟨_, rfl⟩
      have HR := keep hr
      rw [hr] at IA
      have HLT : Hid (decide ((k : Int) < (n : Int)) = true) := decide_eq_true (by omega)
      have ll : (k : Int) < (n : Int) := by omega
      have l0 : (0 : Int) ≤ (k : Int) := by omega
      clear hx xm hr CX0
      obtain ⟨xfp, xfc, xlp, xlc, ⟨xnum, xlevel, xcount, xfirst, xlast⟩⟩ := x
      unfold mv at IA
      simp only at IA CX
      cases r with
      | true =>
        go_wp2_with fail
        refine wp_region_held_drew (S := fun w' => Below wr.heap.size wr w') (by kernel_rfl) ((Below.refl _ _).drew) (fun hZ => ?_)
        refine takeH (i := 0) 6 (v := .int .i64 (k : Int)) rfl rfl (by kernel_rfl) (by kernel_rfl) (by kernel_rfl) (fun _ _ _ h => h) (Or.inl ⟨by rfl, ?_⟩) (by assumption) ?_
        · intro w' hSw'
          go_simp
        simp only [Act.put, List.setIfInBounds_toArray, List.set_cons_zero, List.set_cons_succ]
        refine takeH (i := 1) 7 (v := .slice (some ⟨b, off, none⟩) n c) rfl rfl (by kernel_rfl) (by kernel_rfl) (by kernel_rfl) (fun _ _ _ h => h) (Or.inl ⟨by rfl, ?_⟩) (by assumption) ?_
        · intro w' hSw'
          go_simp
        simp only [Act.put, List.setIfInBounds_toArray, List.set_cons_zero, List.set_cons_succ]
        refine takeH (i := 2) 8 (v := .int .i64 (n : Int)) rfl rfl (by kernel_rfl) (by kernel_rfl) (by kernel_rfl) (fun _ _ _ h => h) (Or.inl ⟨by rfl, ?_⟩) (by assumption) ?_
        · intro w' hSw'
          go_simp
        simp only [Act.put, List.setIfInBounds_toArray, List.set_cons_zero, List.set_cons_succ]
        refine takeH (i := 3) 9 (v := .bool true) rfl rfl (by kernel_rfl) (by kernel_rfl) (by kernel_rfl) (fun _ _ _ h => h) (Or.inl ⟨by rfl, ?_⟩) (by assumption) ?_
        · intro w' hSw'
          have q9 := HLT.out
          go_simp
        simp only [Act.put, List.setIfInBounds_toArray, List.set_cons_zero, List.set_cons_succ]
        refine takeH (i := 4) 10 (v := .bool true) rfl rfl (by kernel_rfl) (by kernel_rfl) (by kernel_rfl) (fun _ _ _ h => h) (Or.inl ⟨by rfl, ?_⟩) (by assumption) ?_
        · intro w' hSw'
          go_simp
        simp only [Act.put, List.setIfInBounds_toArray, List.set_cons_zero, List.set_cons_succ]
        refine takeH (i := 5) 11 (v := .slice (some ⟨b, off, none⟩) n c) rfl rfl (by kernel_rfl) (by kernel_rfl) (by kernel_rfl) (fun _ _ _ h => h) (Or.inl ⟨by rfl, ?_⟩) (by assumption) ?_
        · intro w' hSw'
          go_simp
        simp only [Act.put, List.setIfInBounds_toArray, List.set_cons_zero, List.set_cons_succ]
        refine takeH (i := 6) 12 (v := .int .i64 (k : Int)) rfl rfl (by kernel_rfl) (by kernel_rfl) (by kernel_rfl) (fun _ _ _ h => h) (Or.inl ⟨by rfl, ?_⟩) (by assumption) ?_
        · intro w' hSw'
          go_simp
        simp only [Act.put, List.setIfInBounds_toArray, List.set_cons_zero, List.set_cons_succ]
        refine takeH (i := 7) 13 (v := .pointer (some ⟨b, off + k * 5, none⟩)) rfl rfl (by kernel_rfl) (by kernel_rfl) (by kernel_rfl) (fun _ _ _ h => h) (Or.inl ⟨by rfl, ?_⟩) (by assumption) ?_
        · intro w' hSw'
          go_simp
        simp only [Act.put, List.setIfInBounds_toArray, List.set_cons_zero, List.set_cons_succ]
        refine takeH (i := 8) 14 (v := .agg #[.int .i64 xnum, .int .i64 xlevel, .int .i64 xcount, .slice xfp xfirst.length xfc, .slice xlp xlast.length xlc]) rfl rfl (by kernel_rfl) (by kernel_rfl) (by kernel_rfl) (fun _ _ _ h => h) (Or.inl ⟨by rfl, ?_⟩) (by assumption) ?_
        · intro w' hSw'
          obtain ⟨y0, y1, y2, y3, y4⟩ := CX.out w' hSw'
          go_simp
        simp only [Act.put, List.setIfInBounds_toArray, List.set_cons_zero, List.set_cons_succ]
        refine takeH (i := 9) 15 (v := .agg #[.int .i64 ynum, .int .i64 ylevel, .int .i64 ycount, .slice yfp yfirst.length yfc, .slice ylp ylast.length ylc]) rfl rfl (by kernel_rfl) (by kernel_rfl) (by kernel_rfl) (fun _ _ _ h => h) (Or.inl ⟨by rfl, ?_⟩) (by assumption) ?_
        · intro w' hSw'
          obtain ⟨y0, y1, y2, y3, y4⟩ := CYV.out w' hSw'
          go_simp
        simp only [Act.put, List.setIfInBounds_toArray, List.set_cons_zero, List.set_cons_succ]
        refine wpAnyH_ready (rs := [10]) (by kernel_rfl) (by simp) ?_
        refine AllReadyH.cons rfl (fun K hK => ?_) AllReadyH.nil
        go_simp
        refine (IA.out _ (Below.refl _ _).drew).mono ?_
        rintro e w4 ⟨rfl, hb4⟩
        have b4 := keep hb4
        clear hb4
        go_wp2_with fail
        refine hK.out _ _ (b4.out) (fun hZ1 => ?_)
        clear hK K
        refine takeH (i := 11) 17 (v := .bool true) rfl rfl (by kernel_rfl) (by kernel_rfl) (by kernel_rfl) (fun _ _ _ h => h) (Or.inl ⟨by rfl, ?_⟩) (by assumption) ?_
        · intro w' hSw'
          go_simp
        simp only [Act.put, List.setIfInBounds_toArray, List.set_cons_zero, List.set_cons_succ]
        refine wpAnyH_done (by kernel_rfl) ?_ _
        have BF := keep (HB.out.trans (b4.out.mono HB.out.size))
        go_wp2
        go_roundw
        case rel => exact ⟨k + 1, by omega, by go_num, BF.out, fun j x hj h => by
          rcases Nat.lt_or_ge j k with h1 | h1
          · exact HA.out j x h1 h
          · obtain rfl : j = k := by omega
            rw [HX.out] at h
            cases h
            exact HR.out⟩
        case measure => simp [intOf]; omega
      | false =>
        have HN : Hid (∀ x, ys[k]? = some x → Ed.rahead x.m ⟨ynum, ylevel, ycount, yfirst, ylast⟩ = false) := fun x h => by
          rw [HX.out] at h
          cases h
          exact HR.out
        go_wp2_with fail
        refine wp_region_held_drew (S := fun w' => Below wr.heap.size wr w') (by kernel_rfl) ((Below.refl _ _).drew) (fun hZ => ?_)
        refine takeH (i := 0) 6 (v := .int .i64 (k : Int)) rfl rfl (by kernel_rfl) (by kernel_rfl) (by kernel_rfl) (fun _ _ _ h => h) (Or.inl ⟨by rfl, ?_⟩) (by assumption) ?_
        · intro w' hSw'
          go_simp
        simp only [Act.put, List.setIfInBounds_toArray, List.set_cons_zero, List.set_cons_succ]
        refine takeH (i := 1) 7 (v := .slice (some ⟨b, off, none⟩) n c) rfl rfl (by kernel_rfl) (by kernel_rfl) (by kernel_rfl) (fun _ _ _ h => h) (Or.inl ⟨by rfl, ?_⟩) (by assumption) ?_
        · intro w' hSw'
          go_simp
        simp only [Act.put, List.setIfInBounds_toArray, List.set_cons_zero, List.set_cons_succ]
        refine takeH (i := 2) 8 (v := .int .i64 (n : Int)) rfl rfl (by kernel_rfl) (by kernel_rfl) (by kernel_rfl) (fun _ _ _ h => h) (Or.inl ⟨by rfl, ?_⟩) (by assumption) ?_
        · intro w' hSw'
          go_simp
        simp only [Act.put, List.setIfInBounds_toArray, List.set_cons_zero, List.set_cons_succ]
        refine takeH (i := 3) 9 (v := .bool true) rfl rfl (by kernel_rfl) (by kernel_rfl) (by kernel_rfl) (fun _ _ _ h => h) (Or.inl ⟨by rfl, ?_⟩) (by assumption) ?_
        · intro w' hSw'
          have q9 := HLT.out
          go_simp
        simp only [Act.put, List.setIfInBounds_toArray, List.set_cons_zero, List.set_cons_succ]
        refine takeH (i := 4) 10 (v := .bool true) rfl rfl (by kernel_rfl) (by kernel_rfl) (by kernel_rfl) (fun _ _ _ h => h) (Or.inl ⟨by rfl, ?_⟩) (by assumption) ?_
        · intro w' hSw'
          go_simp
        simp only [Act.put, List.setIfInBounds_toArray, List.set_cons_zero, List.set_cons_succ]
        refine takeH (i := 5) 11 (v := .slice (some ⟨b, off, none⟩) n c) rfl rfl (by kernel_rfl) (by kernel_rfl) (by kernel_rfl) (fun _ _ _ h => h) (Or.inl ⟨by rfl, ?_⟩) (by assumption) ?_
        · intro w' hSw'
          go_simp
        simp only [Act.put, List.setIfInBounds_toArray, List.set_cons_zero, List.set_cons_succ]
        refine takeH (i := 6) 12 (v := .int .i64 (k : Int)) rfl rfl (by kernel_rfl) (by kernel_rfl) (by kernel_rfl) (fun _ _ _ h => h) (Or.inl ⟨by rfl, ?_⟩) (by assumption) ?_
        · intro w' hSw'
          go_simp
        simp only [Act.put, List.setIfInBounds_toArray, List.set_cons_zero, List.set_cons_succ]
        refine takeH (i := 7) 13 (v := .pointer (some ⟨b, off + k * 5, none⟩)) rfl rfl (by kernel_rfl) (by kernel_rfl) (by kernel_rfl) (fun _ _ _ h => h) (Or.inl ⟨by rfl, ?_⟩) (by assumption) ?_
        · intro w' hSw'
          go_simp
        simp only [Act.put, List.setIfInBounds_toArray, List.set_cons_zero, List.set_cons_succ]
        refine takeH (i := 8) 14 (v := .agg #[.int .i64 xnum, .int .i64 xlevel, .int .i64 xcount, .slice xfp xfirst.length xfc, .slice xlp xlast.length xlc]) rfl rfl (by kernel_rfl) (by kernel_rfl) (by kernel_rfl) (fun _ _ _ h => h) (Or.inl ⟨by rfl, ?_⟩) (by assumption) ?_
        · intro w' hSw'
          obtain ⟨y0, y1, y2, y3, y4⟩ := CX.out w' hSw'
          go_simp
        simp only [Act.put, List.setIfInBounds_toArray, List.set_cons_zero, List.set_cons_succ]
        refine takeH (i := 9) 15 (v := .agg #[.int .i64 ynum, .int .i64 ylevel, .int .i64 ycount, .slice yfp yfirst.length yfc, .slice ylp ylast.length ylc]) rfl rfl (by kernel_rfl) (by kernel_rfl) (by kernel_rfl) (fun _ _ _ h => h) (Or.inl ⟨by rfl, ?_⟩) (by assumption) ?_
        · intro w' hSw'
          obtain ⟨y0, y1, y2, y3, y4⟩ := CYV.out w' hSw'
          go_simp
        simp only [Act.put, List.setIfInBounds_toArray, List.set_cons_zero, List.set_cons_succ]
        refine wpAnyH_ready (rs := [10]) (by kernel_rfl) (by simp) ?_
        refine AllReadyH.cons rfl (fun K hK => ?_) AllReadyH.nil
        go_simp
        refine (IA.out _ (Below.refl _ _).drew).mono ?_
        rintro e w4 ⟨rfl, hb4⟩
        have b4 := keep hb4
        clear hb4
        go_wp2_with fail
        refine hK.out _ _ (b4.out) (fun hZ1 => ?_)
        clear hK K
        refine takeH (i := 11) 17 (v := .bool false) rfl rfl (by kernel_rfl) (by kernel_rfl) (by kernel_rfl) (fun _ _ _ h => h) (Or.inl ⟨by rfl, ?_⟩) (by assumption) ?_
        · intro w' hSw'
          go_simp
        simp only [Act.put, List.setIfInBounds_toArray, List.set_cons_zero, List.set_cons_succ]
        refine wpAnyH_done (by kernel_rfl) ?_ _
        obtain ⟨wz, hwz⟩ : ∃ wz, wz = w4 := ⟨_, rfl⟩
        rw [← hwz]
        have bz : Hid (Below wr.heap.size wr wz) := by rw [hwz]; exact b4.out
        have BW := keep (BW0.out.trans (bz.out.mono BW0.out.size))
        have CZ : Hid (∀ w', Below wz.heap.size wz w' → _) := fun w' hb => CYV.out w' (bz.out.trans (hb.mono bz.out.size))
        have SZ := keep (HS.out.below metaKind_ok BW.out)
        have H1 := keep (SZ.out.head metaKind_ok k hk)
        have H2 : Hid (RSrc metaKind wz (some ⟨b, off + k * 5, none⟩) (n - k) (c - k) (ys.drop k)) := SZ.out.tail metaKind_ok k hk
        have YZ : Hid (metaKind.held wz ⟨yfp, yfc, ylp, ylc, ⟨ynum, ylevel, ycount, yfirst, ylast⟩⟩) := metaKind_ok.below YR.out bz.out
        have m0 : (0 : Int) ≤ (k : Int) := by omega
        have mc : (k : Int) ≤ (c : Int) := by omega
        have mn : (k : Int) ≤ (n : Int) := by omega
        have nc : (n : Int) ≤ (c : Int) := by omega
        have nm : ¬ c = k := by omega
        have nm2 : ¬ k = c := by omega
        clear hwz IA CX
        go_wp2_with fail
        refine wp_region_held_drew (S := fun w' => Below wz.heap.size wz w') (by kernel_rfl) ((Below.refl _ _).drew) (fun hHeld => ?_)
        refine takeH (i := 1) 21 (v := .slice (some ⟨b, off, none⟩) n c) rfl rfl (by kernel_rfl) (by kernel_rfl) (by kernel_rfl) (fun _ _ _ h => h) (Or.inl ⟨by rfl, ?_⟩) (by assumption) ?_
        · intro w' hSw'
          go_simp
        simp only [Act.put, List.setIfInBounds_toArray, List.set_cons_zero, List.set_cons_succ]
        refine takeH (i := 2) 0x16 (v := .int .i64 (k : Int)) rfl rfl (by kernel_rfl) (by kernel_rfl) (by kernel_rfl) (fun _ _ _ h => h) (Or.inl ⟨by rfl, ?_⟩) (by assumption) ?_
        · intro w' hSw'
          go_simp
        simp only [Act.put, List.setIfInBounds_toArray, List.set_cons_zero, List.set_cons_succ]
        refine takeH (i := 3) 23 (v := .slice (some ⟨b, off, none⟩) k c) rfl rfl (by kernel_rfl) (by kernel_rfl) (by kernel_rfl) (fun _ _ _ h => h) (Or.inl ⟨by rfl, ?_⟩) (by assumption) ?_
        · intro w' hSw'
          go_simp
        simp only [Act.put, List.setIfInBounds_toArray, List.set_cons_zero, List.set_cons_succ]
        refine takeH (i := 5) 25 (v := .agg #[.int .i64 ynum, .int .i64 ylevel, .int .i64 ycount, .slice yfp yfirst.length yfc, .slice ylp ylast.length ylc]) rfl rfl (by kernel_rfl) (by kernel_rfl) (by kernel_rfl) (fun _ _ _ h => h) (Or.inl ⟨by rfl, ?_⟩) (by assumption) ?_
        · intro w' hSw'
          obtain ⟨y0, y1, y2, y3, y4⟩ := CZ.out w' hSw'
          go_simp
        simp only [Act.put, List.setIfInBounds_toArray, List.set_cons_zero, List.set_cons_succ]
        refine takeH (i := 8) 28 (v := .slice (some ⟨b, off, none⟩) n c) rfl rfl (by kernel_rfl) (by kernel_rfl) (by kernel_rfl) (fun _ _ _ h => h) (Or.inl ⟨by rfl, ?_⟩) (by assumption) ?_
        · intro w' hSw'
          go_simp
        simp only [Act.put, List.setIfInBounds_toArray, List.set_cons_zero, List.set_cons_succ]
        refine takeH (i := 9) 29 (v := .int .i64 (k : Int)) rfl rfl (by kernel_rfl) (by kernel_rfl) (by kernel_rfl) (fun _ _ _ h => h) (Or.inl ⟨by rfl, ?_⟩) (by assumption) ?_
        · intro w' hSw'
          go_simp
        simp only [Act.put, List.setIfInBounds_toArray, List.set_cons_zero, List.set_cons_succ]
        refine takeH (i := 10) 30 (v := .slice (some ⟨b, off + k * 5, none⟩) (n - k) (c - k)) rfl rfl (by kernel_rfl) (by kernel_rfl) (by kernel_rfl) (fun _ _ _ h => h) (Or.inl ⟨by rfl, ?_⟩) (by assumption) ?_
        · intro w' hSw'
          go_simp
        simp only [Act.put, List.setIfInBounds_toArray, List.set_cons_zero, List.set_cons_succ]
        refine wpAnyH_ready (rs := [0, 6]) (by kernel_rfl) (by simp) ?_
        refine AllReadyH.cons rfl (fun K hK => ?_) (AllReadyH.cons rfl (fun K hK => ?_) AllReadyH.nil)
        · obtain ⟨x1, hx1⟩ : ∃ x, (wz.drew).alloc (.cells #[] 61) = x := ⟨_, rfl⟩
          have b1 : Hid (Below wz.heap.size wz x1) := by rw [← hx1]; exact (Below.refl wz.heap.size wz).drew.alloc (Below.refl wz.heap.size wz).drew.size _
          have o20 : Hid ((x1).ownsRow wz.heap.size 61 5 (.slice (some ⟨(wz.drew).heap.size, 0, none⟩) 0 0) 0 []) := by rw [← hx1]; exact own_emptyS (Below.refl wz.heap.size wz).drew.size
          have s1 : Hid ((x1).heap.size = (wz.drew).heap.size + 1) := by rw [← hx1]; exact World.size_alloc _ _
          go_simp
          refine hK.out _ _ b1.out (fun hA1 => ?_)
          clear hK K hx1
          refine wpAnyH_ready (rs := [4, 6]) (by kernel_rfl) (by simp) ?_
          refine AllReadyH.cons rfl (fun K hK => ?_) (AllReadyH.cons rfl (fun K hK => ?_) AllReadyH.nil)
          · refine step_append_rows rfl _ _ 22 rfl wz.heap.size 61 i0 _ 5 72 Try.underlying22 hi0 hz0 hz1 hz2 rfl (by decide) (.slice (some ⟨(wz.drew).heap.size, 0, none⟩) 0 0) (0) ([]) rfl o20.out (some ⟨b, off, none⟩) (k) (c) (rv metaKind (ys.take k)) rfl (H1.out.nil) (by rw [rv_length metaKind_ok, H1.out.len]; rfl) ((H1.out.below metaKind_ok b1.out).cells) (rv_one metaKind_ok _) (by unfold maxLen; omega) (by omega) b1.out.size ?_
            intro a1 c1 x2 ho1 hg1
            simp only [Nat.zero_add, List.nil_append] at ho1 ⊢
            have o24 := keep ho1
            have b2 := keep (b1.out.grown hg1 b1.out.size (fun j hj => (o20.out.lt j hj).1))
            clear ho1 hg1
            refine hK.out _ _ b2.out (fun hA2 => ?_)
            clear hK K
            refine wpAnyH_ready (rs := [6]) (by kernel_rfl) (by simp) ?_
            refine AllReadyH.cons rfl (fun K hK => ?_) AllReadyH.nil
            obtain ⟨x3, hx3⟩ : ∃ x, (x2).alloc (.cells #[.int .i64 ynum, .int .i64 ylevel, .int .i64 ycount, .slice yfp yfirst.length yfc, .slice ylp ylast.length ylc] 61) = x := ⟨_, rfl⟩
            have b3 : Hid (Below wz.heap.size wz x3) := by rw [← hx3]; exact b2.out.alloc b2.out.size _
            have rc : Hid (RSrc metaKind x3 (some ⟨(x2).heap.size, 0, none⟩) 1 1 [⟨yfp, yfc, ylp, ylc, ⟨ynum, ylevel, ycount, yfirst, ylast⟩⟩]) := by rw [← hx3]; exact RSrc.built1M (metaKind_ok.below YZ.out b2.out)
            have o24b : Hid ((x3).ownsRow wz.heap.size 61 5 (.slice a1 k c1) k (rv metaKind (ys.take k))) := by rw [← hx3]; exact own_block o24.out (fun g hg => Below.heap_alloc _ _ _ (own_size o24.out hg))
            have s3 : Hid ((x3).heap.size = (x2).heap.size + 1) := by rw [← hx3]; exact World.size_alloc _ _
            go_simp
            refine hK.out _ _ b3.out (fun hA3 => ?_)
            clear hK K hx3
            refine wpAnyH_ready (rs := [7]) (by kernel_rfl) (by simp) ?_
            refine AllReadyH.cons rfl (fun K hK => ?_) AllReadyH.nil
            refine step_append_rows rfl _ _ 22 rfl wz.heap.size 61 i0 _ 5 72 Try.underlying22 hi0 hz0 hz1 hz2 rfl (by decide) (.slice a1 k c1) (k) (rv metaKind (ys.take k)) rfl o24b.out (some ⟨(x2).heap.size, 0, none⟩) (1) (1) (rv metaKind [⟨yfp, yfc, ylp, ylc, ⟨ynum, ylevel, ycount, yfirst, ylast⟩⟩]) rfl (fun h => by cases h) (rfl) (rc.out.cells) (rv_one metaKind_ok _) (by unfold maxLen; omega) (by omega) b3.out.size ?_
            intro a4 c4 x4 ho4 hg4
            have o27 := keep ho4
            have b4 := keep (b3.out.grown hg4 b3.out.size (fun j hj => (o24b.out.lt j hj).1))
            clear ho4 hg4
            refine hK.out _ _ b4.out (fun hA4 => ?_)
            clear hK K
            refine wpAnyH_ready (rs := [11]) (by kernel_rfl) (by simp) ?_
            refine AllReadyH.cons rfl (fun K hK => ?_) AllReadyH.nil
            refine step_append_rows rfl _ _ 22 rfl wz.heap.size 61 i0 _ 5 72 Try.underlying22 hi0 hz0 hz1 hz2 rfl (by decide) (.slice a4 (k + 1) c4) (k + 1) (rv metaKind (ys.take k) ++ rv metaKind [⟨yfp, yfc, ylp, ylc, ⟨ynum, ylevel, ycount, yfirst, ylast⟩⟩]) rfl o27.out (some ⟨b, off + k * 5, none⟩) (n - k) (c - k) (rv metaKind (ys.drop k)) rfl (H2.out.nil) (by rw [rv_length metaKind_ok, H2.out.len]; rfl) ((H2.out.below metaKind_ok b4.out).cells) (rv_one metaKind_ok _) (by unfold maxLen; omega) (by omega) b4.out.size ?_
            intro a5 c5 x5 ho5 hg5
            have o31 := keep ho5
            have b5 := keep (b4.out.grown hg5 b4.out.size (fun j hj => (o27.out.lt j hj).1))
            clear ho5 hg5
            refine hK.out _ _ b5.out (fun hA5 => ?_)
            clear hK K
            refine takeH (i := 12) 4 (v := .slice a5 (k + 1 + (n - k)) c5) rfl rfl (by kernel_rfl) (by kernel_rfl) (by kernel_rfl) (fun _ _ _ h => h) (Or.inl ⟨by rfl, ?_⟩) (by assumption) ?_
            · intro w' hSw'
              go_simp
            simp only [Act.put, List.setIfInBounds_toArray]
            refine wpAnyH_done (by kernel_rfl) ?_ _
            rw [← rv_append, ← rv_append] at o31
            have BZ := keep (BW.out.trans (b5.out.mono BW.out.size))
            go_wp2
            go_ret
            rename_i d0 hd0
            have hd1 : (some 31 : Option Tmp) = some d0 := hd0
            cases hd1
            obtain ⟨ra, rc9, er, hr, hrc⟩ := RSrc.own metaKind_ok o31.out (fun x hx => by
              rcases List.mem_append.1 hx with hx | hx
              · rcases List.mem_append.1 hx with hx | hx
                · exact HH.out x (List.mem_of_mem_take hx) x5 BZ.out
                · rw [List.mem_singleton.1 hx]; exact metaKind_ok.below YZ.out b5.out
              · exact HH.out x (List.mem_of_mem_drop hx) x5 BZ.out)
            cases er
            refine ⟨_, _, _, k, by first | rfl | simp | go_simp, own_base o31.out (fun g hg => Nat.le_trans (by first | exact BW.out.size | (rw [← hE0]; exact BW.out.size)) (o31.out.lt g hg).1), hr, by omega, hrc, by omega, HA.out, HN.out, ?_⟩
            first | exact BZ.out | (rw [← hE0]; exact BZ.out)
          · obtain ⟨x2, hx2⟩ : ∃ x, (x1).alloc (.cells #[.int .i64 ynum, .int .i64 ylevel, .int .i64 ycount, .slice yfp yfirst.length yfc, .slice ylp ylast.length ylc] 61) = x := ⟨_, rfl⟩
            have b2 : Hid (Below wz.heap.size wz x2) := by rw [← hx2]; exact b1.out.alloc b1.out.size _
            have rc : Hid (RSrc metaKind x2 (some ⟨(x1).heap.size, 0, none⟩) 1 1 [⟨yfp, yfc, ylp, ylc, ⟨ynum, ylevel, ycount, yfirst, ylast⟩⟩]) := by rw [← hx2]; exact RSrc.built1M (metaKind_ok.below YZ.out b1.out)
            have o20b : Hid ((x2).ownsRow wz.heap.size 61 5 (.slice (some ⟨(wz.drew).heap.size, 0, none⟩) 0 0) 0 []) := by rw [← hx2]; exact own_block o20.out (fun g hg => Below.heap_alloc _ _ _ (own_size o20.out hg))
            have s2 : Hid ((x2).heap.size = (x1).heap.size + 1) := by rw [← hx2]; exact World.size_alloc _ _
            go_simp
            refine hK.out _ _ b2.out (fun hA2 => ?_)
            clear hK K hx2
            refine wpAnyH_ready (rs := [4]) (by kernel_rfl) (by simp) ?_
            refine AllReadyH.cons rfl (fun K hK => ?_) AllReadyH.nil
            refine step_append_rows rfl _ _ 22 rfl wz.heap.size 61 i0 _ 5 72 Try.underlying22 hi0 hz0 hz1 hz2 rfl (by decide) (.slice (some ⟨(wz.drew).heap.size, 0, none⟩) 0 0) (0) ([]) rfl o20b.out (some ⟨b, off, none⟩) (k) (c) (rv metaKind (ys.take k)) rfl (H1.out.nil) (by rw [rv_length metaKind_ok, H1.out.len]; rfl) ((H1.out.below metaKind_ok b2.out).cells) (rv_one metaKind_ok _) (by unfold maxLen; omega) (by omega) b2.out.size ?_
            intro a1 c1 x3 ho1 hg1
            simp only [Nat.zero_add, List.nil_append] at ho1 ⊢
            have o24 := keep ho1
            have b3 := keep (b2.out.grown hg1 b2.out.size (fun j hj => (o20b.out.lt j hj).1))
            have rc3 : Hid (RSrc metaKind x3 (some ⟨(x1).heap.size, 0, none⟩) 1 1 [⟨yfp, yfc, ylp, ylc, ⟨ynum, ylevel, ycount, yfirst, ylast⟩⟩]) := rc.out.grown hg1 (fun ad h e => by cases h; have e2 : (x1).heap.size = (wz.drew).heap.size := Option.some.inj (show some ((x1).heap.size) = some ((wz.drew).heap.size) from e); have e3 := s1.out; omega) (fun e he => by rw [List.mem_singleton.1 he]; exact metaKind_ok.below YZ.out b3.out)
            clear ho1 hg1
            refine hK.out _ _ b3.out (fun hA3 => ?_)
            clear hK K
            refine wpAnyH_ready (rs := [7]) (by kernel_rfl) (by simp) ?_
            refine AllReadyH.cons rfl (fun K hK => ?_) AllReadyH.nil
            refine step_append_rows rfl _ _ 22 rfl wz.heap.size 61 i0 _ 5 72 Try.underlying22 hi0 hz0 hz1 hz2 rfl (by decide) (.slice a1 k c1) (k) (rv metaKind (ys.take k)) rfl o24.out (some ⟨(x1).heap.size, 0, none⟩) (1) (1) (rv metaKind [⟨yfp, yfc, ylp, ylc, ⟨ynum, ylevel, ycount, yfirst, ylast⟩⟩]) rfl (fun h => by cases h) (rfl) (rc3.out.cells) (rv_one metaKind_ok _) (by unfold maxLen; omega) (by omega) b3.out.size ?_
            intro a4 c4 x4 ho4 hg4
            have o27 := keep ho4
            have b4 := keep (b3.out.grown hg4 b3.out.size (fun j hj => (o24.out.lt j hj).1))
            clear ho4 hg4
            refine hK.out _ _ b4.out (fun hA4 => ?_)
            clear hK K
            refine wpAnyH_ready (rs := [11]) (by kernel_rfl) (by simp) ?_
            refine AllReadyH.cons rfl (fun K hK => ?_) AllReadyH.nil
            refine step_append_rows rfl _ _ 22 rfl wz.heap.size 61 i0 _ 5 72 Try.underlying22 hi0 hz0 hz1 hz2 rfl (by decide) (.slice a4 (k + 1) c4) (k + 1) (rv metaKind (ys.take k) ++ rv metaKind [⟨yfp, yfc, ylp, ylc, ⟨ynum, ylevel, ycount, yfirst, ylast⟩⟩]) rfl o27.out (some ⟨b, off + k * 5, none⟩) (n - k) (c - k) (rv metaKind (ys.drop k)) rfl (H2.out.nil) (by rw [rv_length metaKind_ok, H2.out.len]; rfl) ((H2.out.below metaKind_ok b4.out).cells) (rv_one metaKind_ok _) (by unfold maxLen; omega) (by omega) b4.out.size ?_
            intro a5 c5 x5 ho5 hg5
            have o31 := keep ho5
            have b5 := keep (b4.out.grown hg5 b4.out.size (fun j hj => (o27.out.lt j hj).1))
            clear ho5 hg5
            refine hK.out _ _ b5.out (fun hA5 => ?_)
            clear hK K
            refine takeH (i := 12) 4 (v := .slice a5 (k + 1 + (n - k)) c5) rfl rfl (by kernel_rfl) (by kernel_rfl) (by kernel_rfl) (fun _ _ _ h => h) (Or.inl ⟨by rfl, ?_⟩) (by assumption) ?_
            · intro w' hSw'
              go_simp
            simp only [Act.put, List.setIfInBounds_toArray]
            refine wpAnyH_done (by kernel_rfl) ?_ _
            rw [← rv_append, ← rv_append] at o31
            have BZ := keep (BW.out.trans (b5.out.mono BW.out.size))
            go_wp2
            go_ret
            rename_i d0 hd0
            have hd1 : (some 31 : Option Tmp) = some d0 := hd0
            cases hd1
            obtain ⟨ra, rc9, er, hr, hrc⟩ := RSrc.own metaKind_ok o31.out (fun x hx => by
              rcases List.mem_append.1 hx with hx | hx
              · rcases List.mem_append.1 hx with hx | hx
                · exact HH.out x (List.mem_of_mem_take hx) x5 BZ.out
                · rw [List.mem_singleton.1 hx]; exact metaKind_ok.below YZ.out b5.out
              · exact HH.out x (List.mem_of_mem_drop hx) x5 BZ.out)
            cases er
            refine ⟨_, _, _, k, by first | rfl | simp | go_simp, own_base o31.out (fun g hg => Nat.le_trans (by first | exact BW.out.size | (rw [← hE0]; exact BW.out.size)) (o31.out.lt g hg).1), hr, by omega, hrc, by omega, HA.out, HN.out, ?_⟩
            first | exact BZ.out | (rw [← hE0]; exact BZ.out)
        · obtain ⟨x1, hx1⟩ : ∃ x, (wz.drew).alloc (.cells #[.int .i64 ynum, .int .i64 ylevel, .int .i64 ycount, .slice yfp yfirst.length yfc, .slice ylp ylast.length ylc] 61) = x := ⟨_, rfl⟩
          have b1 : Hid (Below wz.heap.size wz x1) := by rw [← hx1]; exact (Below.refl wz.heap.size wz).drew.alloc (Below.refl wz.heap.size wz).drew.size _
          have rc : Hid (RSrc metaKind x1 (some ⟨(wz.drew).heap.size, 0, none⟩) 1 1 [⟨yfp, yfc, ylp, ylc, ⟨ynum, ylevel, ycount, yfirst, ylast⟩⟩]) := by rw [← hx1]; exact RSrc.built1M (metaKind_ok.below YZ.out (Below.refl wz.heap.size wz).drew)
          have s1 : Hid ((x1).heap.size = (wz.drew).heap.size + 1) := by rw [← hx1]; exact World.size_alloc _ _
          go_simp
          refine hK.out _ _ b1.out (fun hA1 => ?_)
          clear hK K hx1
          refine wpAnyH_ready (rs := [0]) (by kernel_rfl) (by simp) ?_
          refine AllReadyH.cons rfl (fun K hK => ?_) AllReadyH.nil
          obtain ⟨x2, hx2⟩ : ∃ x, (x1).alloc (.cells #[] 61) = x := ⟨_, rfl⟩
          have b2 : Hid (Below wz.heap.size wz x2) := by rw [← hx2]; exact b1.out.alloc b1.out.size _
          have o20 : Hid ((x2).ownsRow wz.heap.size 61 5 (.slice (some ⟨(x1).heap.size, 0, none⟩) 0 0) 0 []) := by rw [← hx2]; exact own_emptyS b1.out.size
          have rc2 : Hid (RSrc metaKind x2 (some ⟨(wz.drew).heap.size, 0, none⟩) 1 1 [⟨yfp, yfc, ylp, ylc, ⟨ynum, ylevel, ycount, yfirst, ylast⟩⟩]) := by rw [← hx2]; exact rc.out.below metaKind_ok ((Below.refl _ _).alloc (Nat.le_refl _) _)
          have s2 : Hid ((x2).heap.size = (x1).heap.size + 1) := by rw [← hx2]; exact World.size_alloc _ _
          go_simp
          refine hK.out _ _ b2.out (fun hA2 => ?_)
          clear hK K hx2
          refine wpAnyH_ready (rs := [4]) (by kernel_rfl) (by simp) ?_
          refine AllReadyH.cons rfl (fun K hK => ?_) AllReadyH.nil
          refine step_append_rows rfl _ _ 22 rfl wz.heap.size 61 i0 _ 5 72 Try.underlying22 hi0 hz0 hz1 hz2 rfl (by decide) (.slice (some ⟨(x1).heap.size, 0, none⟩) 0 0) (0) ([]) rfl o20.out (some ⟨b, off, none⟩) (k) (c) (rv metaKind (ys.take k)) rfl (H1.out.nil) (by rw [rv_length metaKind_ok, H1.out.len]; rfl) ((H1.out.below metaKind_ok b2.out).cells) (rv_one metaKind_ok _) (by unfold maxLen; omega) (by omega) b2.out.size ?_
          intro a1 c1 x3 ho1 hg1
          simp only [Nat.zero_add, List.nil_append] at ho1 ⊢
          have o24 := keep ho1
          have b3 := keep (b2.out.grown hg1 b2.out.size (fun j hj => (o20.out.lt j hj).1))
          have rc3 : Hid (RSrc metaKind x3 (some ⟨(wz.drew).heap.size, 0, none⟩) 1 1 [⟨yfp, yfc, ylp, ylc, ⟨ynum, ylevel, ycount, yfirst, ylast⟩⟩]) := rc2.out.grown hg1 (fun ad h e => by cases h; have e2 : (wz.drew).heap.size = (x1).heap.size := Option.some.inj (show some ((wz.drew).heap.size) = some ((x1).heap.size) from e); have e3 := s1.out; omega) (fun e he => by rw [List.mem_singleton.1 he]; exact metaKind_ok.below YZ.out b3.out)
          clear ho1 hg1
          refine hK.out _ _ b3.out (fun hA3 => ?_)
          clear hK K
          refine wpAnyH_ready (rs := [7]) (by kernel_rfl) (by simp) ?_
          refine AllReadyH.cons rfl (fun K hK => ?_) AllReadyH.nil
          refine step_append_rows rfl _ _ 22 rfl wz.heap.size 61 i0 _ 5 72 Try.underlying22 hi0 hz0 hz1 hz2 rfl (by decide) (.slice a1 k c1) (k) (rv metaKind (ys.take k)) rfl o24.out (some ⟨(wz.drew).heap.size, 0, none⟩) (1) (1) (rv metaKind [⟨yfp, yfc, ylp, ylc, ⟨ynum, ylevel, ycount, yfirst, ylast⟩⟩]) rfl (fun h => by cases h) (rfl) (rc3.out.cells) (rv_one metaKind_ok _) (by unfold maxLen; omega) (by omega) b3.out.size ?_
          intro a4 c4 x4 ho4 hg4
          have o27 := keep ho4
          have b4 := keep (b3.out.grown hg4 b3.out.size (fun j hj => (o24.out.lt j hj).1))
          clear ho4 hg4
          refine hK.out _ _ b4.out (fun hA4 => ?_)
          clear hK K
          refine wpAnyH_ready (rs := [11]) (by kernel_rfl) (by simp) ?_
          refine AllReadyH.cons rfl (fun K hK => ?_) AllReadyH.nil
          refine step_append_rows rfl _ _ 22 rfl wz.heap.size 61 i0 _ 5 72 Try.underlying22 hi0 hz0 hz1 hz2 rfl (by decide) (.slice a4 (k + 1) c4) (k + 1) (rv metaKind (ys.take k) ++ rv metaKind [⟨yfp, yfc, ylp, ylc, ⟨ynum, ylevel, ycount, yfirst, ylast⟩⟩]) rfl o27.out (some ⟨b, off + k * 5, none⟩) (n - k) (c - k) (rv metaKind (ys.drop k)) rfl (H2.out.nil) (by rw [rv_length metaKind_ok, H2.out.len]; rfl) ((H2.out.below metaKind_ok b4.out).cells) (rv_one metaKind_ok _) (by unfold maxLen; omega) (by omega) b4.out.size ?_
          intro a5 c5 x5 ho5 hg5
          have o31 := keep ho5
          have b5 := keep (b4.out.grown hg5 b4.out.size (fun j hj => (o27.out.lt j hj).1))
          clear ho5 hg5
          refine hK.out _ _ b5.out (fun hA5 => ?_)
          clear hK K
          refine takeH (i := 12) 4 (v := .slice a5 (k + 1 + (n - k)) c5) rfl rfl (by kernel_rfl) (by kernel_rfl) (by kernel_rfl) (fun _ _ _ h => h) (Or.inl ⟨by rfl, ?_⟩) (by assumption) ?_
          · intro w' hSw'
            go_simp
          simp only [Act.put, List.setIfInBounds_toArray]
          refine wpAnyH_done (by kernel_rfl) ?_ _
          rw [← rv_append, ← rv_append] at o31
          have BZ := keep (BW.out.trans (b5.out.mono BW.out.size))
          go_wp2
          go_ret
          rename_i d0 hd0
          have hd1 : (some 31 : Option Tmp) = some d0 := hd0
          cases hd1
          obtain ⟨ra, rc9, er, hr, hrc⟩ := RSrc.own metaKind_ok o31.out (fun x hx => by
            rcases List.mem_append.1 hx with hx | hx
            · rcases List.mem_append.1 hx with hx | hx
              · exact HH.out x (List.mem_of_mem_take hx) x5 BZ.out
              · rw [List.mem_singleton.1 hx]; exact metaKind_ok.below YZ.out b5.out
            · exact HH.out x (List.mem_of_mem_drop hx) x5 BZ.out)
          cases er
          refine ⟨_, _, _, k, by first | rfl | simp | go_simp, own_base o31.out (fun g hg => Nat.le_trans (by first | exact BW.out.size | (rw [← hE0]; exact BW.out.size)) (o31.out.lt g hg).1), hr, by omega, hrc, by omega, HA.out, HN.out, ?_⟩
          first | exact BZ.out | (rw [← hE0]; exact BZ.out)
    · obtain rfl : k = n := by omega
      have HLT : Hid (¬ (k : Int) < (k : Int)) := by show ¬ _; omega
      have HN : Hid (∀ x, ys[k]? = some x → Ed.rahead x.m ⟨ynum, ylevel, ycount, yfirst, ylast⟩ = false) := fun x h => by
        have := (List.getElem?_eq_some_iff.1 h).1
        rw [HLEN.out] at this
        omega
      go_wp2_with fail
      refine wp_region_held_drew (S := fun w' => Below wr.heap.size wr w') (by kernel_rfl) ((Below.refl _ _).drew) (fun hZ => ?_)
      refine takeH (i := 0) 6 (v := .int .i64 (k : Int)) rfl rfl (by kernel_rfl) (by kernel_rfl) (by kernel_rfl) (fun _ _ _ h => h) (Or.inl ⟨by rfl, ?_⟩) (by assumption) ?_
      · intro w' hSw'
        go_simp
      simp only [Act.put, List.setIfInBounds_toArray, List.set_cons_zero, List.set_cons_succ]
      refine takeH (i := 1) 7 (v := .slice ao k c) rfl rfl (by kernel_rfl) (by kernel_rfl) (by kernel_rfl) (fun _ _ _ h => h) (Or.inl ⟨by rfl, ?_⟩) (by assumption) ?_
      · intro w' hSw'
        go_simp
      simp only [Act.put, List.setIfInBounds_toArray, List.set_cons_zero, List.set_cons_succ]
      refine takeH (i := 2) 8 (v := .int .i64 (k : Int)) rfl rfl (by kernel_rfl) (by kernel_rfl) (by kernel_rfl) (fun _ _ _ h => h) (Or.inl ⟨by rfl, ?_⟩) (by assumption) ?_
      · intro w' hSw'
        go_simp
      simp only [Act.put, List.setIfInBounds_toArray, List.set_cons_zero, List.set_cons_succ]
      refine takeH (i := 3) 9 (v := .bool false) rfl rfl (by kernel_rfl) (by kernel_rfl) (by kernel_rfl) (fun _ _ _ h => h) (Or.inl ⟨by rfl, ?_⟩) (by assumption) ?_
      · intro w' hSw'
        have q9 := HLT.out
        go_simp
      simp only [Act.put, List.setIfInBounds_toArray, List.set_cons_zero, List.set_cons_succ]
      refine takeH (i := 4) 10 (v := .bool false) rfl rfl (by kernel_rfl) (by kernel_rfl) (by kernel_rfl) (fun _ _ _ h => h) (Or.inl ⟨by rfl, ?_⟩) (by assumption) ?_
      · intro w' hSw'
        go_simp
      simp only [Act.put, List.setIfInBounds_toArray, List.set_cons_zero, List.set_cons_succ]
      refine takeH (i := 5) 11 (v := undef) rfl rfl (by kernel_rfl) (by kernel_rfl) (by kernel_rfl) (fun _ _ _ h => h) (Or.inr ⟨by rfl, rfl⟩) (by assumption) ?_
      simp only [Act.put, List.setIfInBounds_toArray, List.set_cons_zero, List.set_cons_succ]
      refine takeH (i := 6) 12 (v := undef) rfl rfl (by kernel_rfl) (by kernel_rfl) (by kernel_rfl) (fun _ _ _ h => h) (Or.inr ⟨by rfl, rfl⟩) (by assumption) ?_
      simp only [Act.put, List.setIfInBounds_toArray, List.set_cons_zero, List.set_cons_succ]
      refine takeH (i := 7) 13 (v := undef) rfl rfl (by kernel_rfl) (by kernel_rfl) (by kernel_rfl) (fun _ _ _ h => h) (Or.inr ⟨by rfl, rfl⟩) (by assumption) ?_
      simp only [Act.put, List.setIfInBounds_toArray, List.set_cons_zero, List.set_cons_succ]
      refine takeH (i := 8) 14 (v := undef) rfl rfl (by kernel_rfl) (by kernel_rfl) (by kernel_rfl) (fun _ _ _ h => h) (Or.inr ⟨by rfl, rfl⟩) (by assumption) ?_
      simp only [Act.put, List.setIfInBounds_toArray, List.set_cons_zero, List.set_cons_succ]
      refine takeH (i := 9) 15 (v := undef) rfl rfl (by kernel_rfl) (by kernel_rfl) (by kernel_rfl) (fun _ _ _ h => h) (Or.inr ⟨by rfl, rfl⟩) (by assumption) ?_
      simp only [Act.put, List.setIfInBounds_toArray, List.set_cons_zero, List.set_cons_succ]
      refine takeH (i := 10) 16 (v := undef) rfl rfl (by kernel_rfl) (by kernel_rfl) (by kernel_rfl) (fun _ _ _ h => h) (Or.inr ⟨by rfl, rfl⟩) (by assumption) ?_
      simp only [Act.put, List.setIfInBounds_toArray, List.set_cons_zero, List.set_cons_succ]
      refine takeH (i := 11) 17 (v := .bool false) rfl rfl (by kernel_rfl) (by kernel_rfl) (by kernel_rfl) (fun _ _ _ h => h) (Or.inl ⟨by rfl, ?_⟩) (by assumption) ?_
      · intro w' hSw'
        go_simp
      simp only [Act.put, List.setIfInBounds_toArray, List.set_cons_zero, List.set_cons_succ]
      refine wpAnyH_done (by kernel_rfl) ?_ _
      obtain ⟨wz, hwz⟩ : ∃ wz, wz = wr.drew := ⟨_, rfl⟩
      rw [← hwz]
      have bz : Hid (Below wr.heap.size wr wz) := by rw [hwz]; exact (Below.refl _ _).drew
      have BW := keep (BW0.out.trans (bz.out.mono BW0.out.size))
      have CZ : Hid (∀ w', Below wz.heap.size wz w' → _) := fun w' hb => CYV.out w' (bz.out.trans (hb.mono bz.out.size))
      have SZ := keep (HS.out.below metaKind_ok BW.out)
      have YZ : Hid (metaKind.held wz ⟨yfp, yfc, ylp, ylc, ⟨ynum, ylevel, ycount, yfirst, ylast⟩⟩) := metaKind_ok.below YR.out bz.out
      have m0 : (0 : Int) ≤ (k : Int) := by omega
      have mc : (k : Int) ≤ (c : Int) := by omega
      have mn : (k : Int) ≤ (k : Int) := by omega
      rcases Nat.lt_or_ge k c with hlt | hge
      · have hk0 : 0 < k := by rcases HZ.out with h | h <;> omega
        obtain ⟨b, off, rfl, _, _⟩ := SR.out.form metaKind_ok hk0
        have H1 := keep (SZ.out.head metaKind_ok k hk)
        have H2 : Hid (RSrc metaKind wz (some ⟨b, off + k * 5, none⟩) 0 (c - k) (ys.drop k)) := by have := SZ.out.tail metaKind_ok k hk; rw [Nat.sub_self] at this; exact this
        have nm : ¬ c = k := by omega
        have nm2 : ¬ k = c := by omega
        clear hwz
        go_wp2_with fail
        refine wp_region_held_drew (S := fun w' => Below wz.heap.size wz w') (by kernel_rfl) ((Below.refl _ _).drew) (fun hHeld => ?_)
        refine takeH (i := 1) 21 (v := .slice (some ⟨b, off, none⟩) k c) rfl rfl (by kernel_rfl) (by kernel_rfl) (by kernel_rfl) (fun _ _ _ h => h) (Or.inl ⟨by rfl, ?_⟩) (by assumption) ?_
        · intro w' hSw'
          go_simp
        simp only [Act.put, List.setIfInBounds_toArray, List.set_cons_zero, List.set_cons_succ]
        refine takeH (i := 2) 0x16 (v := .int .i64 (k : Int)) rfl rfl (by kernel_rfl) (by kernel_rfl) (by kernel_rfl) (fun _ _ _ h => h) (Or.inl ⟨by rfl, ?_⟩) (by assumption) ?_
        · intro w' hSw'
          go_simp
        simp only [Act.put, List.setIfInBounds_toArray, List.set_cons_zero, List.set_cons_succ]
        refine takeH (i := 3) 23 (v := .slice (some ⟨b, off, none⟩) k c) rfl rfl (by kernel_rfl) (by kernel_rfl) (by kernel_rfl) (fun _ _ _ h => h) (Or.inl ⟨by rfl, ?_⟩) (by assumption) ?_
        · intro w' hSw'
          go_simp
        simp only [Act.put, List.setIfInBounds_toArray, List.set_cons_zero, List.set_cons_succ]
        refine takeH (i := 5) 25 (v := .agg #[.int .i64 ynum, .int .i64 ylevel, .int .i64 ycount, .slice yfp yfirst.length yfc, .slice ylp ylast.length ylc]) rfl rfl (by kernel_rfl) (by kernel_rfl) (by kernel_rfl) (fun _ _ _ h => h) (Or.inl ⟨by rfl, ?_⟩) (by assumption) ?_
        · intro w' hSw'
          obtain ⟨y0, y1, y2, y3, y4⟩ := CZ.out w' hSw'
          go_simp
        simp only [Act.put, List.setIfInBounds_toArray, List.set_cons_zero, List.set_cons_succ]
        refine takeH (i := 8) 28 (v := .slice (some ⟨b, off, none⟩) k c) rfl rfl (by kernel_rfl) (by kernel_rfl) (by kernel_rfl) (fun _ _ _ h => h) (Or.inl ⟨by rfl, ?_⟩) (by assumption) ?_
        · intro w' hSw'
          go_simp
        simp only [Act.put, List.setIfInBounds_toArray, List.set_cons_zero, List.set_cons_succ]
        refine takeH (i := 9) 29 (v := .int .i64 (k : Int)) rfl rfl (by kernel_rfl) (by kernel_rfl) (by kernel_rfl) (fun _ _ _ h => h) (Or.inl ⟨by rfl, ?_⟩) (by assumption) ?_
        · intro w' hSw'
          go_simp
        simp only [Act.put, List.setIfInBounds_toArray, List.set_cons_zero, List.set_cons_succ]
        refine takeH (i := 10) 30 (v := .slice (some ⟨b, off + k * 5, none⟩) (0) (c - k)) rfl rfl (by kernel_rfl) (by kernel_rfl) (by kernel_rfl) (fun _ _ _ h => h) (Or.inl ⟨by rfl, ?_⟩) (by assumption) ?_
        · intro w' hSw'
          go_simp
        simp only [Act.put, List.setIfInBounds_toArray, List.set_cons_zero, List.set_cons_succ]
        refine wpAnyH_ready (rs := [0, 6]) (by kernel_rfl) (by simp) ?_
        refine AllReadyH.cons rfl (fun K hK => ?_) (AllReadyH.cons rfl (fun K hK => ?_) AllReadyH.nil)
        · obtain ⟨x1, hx1⟩ : ∃ x, (wz.drew).alloc (.cells #[] 61) = x := ⟨_, rfl⟩
          have b1 : Hid (Below wz.heap.size wz x1) := by rw [← hx1]; exact (Below.refl wz.heap.size wz).drew.alloc (Below.refl wz.heap.size wz).drew.size _
          have o20 : Hid ((x1).ownsRow wz.heap.size 61 5 (.slice (some ⟨(wz.drew).heap.size, 0, none⟩) 0 0) 0 []) := by rw [← hx1]; exact own_emptyS (Below.refl wz.heap.size wz).drew.size
          have s1 : Hid ((x1).heap.size = (wz.drew).heap.size + 1) := by rw [← hx1]; exact World.size_alloc _ _
          go_simp
          refine hK.out _ _ b1.out (fun hA1 => ?_)
          clear hK K hx1
          refine wpAnyH_ready (rs := [4, 6]) (by kernel_rfl) (by simp) ?_
          refine AllReadyH.cons rfl (fun K hK => ?_) (AllReadyH.cons rfl (fun K hK => ?_) AllReadyH.nil)
          · refine step_append_rows rfl _ _ 22 rfl wz.heap.size 61 i0 _ 5 72 Try.underlying22 hi0 hz0 hz1 hz2 rfl (by decide) (.slice (some ⟨(wz.drew).heap.size, 0, none⟩) 0 0) (0) ([]) rfl o20.out (some ⟨b, off, none⟩) (k) (c) (rv metaKind (ys.take k)) rfl (H1.out.nil) (by rw [rv_length metaKind_ok, H1.out.len]; rfl) ((H1.out.below metaKind_ok b1.out).cells) (rv_one metaKind_ok _) (by unfold maxLen; omega) (by omega) b1.out.size ?_
            intro a1 c1 x2 ho1 hg1
            simp only [Nat.zero_add, List.nil_append] at ho1 ⊢
            have o24 := keep ho1
            have b2 := keep (b1.out.grown hg1 b1.out.size (fun j hj => (o20.out.lt j hj).1))
            clear ho1 hg1
            refine hK.out _ _ b2.out (fun hA2 => ?_)
            clear hK K
            refine wpAnyH_ready (rs := [6]) (by kernel_rfl) (by simp) ?_
            refine AllReadyH.cons rfl (fun K hK => ?_) AllReadyH.nil
            obtain ⟨x3, hx3⟩ : ∃ x, (x2).alloc (.cells #[.int .i64 ynum, .int .i64 ylevel, .int .i64 ycount, .slice yfp yfirst.length yfc, .slice ylp ylast.length ylc] 61) = x := ⟨_, rfl⟩
            have b3 : Hid (Below wz.heap.size wz x3) := by rw [← hx3]; exact b2.out.alloc b2.out.size _
            have rc : Hid (RSrc metaKind x3 (some ⟨(x2).heap.size, 0, none⟩) 1 1 [⟨yfp, yfc, ylp, ylc, ⟨ynum, ylevel, ycount, yfirst, ylast⟩⟩]) := by rw [← hx3]; exact RSrc.built1M (metaKind_ok.below YZ.out b2.out)
            have o24b : Hid ((x3).ownsRow wz.heap.size 61 5 (.slice a1 k c1) k (rv metaKind (ys.take k))) := by rw [← hx3]; exact own_block o24.out (fun g hg => Below.heap_alloc _ _ _ (own_size o24.out hg))
            have s3 : Hid ((x3).heap.size = (x2).heap.size + 1) := by rw [← hx3]; exact World.size_alloc _ _
            go_simp
            refine hK.out _ _ b3.out (fun hA3 => ?_)
            clear hK K hx3
            refine wpAnyH_ready (rs := [7]) (by kernel_rfl) (by simp) ?_
            refine AllReadyH.cons rfl (fun K hK => ?_) AllReadyH.nil
            refine step_append_rows rfl _ _ 22 rfl wz.heap.size 61 i0 _ 5 72 Try.underlying22 hi0 hz0 hz1 hz2 rfl (by decide) (.slice a1 k c1) (k) (rv metaKind (ys.take k)) rfl o24b.out (some ⟨(x2).heap.size, 0, none⟩) (1) (1) (rv metaKind [⟨yfp, yfc, ylp, ylc, ⟨ynum, ylevel, ycount, yfirst, ylast⟩⟩]) rfl (fun h => by cases h) (rfl) (rc.out.cells) (rv_one metaKind_ok _) (by unfold maxLen; omega) (by omega) b3.out.size ?_
            intro a4 c4 x4 ho4 hg4
            have o27 := keep ho4
            have b4 := keep (b3.out.grown hg4 b3.out.size (fun j hj => (o24b.out.lt j hj).1))
            clear ho4 hg4
            refine hK.out _ _ b4.out (fun hA4 => ?_)
            clear hK K
            refine wpAnyH_ready (rs := [11]) (by kernel_rfl) (by simp) ?_
            refine AllReadyH.cons rfl (fun K hK => ?_) AllReadyH.nil
            refine step_append_rows rfl _ _ 22 rfl wz.heap.size 61 i0 _ 5 72 Try.underlying22 hi0 hz0 hz1 hz2 rfl (by decide) (.slice a4 (k + 1) c4) (k + 1) (rv metaKind (ys.take k) ++ rv metaKind [⟨yfp, yfc, ylp, ylc, ⟨ynum, ylevel, ycount, yfirst, ylast⟩⟩]) rfl o27.out (some ⟨b, off + k * 5, none⟩) (0) (c - k) (rv metaKind (ys.drop k)) rfl (H2.out.nil) (by rw [rv_length metaKind_ok, H2.out.len]; rfl) ((H2.out.below metaKind_ok b4.out).cells) (rv_one metaKind_ok _) (by unfold maxLen; omega) (by omega) b4.out.size ?_
            intro a5 c5 x5 ho5 hg5
            have o31 := keep ho5
            have b5 := keep (b4.out.grown hg5 b4.out.size (fun j hj => (o27.out.lt j hj).1))
            clear ho5 hg5
            refine hK.out _ _ b5.out (fun hA5 => ?_)
            clear hK K
            refine takeH (i := 12) 4 (v := .slice a5 (k + 1 + 0) c5) rfl rfl (by kernel_rfl) (by kernel_rfl) (by kernel_rfl) (fun _ _ _ h => h) (Or.inl ⟨by rfl, ?_⟩) (by assumption) ?_
            · intro w' hSw'
              go_simp
            simp only [Act.put, List.setIfInBounds_toArray]
            refine wpAnyH_done (by kernel_rfl) ?_ _
            rw [← rv_append, ← rv_append] at o31
            have BZ := keep (BW.out.trans (b5.out.mono BW.out.size))
            go_wp2
            go_ret
            rename_i d0 hd0
            have hd1 : (some 31 : Option Tmp) = some d0 := hd0
            cases hd1
            obtain ⟨ra, rc9, er, hr, hrc⟩ := RSrc.own metaKind_ok o31.out (fun x hx => by
              rcases List.mem_append.1 hx with hx | hx
              · rcases List.mem_append.1 hx with hx | hx
                · exact HH.out x (List.mem_of_mem_take hx) x5 BZ.out
                · rw [List.mem_singleton.1 hx]; exact metaKind_ok.below YZ.out b5.out
              · exact HH.out x (List.mem_of_mem_drop hx) x5 BZ.out)
            cases er
            refine ⟨_, _, _, k, by first | rfl | simp | go_simp, own_base o31.out (fun g hg => Nat.le_trans (by first | exact BW.out.size | (rw [← hE0]; exact BW.out.size)) (o31.out.lt g hg).1), hr, by omega, hrc, by omega, HA.out, HN.out, ?_⟩
            first | exact BZ.out | (rw [← hE0]; exact BZ.out)
          · obtain ⟨x2, hx2⟩ : ∃ x, (x1).alloc (.cells #[.int .i64 ynum, .int .i64 ylevel, .int .i64 ycount, .slice yfp yfirst.length yfc, .slice ylp ylast.length ylc] 61) = x := ⟨_, rfl⟩
            have b2 : Hid (Below wz.heap.size wz x2) := by rw [← hx2]; exact b1.out.alloc b1.out.size _
            have rc : Hid (RSrc metaKind x2 (some ⟨(x1).heap.size, 0, none⟩) 1 1 [⟨yfp, yfc, ylp, ylc, ⟨ynum, ylevel, ycount, yfirst, ylast⟩⟩]) := by rw [← hx2]; exact RSrc.built1M (metaKind_ok.below YZ.out b1.out)
            have o20b : Hid ((x2).ownsRow wz.heap.size 61 5 (.slice (some ⟨(wz.drew).heap.size, 0, none⟩) 0 0) 0 []) := by rw [← hx2]; exact own_block o20.out (fun g hg => Below.heap_alloc _ _ _ (own_size o20.out hg))
            have s2 : Hid ((x2).heap.size = (x1).heap.size + 1) := by rw [← hx2]; exact World.size_alloc _ _
            go_simp
            refine hK.out _ _ b2.out (fun hA2 => ?_)
            clear hK K hx2
            refine wpAnyH_ready (rs := [4]) (by kernel_rfl) (by simp) ?_
            refine AllReadyH.cons rfl (fun K hK => ?_) AllReadyH.nil
            refine step_append_rows rfl _ _ 22 rfl wz.heap.size 61 i0 _ 5 72 Try.underlying22 hi0 hz0 hz1 hz2 rfl (by decide) (.slice (some ⟨(wz.drew).heap.size, 0, none⟩) 0 0) (0) ([]) rfl o20b.out (some ⟨b, off, none⟩) (k) (c) (rv metaKind (ys.take k)) rfl (H1.out.nil) (by rw [rv_length metaKind_ok, H1.out.len]; rfl) ((H1.out.below metaKind_ok b2.out).cells) (rv_one metaKind_ok _) (by unfold maxLen; omega) (by omega) b2.out.size ?_
            intro a1 c1 x3 ho1 hg1
            simp only [Nat.zero_add, List.nil_append] at ho1 ⊢
            have o24 := keep ho1
            have b3 := keep (b2.out.grown hg1 b2.out.size (fun j hj => (o20b.out.lt j hj).1))
            have rc3 : Hid (RSrc metaKind x3 (some ⟨(x1).heap.size, 0, none⟩) 1 1 [⟨yfp, yfc, ylp, ylc, ⟨ynum, ylevel, ycount, yfirst, ylast⟩⟩]) := rc.out.grown hg1 (fun ad h e => by cases h; have e2 : (x1).heap.size = (wz.drew).heap.size := Option.some.inj (show some ((x1).heap.size) = some ((wz.drew).heap.size) from e); have e3 := s1.out; omega) (fun e he => by rw [List.mem_singleton.1 he]; exact metaKind_ok.below YZ.out b3.out)
            clear ho1 hg1
            refine hK.out _ _ b3.out (fun hA3 => ?_)
            clear hK K
            refine wpAnyH_ready (rs := [7]) (by kernel_rfl) (by simp) ?_
            refine AllReadyH.cons rfl (fun K hK => ?_) AllReadyH.nil
            refine step_append_rows rfl _ _ 22 rfl wz.heap.size 61 i0 _ 5 72 Try.underlying22 hi0 hz0 hz1 hz2 rfl (by decide) (.slice a1 k c1) (k) (rv metaKind (ys.take k)) rfl o24.out (some ⟨(x1).heap.size, 0, none⟩) (1) (1) (rv metaKind [⟨yfp, yfc, ylp, ylc, ⟨ynum, ylevel, ycount, yfirst, ylast⟩⟩]) rfl (fun h => by cases h) (rfl) (rc3.out.cells) (rv_one metaKind_ok _) (by unfold maxLen; omega) (by omega) b3.out.size ?_
            intro a4 c4 x4 ho4 hg4
            have o27 := keep ho4
            have b4 := keep (b3.out.grown hg4 b3.out.size (fun j hj => (o24.out.lt j hj).1))
            clear ho4 hg4
            refine hK.out _ _ b4.out (fun hA4 => ?_)
            clear hK K
            refine wpAnyH_ready (rs := [11]) (by kernel_rfl) (by simp) ?_
            refine AllReadyH.cons rfl (fun K hK => ?_) AllReadyH.nil
            refine step_append_rows rfl _ _ 22 rfl wz.heap.size 61 i0 _ 5 72 Try.underlying22 hi0 hz0 hz1 hz2 rfl (by decide) (.slice a4 (k + 1) c4) (k + 1) (rv metaKind (ys.take k) ++ rv metaKind [⟨yfp, yfc, ylp, ylc, ⟨ynum, ylevel, ycount, yfirst, ylast⟩⟩]) rfl o27.out (some ⟨b, off + k * 5, none⟩) (0) (c - k) (rv metaKind (ys.drop k)) rfl (H2.out.nil) (by rw [rv_length metaKind_ok, H2.out.len]; rfl) ((H2.out.below metaKind_ok b4.out).cells) (rv_one metaKind_ok _) (by unfold maxLen; omega) (by omega) b4.out.size ?_
            intro a5 c5 x5 ho5 hg5
            have o31 := keep ho5
            have b5 := keep (b4.out.grown hg5 b4.out.size (fun j hj => (o27.out.lt j hj).1))
            clear ho5 hg5
            refine hK.out _ _ b5.out (fun hA5 => ?_)
            clear hK K
            refine takeH (i := 12) 4 (v := .slice a5 (k + 1 + 0) c5) rfl rfl (by kernel_rfl) (by kernel_rfl) (by kernel_rfl) (fun _ _ _ h => h) (Or.inl ⟨by rfl, ?_⟩) (by assumption) ?_
            · intro w' hSw'
              go_simp
            simp only [Act.put, List.setIfInBounds_toArray]
            refine wpAnyH_done (by kernel_rfl) ?_ _
            rw [← rv_append, ← rv_append] at o31
            have BZ := keep (BW.out.trans (b5.out.mono BW.out.size))
            go_wp2
            go_ret
            rename_i d0 hd0
            have hd1 : (some 31 : Option Tmp) = some d0 := hd0
            cases hd1
            obtain ⟨ra, rc9, er, hr, hrc⟩ := RSrc.own metaKind_ok o31.out (fun x hx => by
              rcases List.mem_append.1 hx with hx | hx
              · rcases List.mem_append.1 hx with hx | hx
                · exact HH.out x (List.mem_of_mem_take hx) x5 BZ.out
                · rw [List.mem_singleton.1 hx]; exact metaKind_ok.below YZ.out b5.out
              · exact HH.out x (List.mem_of_mem_drop hx) x5 BZ.out)
            cases er
            refine ⟨_, _, _, k, by first | rfl | simp | go_simp, own_base o31.out (fun g hg => Nat.le_trans (by first | exact BW.out.size | (rw [← hE0]; exact BW.out.size)) (o31.out.lt g hg).1), hr, by omega, hrc, by omega, HA.out, HN.out, ?_⟩
            first | exact BZ.out | (rw [← hE0]; exact BZ.out)
        · obtain ⟨x1, hx1⟩ : ∃ x, (wz.drew).alloc (.cells #[.int .i64 ynum, .int .i64 ylevel, .int .i64 ycount, .slice yfp yfirst.length yfc, .slice ylp ylast.length ylc] 61) = x := ⟨_, rfl⟩
          have b1 : Hid (Below wz.heap.size wz x1) := by rw [← hx1]; exact (Below.refl wz.heap.size wz).drew.alloc (Below.refl wz.heap.size wz).drew.size _
          have rc : Hid (RSrc metaKind x1 (some ⟨(wz.drew).heap.size, 0, none⟩) 1 1 [⟨yfp, yfc, ylp, ylc, ⟨ynum, ylevel, ycount, yfirst, ylast⟩⟩]) := by rw [← hx1]; exact RSrc.built1M (metaKind_ok.below YZ.out (Below.refl wz.heap.size wz).drew)
          have s1 : Hid ((x1).heap.size = (wz.drew).heap.size + 1) := by rw [← hx1]; exact World.size_alloc _ _
          go_simp
          refine hK.out _ _ b1.out (fun hA1 => ?_)
          clear hK K hx1
          refine wpAnyH_ready (rs := [0]) (by kernel_rfl) (by simp) ?_
          refine AllReadyH.cons rfl (fun K hK => ?_) AllReadyH.nil
          obtain ⟨x2, hx2⟩ : ∃ x, (x1).alloc (.cells #[] 61) = x := ⟨_, rfl⟩
          have b2 : Hid (Below wz.heap.size wz x2) := by rw [← hx2]; exact b1.out.alloc b1.out.size _
          have o20 : Hid ((x2).ownsRow wz.heap.size 61 5 (.slice (some ⟨(x1).heap.size, 0, none⟩) 0 0) 0 []) := by rw [← hx2]; exact own_emptyS b1.out.size
          have rc2 : Hid (RSrc metaKind x2 (some ⟨(wz.drew).heap.size, 0, none⟩) 1 1 [⟨yfp, yfc, ylp, ylc, ⟨ynum, ylevel, ycount, yfirst, ylast⟩⟩]) := by rw [← hx2]; exact rc.out.below metaKind_ok ((Below.refl _ _).alloc (Nat.le_refl _) _)
          have s2 : Hid ((x2).heap.size = (x1).heap.size + 1) := by rw [← hx2]; exact World.size_alloc _ _
          go_simp
          refine hK.out _ _ b2.out (fun hA2 => ?_)
          clear hK K hx2
          refine wpAnyH_ready (rs := [4]) (by kernel_rfl) (by simp) ?_
          refine AllReadyH.cons rfl (fun K hK => ?_) AllReadyH.nil
          refine step_append_rows rfl _ _ 22 rfl wz.heap.size 61 i0 _ 5 72 Try.underlying22 hi0 hz0 hz1 hz2 rfl (by decide) (.slice (some ⟨(x1).heap.size, 0, none⟩) 0 0) (0) ([]) rfl o20.out (some ⟨b, off, none⟩) (k) (c) (rv metaKind (ys.take k)) rfl (H1.out.nil) (by rw [rv_length metaKind_ok, H1.out.len]; rfl) ((H1.out.below metaKind_ok b2.out).cells) (rv_one metaKind_ok _) (by unfold maxLen; omega) (by omega) b2.out.size ?_
          intro a1 c1 x3 ho1 hg1
          simp only [Nat.zero_add, List.nil_append] at ho1 ⊢
          have o24 := keep ho1
          have b3 := keep (b2.out.grown hg1 b2.out.size (fun j hj => (o20.out.lt j hj).1))
          have rc3 : Hid (RSrc metaKind x3 (some ⟨(wz.drew).heap.size, 0, none⟩) 1 1 [⟨yfp, yfc, ylp, ylc, ⟨ynum, ylevel, ycount, yfirst, ylast⟩⟩]) := rc2.out.grown hg1 (fun ad h e => by cases h; have e2 : (wz.drew).heap.size = (x1).heap.size := Option.some.inj (show some ((wz.drew).heap.size) = some ((x1).heap.size) from e); have e3 := s1.out; omega) (fun e he => by rw [List.mem_singleton.1 he]; exact metaKind_ok.below YZ.out b3.out)
          clear ho1 hg1
          refine hK.out _ _ b3.out (fun hA3 => ?_)
          clear hK K
          refine wpAnyH_ready (rs := [7]) (by kernel_rfl) (by simp) ?_
          refine AllReadyH.cons rfl (fun K hK => ?_) AllReadyH.nil
          refine step_append_rows rfl _ _ 22 rfl wz.heap.size 61 i0 _ 5 72 Try.underlying22 hi0 hz0 hz1 hz2 rfl (by decide) (.slice a1 k c1) (k) (rv metaKind (ys.take k)) rfl o24.out (some ⟨(wz.drew).heap.size, 0, none⟩) (1) (1) (rv metaKind [⟨yfp, yfc, ylp, ylc, ⟨ynum, ylevel, ycount, yfirst, ylast⟩⟩]) rfl (fun h => by cases h) (rfl) (rc3.out.cells) (rv_one metaKind_ok _) (by unfold maxLen; omega) (by omega) b3.out.size ?_
          intro a4 c4 x4 ho4 hg4
          have o27 := keep ho4
          have b4 := keep (b3.out.grown hg4 b3.out.size (fun j hj => (o24.out.lt j hj).1))
          clear ho4 hg4
          refine hK.out _ _ b4.out (fun hA4 => ?_)
          clear hK K
          refine wpAnyH_ready (rs := [11]) (by kernel_rfl) (by simp) ?_
          refine AllReadyH.cons rfl (fun K hK => ?_) AllReadyH.nil
          refine step_append_rows rfl _ _ 22 rfl wz.heap.size 61 i0 _ 5 72 Try.underlying22 hi0 hz0 hz1 hz2 rfl (by decide) (.slice a4 (k + 1) c4) (k + 1) (rv metaKind (ys.take k) ++ rv metaKind [⟨yfp, yfc, ylp, ylc, ⟨ynum, ylevel, ycount, yfirst, ylast⟩⟩]) rfl o27.out (some ⟨b, off + k * 5, none⟩) (0) (c - k) (rv metaKind (ys.drop k)) rfl (H2.out.nil) (by rw [rv_length metaKind_ok, H2.out.len]; rfl) ((H2.out.below metaKind_ok b4.out).cells) (rv_one metaKind_ok _) (by unfold maxLen; omega) (by omega) b4.out.size ?_
          intro a5 c5 x5 ho5 hg5
          have o31 := keep ho5
          have b5 := keep (b4.out.grown hg5 b4.out.size (fun j hj => (o27.out.lt j hj).1))
          clear ho5 hg5
          refine hK.out _ _ b5.out (fun hA5 => ?_)
          clear hK K
          refine takeH (i := 12) 4 (v := .slice a5 (k + 1 + 0) c5) rfl rfl (by kernel_rfl) (by kernel_rfl) (by kernel_rfl) (fun _ _ _ h => h) (Or.inl ⟨by rfl, ?_⟩) (by assumption) ?_
          · intro w' hSw'
            go_simp
          simp only [Act.put, List.setIfInBounds_toArray]
          refine wpAnyH_done (by kernel_rfl) ?_ _
          rw [← rv_append, ← rv_append] at o31
          have BZ := keep (BW.out.trans (b5.out.mono BW.out.size))
          go_wp2
          go_ret
          rename_i d0 hd0
          have hd1 : (some 31 : Option Tmp) = some d0 := hd0
          cases hd1
          obtain ⟨ra, rc9, er, hr, hrc⟩ := RSrc.own metaKind_ok o31.out (fun x hx => by
            rcases List.mem_append.1 hx with hx | hx
            · rcases List.mem_append.1 hx with hx | hx
              · exact HH.out x (List.mem_of_mem_take hx) x5 BZ.out
              · rw [List.mem_singleton.1 hx]; exact metaKind_ok.below YZ.out b5.out
            · exact HH.out x (List.mem_of_mem_drop hx) x5 BZ.out)
          cases er
          refine ⟨_, _, _, k, by first | rfl | simp | go_simp, own_base o31.out (fun g hg => Nat.le_trans (by first | exact BW.out.size | (rw [← hE0]; exact BW.out.size)) (o31.out.lt g hg).1), hr, by omega, hrc, by omega, HA.out, HN.out, ?_⟩
          first | exact BZ.out | (rw [← hE0]; exact BZ.out)
      · obtain rfl : k = c := by omega
        have H1 := keep (SZ.out.head metaKind_ok k hk)
        have H2 : Hid (RSrc metaKind wz ao 0 0 (ys.drop k)) := by rw [List.drop_of_length_le (by rw [HLEN.out]; exact Nat.le_refl _)]; exact RSrc.empty (fun _ => rfl)
        clear hwz
        go_wp2_with fail
        refine wp_region_held_drew (S := fun w' => Below wz.heap.size wz w') (by kernel_rfl) ((Below.refl _ _).drew) (fun hHeld => ?_)
        refine takeH (i := 1) 21 (v := .slice ao k k) rfl rfl (by kernel_rfl) (by kernel_rfl) (by kernel_rfl) (fun _ _ _ h => h) (Or.inl ⟨by rfl, ?_⟩) (by assumption) ?_
        · intro w' hSw'
          go_simp
        simp only [Act.put, List.setIfInBounds_toArray, List.set_cons_zero, List.set_cons_succ]
        refine takeH (i := 2) 0x16 (v := .int .i64 (k : Int)) rfl rfl (by kernel_rfl) (by kernel_rfl) (by kernel_rfl) (fun _ _ _ h => h) (Or.inl ⟨by rfl, ?_⟩) (by assumption) ?_
        · intro w' hSw'
          go_simp
        simp only [Act.put, List.setIfInBounds_toArray, List.set_cons_zero, List.set_cons_succ]
        refine takeH (i := 3) 23 (v := .slice (ao) k k) rfl rfl (by kernel_rfl) (by kernel_rfl) (by kernel_rfl) (fun _ _ _ h => h) (Or.inl ⟨by rfl, ?_⟩) (by assumption) ?_
        · intro w' hSw'
          go_simp
        simp only [Act.put, List.setIfInBounds_toArray, List.set_cons_zero, List.set_cons_succ]
        refine takeH (i := 5) 25 (v := .agg #[.int .i64 ynum, .int .i64 ylevel, .int .i64 ycount, .slice yfp yfirst.length yfc, .slice ylp ylast.length ylc]) rfl rfl (by kernel_rfl) (by kernel_rfl) (by kernel_rfl) (fun _ _ _ h => h) (Or.inl ⟨by rfl, ?_⟩) (by assumption) ?_
        · intro w' hSw'
          obtain ⟨y0, y1, y2, y3, y4⟩ := CZ.out w' hSw'
          go_simp
        simp only [Act.put, List.setIfInBounds_toArray, List.set_cons_zero, List.set_cons_succ]
        refine takeH (i := 8) 28 (v := .slice ao k k) rfl rfl (by kernel_rfl) (by kernel_rfl) (by kernel_rfl) (fun _ _ _ h => h) (Or.inl ⟨by rfl, ?_⟩) (by assumption) ?_
        · intro w' hSw'
          go_simp
        simp only [Act.put, List.setIfInBounds_toArray, List.set_cons_zero, List.set_cons_succ]
        refine takeH (i := 9) 29 (v := .int .i64 (k : Int)) rfl rfl (by kernel_rfl) (by kernel_rfl) (by kernel_rfl) (fun _ _ _ h => h) (Or.inl ⟨by rfl, ?_⟩) (by assumption) ?_
        · intro w' hSw'
          go_simp
        simp only [Act.put, List.setIfInBounds_toArray, List.set_cons_zero, List.set_cons_succ]
        refine takeH (i := 10) 30 (v := .slice (ao) (0) (0)) rfl rfl (by kernel_rfl) (by kernel_rfl) (by kernel_rfl) (fun _ _ _ h => h) (Or.inl ⟨by rfl, ?_⟩) (by assumption) ?_
        · intro w' hSw'
          go_simp
        simp only [Act.put, List.setIfInBounds_toArray, List.set_cons_zero, List.set_cons_succ]
        refine wpAnyH_ready (rs := [0, 6]) (by kernel_rfl) (by simp) ?_
        refine AllReadyH.cons rfl (fun K hK => ?_) (AllReadyH.cons rfl (fun K hK => ?_) AllReadyH.nil)
        · obtain ⟨x1, hx1⟩ : ∃ x, (wz.drew).alloc (.cells #[] 61) = x := ⟨_, rfl⟩
          have b1 : Hid (Below wz.heap.size wz x1) := by rw [← hx1]; exact (Below.refl wz.heap.size wz).drew.alloc (Below.refl wz.heap.size wz).drew.size _
          have o20 : Hid ((x1).ownsRow wz.heap.size 61 5 (.slice (some ⟨(wz.drew).heap.size, 0, none⟩) 0 0) 0 []) := by rw [← hx1]; exact own_emptyS (Below.refl wz.heap.size wz).drew.size
          have s1 : Hid ((x1).heap.size = (wz.drew).heap.size + 1) := by rw [← hx1]; exact World.size_alloc _ _
          go_simp
          refine hK.out _ _ b1.out (fun hA1 => ?_)
          clear hK K hx1
          refine wpAnyH_ready (rs := [4, 6]) (by kernel_rfl) (by simp) ?_
          refine AllReadyH.cons rfl (fun K hK => ?_) (AllReadyH.cons rfl (fun K hK => ?_) AllReadyH.nil)
          · refine step_append_rows rfl _ _ 22 rfl wz.heap.size 61 i0 _ 5 72 Try.underlying22 hi0 hz0 hz1 hz2 rfl (by decide) (.slice (some ⟨(wz.drew).heap.size, 0, none⟩) 0 0) (0) ([]) rfl o20.out (ao) (k) (k) (rv metaKind (ys.take k)) rfl (H1.out.nil) (by rw [rv_length metaKind_ok, H1.out.len]; rfl) ((H1.out.below metaKind_ok b1.out).cells) (rv_one metaKind_ok _) (by unfold maxLen; omega) (by omega) b1.out.size ?_
            intro a1 c1 x2 ho1 hg1
            simp only [Nat.zero_add, List.nil_append] at ho1 ⊢
            have o24 := keep ho1
            have b2 := keep (b1.out.grown hg1 b1.out.size (fun j hj => (o20.out.lt j hj).1))
            clear ho1 hg1
            refine hK.out _ _ b2.out (fun hA2 => ?_)
            clear hK K
            refine wpAnyH_ready (rs := [6]) (by kernel_rfl) (by simp) ?_
            refine AllReadyH.cons rfl (fun K hK => ?_) AllReadyH.nil
            obtain ⟨x3, hx3⟩ : ∃ x, (x2).alloc (.cells #[.int .i64 ynum, .int .i64 ylevel, .int .i64 ycount, .slice yfp yfirst.length yfc, .slice ylp ylast.length ylc] 61) = x := ⟨_, rfl⟩
            have b3 : Hid (Below wz.heap.size wz x3) := by rw [← hx3]; exact b2.out.alloc b2.out.size _
            have rc : Hid (RSrc metaKind x3 (some ⟨(x2).heap.size, 0, none⟩) 1 1 [⟨yfp, yfc, ylp, ylc, ⟨ynum, ylevel, ycount, yfirst, ylast⟩⟩]) := by rw [← hx3]; exact RSrc.built1M (metaKind_ok.below YZ.out b2.out)
            have o24b : Hid ((x3).ownsRow wz.heap.size 61 5 (.slice a1 k c1) k (rv metaKind (ys.take k))) := by rw [← hx3]; exact own_block o24.out (fun g hg => Below.heap_alloc _ _ _ (own_size o24.out hg))
            have s3 : Hid ((x3).heap.size = (x2).heap.size + 1) := by rw [← hx3]; exact World.size_alloc _ _
            go_simp
            refine hK.out _ _ b3.out (fun hA3 => ?_)
            clear hK K hx3
            refine wpAnyH_ready (rs := [7]) (by kernel_rfl) (by simp) ?_
            refine AllReadyH.cons rfl (fun K hK => ?_) AllReadyH.nil
            refine step_append_rows rfl _ _ 22 rfl wz.heap.size 61 i0 _ 5 72 Try.underlying22 hi0 hz0 hz1 hz2 rfl (by decide) (.slice a1 k c1) (k) (rv metaKind (ys.take k)) rfl o24b.out (some ⟨(x2).heap.size, 0, none⟩) (1) (1) (rv metaKind [⟨yfp, yfc, ylp, ylc, ⟨ynum, ylevel, ycount, yfirst, ylast⟩⟩]) rfl (fun h => by cases h) (rfl) (rc.out.cells) (rv_one metaKind_ok _) (by unfold maxLen; omega) (by omega) b3.out.size ?_
            intro a4 c4 x4 ho4 hg4
            have o27 := keep ho4
            have b4 := keep (b3.out.grown hg4 b3.out.size (fun j hj => (o24b.out.lt j hj).1))
            clear ho4 hg4
            refine hK.out _ _ b4.out (fun hA4 => ?_)
            clear hK K
            refine wpAnyH_ready (rs := [11]) (by kernel_rfl) (by simp) ?_
            refine AllReadyH.cons rfl (fun K hK => ?_) AllReadyH.nil
            refine step_append_rows rfl _ _ 22 rfl wz.heap.size 61 i0 _ 5 72 Try.underlying22 hi0 hz0 hz1 hz2 rfl (by decide) (.slice a4 (k + 1) c4) (k + 1) (rv metaKind (ys.take k) ++ rv metaKind [⟨yfp, yfc, ylp, ylc, ⟨ynum, ylevel, ycount, yfirst, ylast⟩⟩]) rfl o27.out (ao) (0) (0) (rv metaKind (ys.drop k)) rfl (H2.out.nil) (by rw [rv_length metaKind_ok, H2.out.len]; rfl) ((H2.out.below metaKind_ok b4.out).cells) (rv_one metaKind_ok _) (by unfold maxLen; omega) (by omega) b4.out.size ?_
            intro a5 c5 x5 ho5 hg5
            have o31 := keep ho5
            have b5 := keep (b4.out.grown hg5 b4.out.size (fun j hj => (o27.out.lt j hj).1))
            clear ho5 hg5
            refine hK.out _ _ b5.out (fun hA5 => ?_)
            clear hK K
            refine takeH (i := 12) 4 (v := .slice a5 (k + 1 + 0) c5) rfl rfl (by kernel_rfl) (by kernel_rfl) (by kernel_rfl) (fun _ _ _ h => h) (Or.inl ⟨by rfl, ?_⟩) (by assumption) ?_
            · intro w' hSw'
              go_simp
            simp only [Act.put, List.setIfInBounds_toArray]
            refine wpAnyH_done (by kernel_rfl) ?_ _
            rw [← rv_append, ← rv_append] at o31
            have BZ := keep (BW.out.trans (b5.out.mono BW.out.size))
            go_wp2
            go_ret
            rename_i d0 hd0
            have hd1 : (some 31 : Option Tmp) = some d0 := hd0
            cases hd1
            obtain ⟨ra, rc9, er, hr, hrc⟩ := RSrc.own metaKind_ok o31.out (fun x hx => by
              rcases List.mem_append.1 hx with hx | hx
              · rcases List.mem_append.1 hx with hx | hx
                · exact HH.out x (List.mem_of_mem_take hx) x5 BZ.out
                · rw [List.mem_singleton.1 hx]; exact metaKind_ok.below YZ.out b5.out
              · exact HH.out x (List.mem_of_mem_drop hx) x5 BZ.out)
            cases er
            refine ⟨_, _, _, k, by first | rfl | simp | go_simp, own_base o31.out (fun g hg => Nat.le_trans (by first | exact BW.out.size | (rw [← hE0]; exact BW.out.size)) (o31.out.lt g hg).1), hr, by omega, hrc, by omega, HA.out, HN.out, ?_⟩
            first | exact BZ.out | (rw [← hE0]; exact BZ.out)
          · obtain ⟨x2, hx2⟩ : ∃ x, (x1).alloc (.cells #[.int .i64 ynum, .int .i64 ylevel, .int .i64 ycount, .slice yfp yfirst.length yfc, .slice ylp ylast.length ylc] 61) = x := ⟨_, rfl⟩
            have b2 : Hid (Below wz.heap.size wz x2) := by rw [← hx2]; exact b1.out.alloc b1.out.size _
            have rc : Hid (RSrc metaKind x2 (some ⟨(x1).heap.size, 0, none⟩) 1 1 [⟨yfp, yfc, ylp, ylc, ⟨ynum, ylevel, ycount, yfirst, ylast⟩⟩]) := by rw [← hx2]; exact RSrc.built1M (metaKind_ok.below YZ.out b1.out)
            have o20b : Hid ((x2).ownsRow wz.heap.size 61 5 (.slice (some ⟨(wz.drew).heap.size, 0, none⟩) 0 0) 0 []) := by rw [← hx2]; exact own_block o20.out (fun g hg => Below.heap_alloc _ _ _ (own_size o20.out hg))
            have s2 : Hid ((x2).heap.size = (x1).heap.size + 1) := by rw [← hx2]; exact World.size_alloc _ _
            go_simp
            refine hK.out _ _ b2.out (fun hA2 => ?_)
            clear hK K hx2
            refine wpAnyH_ready (rs := [4]) (by kernel_rfl) (by simp) ?_
            refine AllReadyH.cons rfl (fun K hK => ?_) AllReadyH.nil
            refine step_append_rows rfl _ _ 22 rfl wz.heap.size 61 i0 _ 5 72 Try.underlying22 hi0 hz0 hz1 hz2 rfl (by decide) (.slice (some ⟨(wz.drew).heap.size, 0, none⟩) 0 0) (0) ([]) rfl o20b.out (ao) (k) (k) (rv metaKind (ys.take k)) rfl (H1.out.nil) (by rw [rv_length metaKind_ok, H1.out.len]; rfl) ((H1.out.below metaKind_ok b2.out).cells) (rv_one metaKind_ok _) (by unfold maxLen; omega) (by omega) b2.out.size ?_
            intro a1 c1 x3 ho1 hg1
            simp only [Nat.zero_add, List.nil_append] at ho1 ⊢
            have o24 := keep ho1
            have b3 := keep (b2.out.grown hg1 b2.out.size (fun j hj => (o20b.out.lt j hj).1))
            have rc3 : Hid (RSrc metaKind x3 (some ⟨(x1).heap.size, 0, none⟩) 1 1 [⟨yfp, yfc, ylp, ylc, ⟨ynum, ylevel, ycount, yfirst, ylast⟩⟩]) := rc.out.grown hg1 (fun ad h e => by cases h; have e2 : (x1).heap.size = (wz.drew).heap.size := Option.some.inj (show some ((x1).heap.size) = some ((wz.drew).heap.size) from e); have e3 := s1.out; omega) (fun e he => by rw [List.mem_singleton.1 he]; exact metaKind_ok.below YZ.out b3.out)
            clear ho1 hg1
            refine hK.out _ _ b3.out (fun hA3 => ?_)
            clear hK K
            refine wpAnyH_ready (rs := [7]) (by kernel_rfl) (by simp) ?_
            refine AllReadyH.cons rfl (fun K hK => ?_) AllReadyH.nil
            refine step_append_rows rfl _ _ 22 rfl wz.heap.size 61 i0 _ 5 72 Try.underlying22 hi0 hz0 hz1 hz2 rfl (by decide) (.slice a1 k c1) (k) (rv metaKind (ys.take k)) rfl o24.out (some ⟨(x1).heap.size, 0, none⟩) (1) (1) (rv metaKind [⟨yfp, yfc, ylp, ylc, ⟨ynum, ylevel, ycount, yfirst, ylast⟩⟩]) rfl (fun h => by cases h) (rfl) (rc3.out.cells) (rv_one metaKind_ok _) (by unfold maxLen; omega) (by omega) b3.out.size ?_
            intro a4 c4 x4 ho4 hg4
            have o27 := keep ho4
            have b4 := keep (b3.out.grown hg4 b3.out.size (fun j hj => (o24.out.lt j hj).1))
            clear ho4 hg4
            refine hK.out _ _ b4.out (fun hA4 => ?_)
            clear hK K
            refine wpAnyH_ready (rs := [11]) (by kernel_rfl) (by simp) ?_
            refine AllReadyH.cons rfl (fun K hK => ?_) AllReadyH.nil
            refine step_append_rows rfl _ _ 22 rfl wz.heap.size 61 i0 _ 5 72 Try.underlying22 hi0 hz0 hz1 hz2 rfl (by decide) (.slice a4 (k + 1) c4) (k + 1) (rv metaKind (ys.take k) ++ rv metaKind [⟨yfp, yfc, ylp, ylc, ⟨ynum, ylevel, ycount, yfirst, ylast⟩⟩]) rfl o27.out (ao) (0) (0) (rv metaKind (ys.drop k)) rfl (H2.out.nil) (by rw [rv_length metaKind_ok, H2.out.len]; rfl) ((H2.out.below metaKind_ok b4.out).cells) (rv_one metaKind_ok _) (by unfold maxLen; omega) (by omega) b4.out.size ?_
            intro a5 c5 x5 ho5 hg5
            have o31 := keep ho5
            have b5 := keep (b4.out.grown hg5 b4.out.size (fun j hj => (o27.out.lt j hj).1))
            clear ho5 hg5
            refine hK.out _ _ b5.out (fun hA5 => ?_)
            clear hK K
            refine takeH (i := 12) 4 (v := .slice a5 (k + 1 + 0) c5) rfl rfl (by kernel_rfl) (by kernel_rfl) (by kernel_rfl) (fun _ _ _ h => h) (Or.inl ⟨by rfl, ?_⟩) (by assumption) ?_
            · intro w' hSw'
              go_simp
            simp only [Act.put, List.setIfInBounds_toArray]
            refine wpAnyH_done (by kernel_rfl) ?_ _
            rw [← rv_append, ← rv_append] at o31
            have BZ := keep (BW.out.trans (b5.out.mono BW.out.size))
            go_wp2
            go_ret
            rename_i d0 hd0
            have hd1 : (some 31 : Option Tmp) = some d0 := hd0
            cases hd1
            obtain ⟨ra, rc9, er, hr, hrc⟩ := RSrc.own metaKind_ok o31.out (fun x hx => by
              rcases List.mem_append.1 hx with hx | hx
              · rcases List.mem_append.1 hx with hx | hx
                · exact HH.out x (List.mem_of_mem_take hx) x5 BZ.out
                · rw [List.mem_singleton.1 hx]; exact metaKind_ok.below YZ.out b5.out
              · exact HH.out x (List.mem_of_mem_drop hx) x5 BZ.out)
            cases er
            refine ⟨_, _, _, k, by first | rfl | simp | go_simp, own_base o31.out (fun g hg => Nat.le_trans (by first | exact BW.out.size | (rw [← hE0]; exact BW.out.size)) (o31.out.lt g hg).1), hr, by omega, hrc, by omega, HA.out, HN.out, ?_⟩
            first | exact BZ.out | (rw [← hE0]; exact BZ.out)
        · obtain ⟨x1, hx1⟩ : ∃ x, (wz.drew).alloc (.cells #[.int .i64 ynum, .int .i64 ylevel, .int .i64 ycount, .slice yfp yfirst.length yfc, .slice ylp ylast.length ylc] 61) = x := ⟨_, rfl⟩
          have b1 : Hid (Below wz.heap.size wz x1) := by rw [← hx1]; exact (Below.refl wz.heap.size wz).drew.alloc (Below.refl wz.heap.size wz).drew.size _
          have rc : Hid (RSrc metaKind x1 (some ⟨(wz.drew).heap.size, 0, none⟩) 1 1 [⟨yfp, yfc, ylp, ylc, ⟨ynum, ylevel, ycount, yfirst, ylast⟩⟩]) := by rw [← hx1]; exact RSrc.built1M (metaKind_ok.below YZ.out (Below.refl wz.heap.size wz).drew)
          have s1 : Hid ((x1).heap.size = (wz.drew).heap.size + 1) := by rw [← hx1]; exact World.size_alloc _ _
          go_simp
          refine hK.out _ _ b1.out (fun hA1 => ?_)
          clear hK K hx1
          refine wpAnyH_ready (rs := [0]) (by kernel_rfl) (by simp) ?_
          refine AllReadyH.cons rfl (fun K hK => ?_) AllReadyH.nil
          obtain ⟨x2, hx2⟩ : ∃ x, (x1).alloc (.cells #[] 61) = x := ⟨_, rfl⟩
          have b2 : Hid (Below wz.heap.size wz x2) := by rw [← hx2]; exact b1.out.alloc b1.out.size _
          have o20 : Hid ((x2).ownsRow wz.heap.size 61 5 (.slice (some ⟨(x1).heap.size, 0, none⟩) 0 0) 0 []) := by rw [← hx2]; exact own_emptyS b1.out.size
          have rc2 : Hid (RSrc metaKind x2 (some ⟨(wz.drew).heap.size, 0, none⟩) 1 1 [⟨yfp, yfc, ylp, ylc, ⟨ynum, ylevel, ycount, yfirst, ylast⟩⟩]) := by rw [← hx2]; exact rc.out.below metaKind_ok ((Below.refl _ _).alloc (Nat.le_refl _) _)
          have s2 : Hid ((x2).heap.size = (x1).heap.size + 1) := by rw [← hx2]; exact World.size_alloc _ _
          go_simp
          refine hK.out _ _ b2.out (fun hA2 => ?_)
          clear hK K hx2
          refine wpAnyH_ready (rs := [4]) (by kernel_rfl) (by simp) ?_
          refine AllReadyH.cons rfl (fun K hK => ?_) AllReadyH.nil
          refine step_append_rows rfl _ _ 22 rfl wz.heap.size 61 i0 _ 5 72 Try.underlying22 hi0 hz0 hz1 hz2 rfl (by decide) (.slice (some ⟨(x1).heap.size, 0, none⟩) 0 0) (0) ([]) rfl o20.out (ao) (k) (k) (rv metaKind (ys.take k)) rfl (H1.out.nil) (by rw [rv_length metaKind_ok, H1.out.len]; rfl) ((H1.out.below metaKind_ok b2.out).cells) (rv_one metaKind_ok _) (by unfold maxLen; omega) (by omega) b2.out.size ?_
          intro a1 c1 x3 ho1 hg1
          simp only [Nat.zero_add, List.nil_append] at ho1 ⊢
          have o24 := keep ho1
          have b3 := keep (b2.out.grown hg1 b2.out.size (fun j hj => (o20.out.lt j hj).1))
          have rc3 : Hid (RSrc metaKind x3 (some ⟨(wz.drew).heap.size, 0, none⟩) 1 1 [⟨yfp, yfc, ylp, ylc, ⟨ynum, ylevel, ycount, yfirst, ylast⟩⟩]) := rc2.out.grown hg1 (fun ad h e => by cases h; have e2 : (wz.drew).heap.size = (x1).heap.size := Option.some.inj (show some ((wz.drew).heap.size) = some ((x1).heap.size) from e); have e3 := s1.out; omega) (fun e he => by rw [List.mem_singleton.1 he]; exact metaKind_ok.below YZ.out b3.out)
          clear ho1 hg1
          refine hK.out _ _ b3.out (fun hA3 => ?_)
          clear hK K
          refine wpAnyH_ready (rs := [7]) (by kernel_rfl) (by simp) ?_
          refine AllReadyH.cons rfl (fun K hK => ?_) AllReadyH.nil
          refine step_append_rows rfl _ _ 22 rfl wz.heap.size 61 i0 _ 5 72 Try.underlying22 hi0 hz0 hz1 hz2 rfl (by decide) (.slice a1 k c1) (k) (rv metaKind (ys.take k)) rfl o24.out (some ⟨(wz.drew).heap.size, 0, none⟩) (1) (1) (rv metaKind [⟨yfp, yfc, ylp, ylc, ⟨ynum, ylevel, ycount, yfirst, ylast⟩⟩]) rfl (fun h => by cases h) (rfl) (rc3.out.cells) (rv_one metaKind_ok _) (by unfold maxLen; omega) (by omega) b3.out.size ?_
          intro a4 c4 x4 ho4 hg4
          have o27 := keep ho4
          have b4 := keep (b3.out.grown hg4 b3.out.size (fun j hj => (o24.out.lt j hj).1))
          clear ho4 hg4
          refine hK.out _ _ b4.out (fun hA4 => ?_)
          clear hK K
          refine wpAnyH_ready (rs := [11]) (by kernel_rfl) (by simp) ?_
          refine AllReadyH.cons rfl (fun K hK => ?_) AllReadyH.nil
          refine step_append_rows rfl _ _ 22 rfl wz.heap.size 61 i0 _ 5 72 Try.underlying22 hi0 hz0 hz1 hz2 rfl (by decide) (.slice a4 (k + 1) c4) (k + 1) (rv metaKind (ys.take k) ++ rv metaKind [⟨yfp, yfc, ylp, ylc, ⟨ynum, ylevel, ycount, yfirst, ylast⟩⟩]) rfl o27.out (ao) (0) (0) (rv metaKind (ys.drop k)) rfl (H2.out.nil) (by rw [rv_length metaKind_ok, H2.out.len]; rfl) ((H2.out.below metaKind_ok b4.out).cells) (rv_one metaKind_ok _) (by unfold maxLen; omega) (by omega) b4.out.size ?_
          intro a5 c5 x5 ho5 hg5
          have o31 := keep ho5
          have b5 := keep (b4.out.grown hg5 b4.out.size (fun j hj => (o27.out.lt j hj).1))
          clear ho5 hg5
          refine hK.out _ _ b5.out (fun hA5 => ?_)
          clear hK K
          refine takeH (i := 12) 4 (v := .slice a5 (k + 1 + 0) c5) rfl rfl (by kernel_rfl) (by kernel_rfl) (by kernel_rfl) (fun _ _ _ h => h) (Or.inl ⟨by rfl, ?_⟩) (by assumption) ?_
          · intro w' hSw'
            go_simp
          simp only [Act.put, List.setIfInBounds_toArray]
          refine wpAnyH_done (by kernel_rfl) ?_ _
          rw [← rv_append, ← rv_append] at o31
          have BZ := keep (BW.out.trans (b5.out.mono BW.out.size))
          go_wp2
          go_ret
          rename_i d0 hd0
          have hd1 : (some 31 : Option Tmp) = some d0 := hd0
          cases hd1
          obtain ⟨ra, rc9, er, hr, hrc⟩ := RSrc.own metaKind_ok o31.out (fun x hx => by
            rcases List.mem_append.1 hx with hx | hx
            · rcases List.mem_append.1 hx with hx | hx
              · exact HH.out x (List.mem_of_mem_take hx) x5 BZ.out
              · rw [List.mem_singleton.1 hx]; exact metaKind_ok.below YZ.out b5.out
            · exact HH.out x (List.mem_of_mem_drop hx) x5 BZ.out)
          cases er
          refine ⟨_, _, _, k, by first | rfl | simp | go_simp, own_base o31.out (fun g hg => Nat.le_trans (by first | exact BW.out.size | (rw [← hE0]; exact BW.out.size)) (o31.out.lt g hg).1), hr, by omega, hrc, by omega, HA.out, HN.out, ?_⟩
          first | exact BZ.out | (rw [← hE0]; exact BZ.out)
end Go.Proofs.Ytbahldabcieiaaa
