/- The walks of the document's Check and Ahead. -/
/- The walks of the document's Ordered and Check for blocks. -/
import Derived.Test.YtjblicgbdecbcaaGreatZXaj
import Derived.Test.YtjblicgbdecbcaaGreatZJ3
namespace Go.Proofs.YtjblicgbdecbcaaGreat
open Go.RowKit
open Sk (Ent)

theorem chk_bad {e : Ent} (h : ¬ Sk.may e = true) : chk e = 1 := by unfold chk; rw [if_neg h]
theorem chk_good {e : Ent} (h : Sk.may e = true) : chk e = 0 := by unfold chk; rw [if_pos h]
set_option maxHeartbeats 2000000 in
set_option maxRecDepth 100000 in
theorem rcheck_any (x : EV) (w : World) (hk : x.e.key.length ≤ 9223372036854775807) (hv : x.e.val.length ≤ 9223372036854775807) : Calls Tryz.prog 70 #[ev x] w fun e w' => e = .returned (.int .i64 (chk x.e)) ∧ Below w.heap.size w w' := by
  obtain ⟨kp, kc, vp, vc, key, seq, gone, val⟩ := x
  simp only at hk hv
  unfold ev
  simp only
  have hal := keep ((Below.refl w.heap.size w).alloc (Nat.le_refl _) (.cells #[.slice kp key.length kc, .int .i64 seq, .bool gone, .slice vp val.length vc] 37))
  obtain ⟨K, hK⟩ : ∃ K, key.length = K := ⟨_, rfl⟩
  obtain ⟨V, hV⟩ : ∃ V, val.length = V := ⟨_, rfl⟩
  rw [hK] at hk hal ⊢
  rw [hV] at hv hal ⊢
  by_cases c1 : (K : Int) < 1
  · have A := keep (chk_bad (show ¬ Sk.may ⟨key, seq, gone, val⟩ = true from by simp only [Sk.may, hK, hV, Bool.and_eq_true, decide_eq_true_eq]; omega))
    clear hK hV
    go_enter Tryz.func70, Tryz.ntmps70
    go_wp2
    go_ret
    exact ⟨by rw [A.out]; rfl, hal.out⟩
  by_cases c2 : 64 < (K : Int)
  · have A := keep (chk_bad (show ¬ Sk.may ⟨key, seq, gone, val⟩ = true from by simp only [Sk.may, hK, hV, Bool.and_eq_true, decide_eq_true_eq]; omega))
    clear hK hV
    go_enter Tryz.func70, Tryz.ntmps70
    go_wp2
    go_ret
    exact ⟨by rw [A.out]; rfl, hal.out⟩
  by_cases c3 : seq < 0
  · have A := keep (chk_bad (show ¬ Sk.may ⟨key, seq, gone, val⟩ = true from by simp only [Sk.may, hK, hV, Bool.and_eq_true, decide_eq_true_eq]; omega))
    clear hK hV
    go_enter Tryz.func70, Tryz.ntmps70
    go_wp2
    go_ret
    exact ⟨by rw [A.out]; rfl, hal.out⟩
  by_cases c4 : 1099511627776 < seq
  · have A := keep (chk_bad (show ¬ Sk.may ⟨key, seq, gone, val⟩ = true from by simp only [Sk.may, hK, hV, Bool.and_eq_true, decide_eq_true_eq]; omega))
    clear hK hV
    go_enter Tryz.func70, Tryz.ntmps70
    go_wp2
    go_ret
    exact ⟨by rw [A.out]; rfl, hal.out⟩
  by_cases c5 : 1024 < (V : Int)
  · have A := keep (chk_bad (show ¬ Sk.may ⟨key, seq, gone, val⟩ = true from by simp only [Sk.may, hK, hV, Bool.and_eq_true, decide_eq_true_eq]; omega))
    clear hK hV
    go_enter Tryz.func70, Tryz.ntmps70
    go_wp2
    go_ret
    exact ⟨by rw [A.out]; rfl, hal.out⟩
  cases gone
  · have A := keep (chk_good (show Sk.may ⟨key, seq, false, val⟩ = true from by simp only [Sk.may, hK, hV, Bool.false_and, Bool.not_false, Bool.and_eq_true, decide_eq_true_eq, and_true]; omega))
    clear hK hV
    go_enter Tryz.func70, Tryz.ntmps70
    go_wp2
    go_ret
    exact ⟨by rw [A.out]; rfl, hal.out⟩
  · by_cases c6 : 0 < (V : Int)
    · have A := keep (chk_bad (show ¬ Sk.may ⟨key, seq, true, val⟩ = true from by simp only [Sk.may, hK, hV, Bool.true_and, Bool.and_eq_true, decide_eq_true_eq, Bool.not_eq_true', decide_eq_false_iff_not]; omega))
      clear hK hV
      go_enter Tryz.func70, Tryz.ntmps70
      go_wp2
      go_ret
      exact ⟨by rw [A.out]; rfl, hal.out⟩
    · have A := keep (chk_good (show Sk.may ⟨key, seq, true, val⟩ = true from by simp only [Sk.may, hK, hV, Bool.true_and, Bool.and_eq_true, decide_eq_true_eq, Bool.not_eq_true', decide_eq_false_iff_not]; omega))
      clear hK hV
      go_enter Tryz.func70, Tryz.ntmps70
      go_wp2
      go_ret
      exact ⟨by rw [A.out]; rfl, hal.out⟩
set_option maxHeartbeats 1000000 in
set_option maxRecDepth 100000 in
theorem rahead_any (x y : EV) (w : World) (hxk : x.e.key.length ≤ 140737488355328) (hyk : y.e.key.length ≤ 140737488355328) (hx : entKind.held w x) (hy : entKind.held w y) :
    Calls Tryz.prog 71 #[ev x, ev y] w fun e w' => e = .returned (.bool (Sk.aheadOf y.e.key y.e.seq x.e)) ∧ Below w.heap.size w w' := by
  obtain ⟨xkp, xkc, xvp, xvc, xkey, xseq, xgone, xval⟩ := x
  obtain ⟨ykp, ykc, yvp, yvc, ykey, yseq, ygone, yval⟩ := y
  unfold Sk.aheadOf
  simp only
  have a1 : Src w xkp xkey.length xkc xkey := hx.1
  have b1 : Src w ykp ykey.length ykc ykey := hy.1
  clear hx hy
  unfold ev
  simp only at hxk hyk ⊢
  obtain ⟨W, hW⟩ : ∃ W, (w.alloc (.cells #[.slice xkp xkey.length xkc, .int .i64 xseq, .bool xgone, .slice xvp xval.length xvc] 37)).alloc (.cells #[.slice ykp ykey.length ykc, .int .i64 yseq, .bool ygone, .slice yvp yval.length yvc] 37) = W := ⟨_, rfl⟩
  have bW : Hid (Below w.heap.size w W) := by rw [← hW]; exact ((Below.refl _ _).alloc (Nat.le_refl _) _).alloc (by simp) _
  have d1 := conv_src (a1.below bW.out)
  have d3 := conv_src (b1.below bW.out)
  have LS := keep (refLess_any xkp xkey.length xkc xkey ykp ykey.length ykc ykey W hxk hyk (a1.below bW.out) (b1.below bW.out))
  have g0 : W.heap[w.heap.size]? = some (.cells #[.slice xkp xkey.length xkc, .int .i64 xseq, .bool xgone, .slice xvp xval.length xvc] 37) := by
    rw [← hW]; exact (Below.heap_alloc _ _ _ (by simp)).trans (heap_alloc_new w _)
  have g1 : W.heap[w.heap.size + 1]? = some (.cells #[.slice ykp ykey.length ykc, .int .i64 yseq, .bool ygone, .slice yvp yval.length yvc] 37) := by
    have := heap_alloc_new (w.alloc (.cells #[.slice xkp xkey.length xkc, .int .i64 xseq, .bool xgone, .slice xvp xval.length xvc] 37)) (.cells #[.slice ykp ykey.length ykc, .int .i64 yseq, .bool ygone, .slice yvp yval.length yvc] 37)
    rw [World.size_alloc] at this
    rw [← hW]; exact this
  have p0 : W.cell? ⟨w.heap.size, 0, none⟩ = some (.slice xkp xkey.length xkc) := cell_of_row _ _ _ _ _ _ g0
  have p1 : W.cell? ⟨w.heap.size, 1, none⟩ = some (.int .i64 xseq) := cell_of_row _ _ _ _ _ _ g0
  have r0 : W.cell? ⟨w.heap.size + 1, 0, none⟩ = some (.slice ykp ykey.length ykc) := cell_of_row _ _ _ _ _ _ g1
  have r1 : W.cell? ⟨w.heap.size + 1, 1, none⟩ = some (.int .i64 yseq) := cell_of_row _ _ _ _ _ _ g1
  clear a1 b1 g0 g1
  by_cases hq : xkey = ykey
  · have f1 : (xkey == ykey) = true := by simpa using hq
    rw [if_pos hq]
    clear hq
    go_enter Tryz.func71, Tryz.ntmps71
    go_wp2
    go_ret
    exact ⟨rfl, bW.out⟩
  · have f1 : (xkey == ykey) = false := by simpa using hq
    rw [if_neg hq]
    clear hq
    go_enter Tryz.func71, Tryz.ntmps71
    go_wp2_with fail
    refine LS.out.mono ?_
    rintro e w2 ⟨rfl, hb⟩
    have B2 := keep hb
    clear hb
    go_wp2
    go_ret
    exact ⟨rfl, bW.out.trans (B2.out.mono bW.out.size)⟩
end Go.Proofs.YtjblicgbdecbcaaGreat
namespace Go.Proofs.YtjblicgbdecbcaaGreat
open Go.RowKit
open Sk (Ent)

theorem ordB_may {l : List Ent} {k j : Nat} {e : Ent} (h : Bq.ordB l k = true) (hj : j < k) (he : l[j]? = some e) : Sk.may e = true := by
  have := List.all_eq_true.1 h j (List.mem_range.2 hj)
  simp only [Bq.okAt, he, Bool.and_eq_true] at this
  exact this.1
set_option maxHeartbeats 2000000 in
set_option maxRecDepth 100000 in
theorem rordered_any (ao : Option Addr) (n c : Nat) (es : List EV) (w : World) (hn8 : n ≤ 64) (hsrc : RSrc entKind w ao n c es) (hMAY : ∀ y ∈ es, y.e.key.length ≤ 9223372036854775807 ∧ y.e.val.length ≤ 9223372036854775807) :
    Calls Tryz.prog 38 #[.slice ao n c] w fun e w' => e = .returned (.bool (Bq.ordB (es.map (·.e)) n)) ∧ Below w.heap.size w w' := by
  have MAY := keep hMAY
  have SRC := keep hsrc
  have HN := keep hsrc.len
  clear hsrc hMAY
  go_enter Tryz.func38, Tryz.ntmps38
  go_wp2
  go_loopw [3] (fun i wr => ∃ k : Nat, k ≤ n ∧ i = .int .i64 (k : Int) ∧ Hid (Below w.heap.size w wr ∧ Bq.ordB (es.map (·.e)) k = true)) (fun i _ => n - (intOf i).toNat)
  case atStart => exact ⟨0, Nat.zero_le _, rfl, Below.refl _ _, rfl⟩
  case round =>
    obtain ⟨k, hk, rfl, hI⟩ := hrel
    have HB := keep hI.out.1
    by_cases hkn : k < n
    · obtain ⟨b, off, rfl, _, _⟩ := SRC.out.form entKind_ok (by omega)
      obtain ⟨y, hy⟩ : ∃ y, es[k]? = some y := ⟨es[k]'(by rw [HN.out]; exact hkn), List.getElem?_eq_getElem _⟩
      obtain ⟨p0, p1, p2, p3⟩ := ent_cells (SRC.out.below entKind_ok HB.out) hy
      have hyh := (SRC.out.below entKind_ok HB.out).held y (List.mem_of_getElem? hy)
      have hym := MAY.out y (List.mem_of_getElem? hy)
      have HY : Hid ((es.map (·.e))[k]? = some y.e) := by show _ = _; rw [List.getElem?_map, hy]; rfl
      obtain ⟨xkp, xkc, xvp, xvc, ⟨xkey, xseq, xgone, xval⟩⟩ := y
      simp only at p0 p1 p2 p3 HY hym
      have HH := keep hyh
      clear hy hyh
      have j0 : (0 : Int) ≤ (k : Int) := by omega
      have ll : (k : Int) < (n : Int) := by omega
      have CF : Hid (∀ w', Below wr.heap.size wr w' → w'.cell? ⟨b, off + k * 4, none⟩ = some (.slice xkp xkey.length xkc) ∧ w'.cell? ⟨b, off + k * 4 + 1, none⟩ = some (.int .i64 xseq) ∧ w'.cell? ⟨b, off + k * 4 + 2, none⟩ = some (.bool xgone) ∧ w'.cell? ⟨b, off + k * 4 + 3, none⟩ = some (.slice xvp xval.length xvc)) := fun w' hb => ⟨below_cell hb p0, below_cell hb p1, below_cell hb p2, below_cell hb p3⟩
      have CK : Hid (∀ w', Below wr.heap.size wr w' → Calls Tryz.prog 70 #[ev ⟨xkp, xkc, xvp, xvc, ⟨xkey, xseq, xgone, xval⟩⟩] w' fun e w'' => e = .returned (.int .i64 (chk ⟨xkey, xseq, xgone, xval⟩)) ∧ Below wr.heap.size wr w'') := fun w' hb => by
        refine (rcheck_any ⟨xkp, xkc, xvp, xvc, ⟨xkey, xseq, xgone, xval⟩⟩ w' (by simp only; omega) (by simp only; omega)).mono ?_
        rintro e w'' ⟨rfl, hb'⟩
        exact ⟨rfl, hb.trans (hb'.mono hb.size)⟩
      unfold ev at CK
      simp only at CK
      cases hmay : Sk.may ⟨xkey, xseq, xgone, xval⟩ with
      | false =>
        have A := keep (Bq.ordB_no (okAt_bad HY.out hmay) hkn)
        have hc : chk ⟨xkey, xseq, xgone, xval⟩ = 1 := by unfold chk; rw [hmay]; rfl
        rw [hc] at CK
        clear hmay hc
        go_wp2_with fail
        refine wp_region_held_drew (S := fun w' => Below wr.heap.size wr w') (by kernel_rfl) ((Below.refl _ _).drew) (fun hHeld => ?_)
        refine takeH (i := 0) 10 (v := .slice (some ⟨b, off, none⟩) n c) rfl rfl (by kernel_rfl) (by kernel_rfl) (by kernel_rfl) (fun _ _ _ h => h) (Or.inl ⟨by rfl, ?_⟩) (by assumption) ?_
        · intro w' hSw'
          go_simp
        simp only [Act.put, List.setIfInBounds_toArray, List.set_cons_zero, List.set_cons_succ]
        refine takeH (i := 1) 11 (v := .int .i64 (k : Int)) rfl rfl (by kernel_rfl) (by kernel_rfl) (by kernel_rfl) (fun _ _ _ h => h) (Or.inl ⟨by rfl, ?_⟩) (by assumption) ?_
        · intro w' hSw'
          go_simp
        simp only [Act.put, List.setIfInBounds_toArray, List.set_cons_zero, List.set_cons_succ]
        refine takeH (i := 2) 12 (v := .pointer (some ⟨b, off + k * 4, none⟩)) rfl rfl (by kernel_rfl) (by kernel_rfl) (by kernel_rfl) (fun _ _ _ h => h) (Or.inl ⟨by rfl, ?_⟩) (by assumption) ?_
        · intro w' hSw'
          go_simp
        simp only [Act.put, List.setIfInBounds_toArray, List.set_cons_zero, List.set_cons_succ]
        refine takeH (i := 3) 13 (v := .agg #[.slice xkp xkey.length xkc, .int .i64 xseq, .bool xgone, .slice xvp xval.length xvc]) rfl rfl (by kernel_rfl) (by kernel_rfl) (by kernel_rfl) (fun _ _ _ h => h) (Or.inl ⟨by rfl, ?_⟩) (by assumption) ?_
        · intro w' hSw'
          obtain ⟨d0, d1, d2, d3⟩ := CF.out w' hSw'
          go_simp
        simp only [Act.put, List.setIfInBounds_toArray, List.set_cons_zero, List.set_cons_succ]
        refine wpAnyH_ready (rs := [4]) (by kernel_rfl) (by simp) ?_
        refine AllReadyH.cons rfl (fun K hK => ?_) AllReadyH.nil
        go_simp
        refine (CK.out _ (Below.refl _ _).drew).mono ?_
        rintro e w3 ⟨rfl, hb3⟩
        have b3 := keep hb3
        clear hb3
        go_wp2_with fail
        refine hK.out _ _ (b3.out) (fun hHeld2 => ?_)
        clear hK K
        refine takeH (i := 5) 15 (v := .bool true) rfl rfl (by kernel_rfl) (by kernel_rfl) (by kernel_rfl) (fun _ _ _ h => h) (Or.inl ⟨by rfl, ?_⟩) (by assumption) ?_
        · intro w' hSw'
          go_simp
        simp only [Act.put, List.setIfInBounds_toArray, List.set_cons_zero, List.set_cons_succ]
        refine takeH (i := 6) 16 (v := .bool true) rfl rfl (by kernel_rfl) (by kernel_rfl) (by kernel_rfl) (fun _ _ _ h => h) (Or.inl ⟨by rfl, ?_⟩) (by assumption) ?_
        · intro w' hSw'
          go_simp
        simp only [Act.put, List.setIfInBounds_toArray, List.set_cons_zero, List.set_cons_succ]
        refine takeH (i := 7) 17 (v := undef) rfl rfl (by kernel_rfl) (by kernel_rfl) (by kernel_rfl) (fun _ _ _ h => h) (Or.inr ⟨by rfl, rfl⟩) (by assumption) ?_
        simp only [Act.put, List.setIfInBounds_toArray, List.set_cons_zero, List.set_cons_succ]
        refine takeH (i := 8) 18 (v := undef) rfl rfl (by kernel_rfl) (by kernel_rfl) (by kernel_rfl) (fun _ _ _ h => h) (Or.inr ⟨by rfl, rfl⟩) (by assumption) ?_
        simp only [Act.put, List.setIfInBounds_toArray, List.set_cons_zero, List.set_cons_succ]
        refine takeH (i := 9) 19 (v := undef) rfl rfl (by kernel_rfl) (by kernel_rfl) (by kernel_rfl) (fun _ _ _ h => h) (Or.inr ⟨by rfl, rfl⟩) (by assumption) ?_
        simp only [Act.put, List.setIfInBounds_toArray, List.set_cons_zero, List.set_cons_succ]
        refine takeH (i := 10) 20 (v := undef) rfl rfl (by kernel_rfl) (by kernel_rfl) (by kernel_rfl) (fun _ _ _ h => h) (Or.inr ⟨by rfl, rfl⟩) (by assumption) ?_
        simp only [Act.put, List.setIfInBounds_toArray, List.set_cons_zero, List.set_cons_succ]
        refine takeH (i := 11) 21 (v := undef) rfl rfl (by kernel_rfl) (by kernel_rfl) (by kernel_rfl) (fun _ _ _ h => h) (Or.inr ⟨by rfl, rfl⟩) (by assumption) ?_
        simp only [Act.put, List.setIfInBounds_toArray, List.set_cons_zero, List.set_cons_succ]
        refine takeH (i := 12) 0x16 (v := undef) rfl rfl (by kernel_rfl) (by kernel_rfl) (by kernel_rfl) (fun _ _ _ h => h) (Or.inr ⟨by rfl, rfl⟩) (by assumption) ?_
        simp only [Act.put, List.setIfInBounds_toArray, List.set_cons_zero, List.set_cons_succ]
        refine takeH (i := 13) 23 (v := undef) rfl rfl (by kernel_rfl) (by kernel_rfl) (by kernel_rfl) (fun _ _ _ h => h) (Or.inr ⟨by rfl, rfl⟩) (by assumption) ?_
        simp only [Act.put, List.setIfInBounds_toArray, List.set_cons_zero, List.set_cons_succ]
        refine takeH (i := 14) 24 (v := undef) rfl rfl (by kernel_rfl) (by kernel_rfl) (by kernel_rfl) (fun _ _ _ h => h) (Or.inr ⟨by rfl, rfl⟩) (by assumption) ?_
        simp only [Act.put, List.setIfInBounds_toArray, List.set_cons_zero, List.set_cons_succ]
        refine takeH (i := 15) 25 (v := undef) rfl rfl (by kernel_rfl) (by kernel_rfl) (by kernel_rfl) (fun _ _ _ h => h) (Or.inr ⟨by rfl, rfl⟩) (by assumption) ?_
        simp only [Act.put, List.setIfInBounds_toArray, List.set_cons_zero, List.set_cons_succ]
        refine takeH (i := 16) 26 (v := undef) rfl rfl (by kernel_rfl) (by kernel_rfl) (by kernel_rfl) (fun _ _ _ h => h) (Or.inr ⟨by rfl, rfl⟩) (by assumption) ?_
        simp only [Act.put, List.setIfInBounds_toArray, List.set_cons_zero, List.set_cons_succ]
        refine takeH (i := 17) 27 (v := undef) rfl rfl (by kernel_rfl) (by kernel_rfl) (by kernel_rfl) (fun _ _ _ h => h) (Or.inr ⟨by rfl, rfl⟩) (by assumption) ?_
        simp only [Act.put, List.setIfInBounds_toArray, List.set_cons_zero, List.set_cons_succ]
        refine takeH (i := 18) 28 (v := undef) rfl rfl (by kernel_rfl) (by kernel_rfl) (by kernel_rfl) (fun _ _ _ h => h) (Or.inr ⟨by rfl, rfl⟩) (by assumption) ?_
        simp only [Act.put, List.setIfInBounds_toArray, List.set_cons_zero, List.set_cons_succ]
        refine takeH (i := 19) 29 (v := undef) rfl rfl (by kernel_rfl) (by kernel_rfl) (by kernel_rfl) (fun _ _ _ h => h) (Or.inr ⟨by rfl, rfl⟩) (by assumption) ?_
        simp only [Act.put, List.setIfInBounds_toArray, List.set_cons_zero, List.set_cons_succ]
        refine takeH (i := 20) 30 (v := undef) rfl rfl (by kernel_rfl) (by kernel_rfl) (by kernel_rfl) (fun _ _ _ h => h) (Or.inr ⟨by rfl, rfl⟩) (by assumption) ?_
        simp only [Act.put, List.setIfInBounds_toArray, List.set_cons_zero, List.set_cons_succ]
        refine takeH (i := 21) 31 (v := undef) rfl rfl (by kernel_rfl) (by kernel_rfl) (by kernel_rfl) (fun _ _ _ h => h) (Or.inr ⟨by rfl, rfl⟩) (by assumption) ?_
        simp only [Act.put, List.setIfInBounds_toArray, List.set_cons_zero, List.set_cons_succ]
        refine takeH (i := 0x16) 32 (v := .bool true) rfl rfl (by kernel_rfl) (by kernel_rfl) (by kernel_rfl) (fun _ _ _ h => h) (Or.inl ⟨by rfl, ?_⟩) (by assumption) ?_
        · intro w' hSw'
          go_simp
        simp only [Act.put, List.setIfInBounds_toArray, List.set_cons_zero, List.set_cons_succ]
        refine wpAnyH_done (by kernel_rfl) ?_ _
        go_wp2
        go_ret
        exact ⟨by rw [A.out]; rfl, HB.out.trans (b3.out.mono HB.out.size)⟩
      | true =>
        have hc : chk ⟨xkey, xseq, xgone, xval⟩ = 0 := by unfold chk; rw [hmay]; rfl
        rw [hc] at CK
        clear hc
        rcases Nat.eq_zero_or_pos k with hk0 | hk0
        · have OK : Hid (Bq.okAt (es.map (·.e)) k = true) := by
            have h0 := HY.out
            rw [hk0] at h0 ⊢
            exact (okAt_zero h0).trans hmay
          have HK0 := keep hk0
          have i4 : decide ((0 : Int) < (k : Int)) = false := decide_eq_false (by omega)
          clear hmay hk0
          go_wp2_with fail
          refine wp_region_held_drew (S := fun w' => Below wr.heap.size wr w') (by kernel_rfl) ((Below.refl _ _).drew) (fun hHeld => ?_)
          refine takeH (i := 0) 10 (v := .slice (some ⟨b, off, none⟩) n c) rfl rfl (by kernel_rfl) (by kernel_rfl) (by kernel_rfl) (fun _ _ _ h => h) (Or.inl ⟨by rfl, ?_⟩) (by assumption) ?_
          · intro w' hSw'
            go_simp
          simp only [Act.put, List.setIfInBounds_toArray, List.set_cons_zero, List.set_cons_succ]
          refine takeH (i := 1) 11 (v := .int .i64 (k : Int)) rfl rfl (by kernel_rfl) (by kernel_rfl) (by kernel_rfl) (fun _ _ _ h => h) (Or.inl ⟨by rfl, ?_⟩) (by assumption) ?_
          · intro w' hSw'
            go_simp
          simp only [Act.put, List.setIfInBounds_toArray, List.set_cons_zero, List.set_cons_succ]
          refine takeH (i := 2) 12 (v := .pointer (some ⟨b, off + k * 4, none⟩)) rfl rfl (by kernel_rfl) (by kernel_rfl) (by kernel_rfl) (fun _ _ _ h => h) (Or.inl ⟨by rfl, ?_⟩) (by assumption) ?_
          · intro w' hSw'
            go_simp
          simp only [Act.put, List.setIfInBounds_toArray, List.set_cons_zero, List.set_cons_succ]
          refine takeH (i := 3) 13 (v := .agg #[.slice xkp xkey.length xkc, .int .i64 xseq, .bool xgone, .slice xvp xval.length xvc]) rfl rfl (by kernel_rfl) (by kernel_rfl) (by kernel_rfl) (fun _ _ _ h => h) (Or.inl ⟨by rfl, ?_⟩) (by assumption) ?_
          · intro w' hSw'
            obtain ⟨d0, d1, d2, d3⟩ := CF.out w' hSw'
            go_simp
          simp only [Act.put, List.setIfInBounds_toArray, List.set_cons_zero, List.set_cons_succ]
          refine wpAnyH_ready (rs := [4]) (by kernel_rfl) (by simp) ?_
          refine AllReadyH.cons rfl (fun K hK => ?_) AllReadyH.nil
          go_simp
          refine (CK.out _ (Below.refl _ _).drew).mono ?_
          rintro e w3 ⟨rfl, hb3⟩
          have b3 := keep hb3
          clear hb3
          go_wp2_with fail
          refine hK.out _ _ (b3.out) (fun hHeld2 => ?_)
          clear hK K
          refine takeH (i := 5) 15 (v := .bool false) rfl rfl (by kernel_rfl) (by kernel_rfl) (by kernel_rfl) (fun _ _ _ h => h) (Or.inl ⟨by rfl, ?_⟩) (by assumption) ?_
          · intro w' hSw'
            go_simp
          simp only [Act.put, List.setIfInBounds_toArray, List.set_cons_zero, List.set_cons_succ]
          refine takeH (i := 6) 16 (v := .bool false) rfl rfl (by kernel_rfl) (by kernel_rfl) (by kernel_rfl) (fun _ _ _ h => h) (Or.inl ⟨by rfl, ?_⟩) (by assumption) ?_
          · intro w' hSw'
            go_simp
          simp only [Act.put, List.setIfInBounds_toArray, List.set_cons_zero, List.set_cons_succ]
          refine takeH (i := 7) 17 (v := .int .i64 (k : Int)) rfl rfl (by kernel_rfl) (by kernel_rfl) (by kernel_rfl) (fun _ _ _ h => h) (Or.inl ⟨by rfl, ?_⟩) (by assumption) ?_
          · intro w' hSw'
            go_simp
          simp only [Act.put, List.setIfInBounds_toArray, List.set_cons_zero, List.set_cons_succ]
          refine takeH (i := 8) 18 (v := .bool false) rfl rfl (by kernel_rfl) (by kernel_rfl) (by kernel_rfl) (fun _ _ _ h => h) (Or.inl ⟨by rfl, ?_⟩) (by assumption) ?_
          · intro w' hSw'
            go_simp
            exact HK0.out
          simp only [Act.put, List.setIfInBounds_toArray, List.set_cons_zero, List.set_cons_succ]
          refine takeH (i := 9) 19 (v := .bool false) rfl rfl (by kernel_rfl) (by kernel_rfl) (by kernel_rfl) (fun _ _ _ h => h) (Or.inl ⟨by rfl, ?_⟩) (by assumption) ?_
          · intro w' hSw'
            go_simp
          simp only [Act.put, List.setIfInBounds_toArray, List.set_cons_zero, List.set_cons_succ]
          refine takeH (i := 10) 20 (v := undef) rfl rfl (by kernel_rfl) (by kernel_rfl) (by kernel_rfl) (fun _ _ _ h => h) (Or.inr ⟨by rfl, rfl⟩) (by assumption) ?_
          simp only [Act.put, List.setIfInBounds_toArray, List.set_cons_zero, List.set_cons_succ]
          refine takeH (i := 11) 21 (v := undef) rfl rfl (by kernel_rfl) (by kernel_rfl) (by kernel_rfl) (fun _ _ _ h => h) (Or.inr ⟨by rfl, rfl⟩) (by assumption) ?_
          simp only [Act.put, List.setIfInBounds_toArray, List.set_cons_zero, List.set_cons_succ]
          refine takeH (i := 12) 0x16 (v := undef) rfl rfl (by kernel_rfl) (by kernel_rfl) (by kernel_rfl) (fun _ _ _ h => h) (Or.inr ⟨by rfl, rfl⟩) (by assumption) ?_
          simp only [Act.put, List.setIfInBounds_toArray, List.set_cons_zero, List.set_cons_succ]
          refine takeH (i := 13) 23 (v := undef) rfl rfl (by kernel_rfl) (by kernel_rfl) (by kernel_rfl) (fun _ _ _ h => h) (Or.inr ⟨by rfl, rfl⟩) (by assumption) ?_
          simp only [Act.put, List.setIfInBounds_toArray, List.set_cons_zero, List.set_cons_succ]
          refine takeH (i := 14) 24 (v := undef) rfl rfl (by kernel_rfl) (by kernel_rfl) (by kernel_rfl) (fun _ _ _ h => h) (Or.inr ⟨by rfl, rfl⟩) (by assumption) ?_
          simp only [Act.put, List.setIfInBounds_toArray, List.set_cons_zero, List.set_cons_succ]
          refine takeH (i := 15) 25 (v := undef) rfl rfl (by kernel_rfl) (by kernel_rfl) (by kernel_rfl) (fun _ _ _ h => h) (Or.inr ⟨by rfl, rfl⟩) (by assumption) ?_
          simp only [Act.put, List.setIfInBounds_toArray, List.set_cons_zero, List.set_cons_succ]
          refine takeH (i := 16) 26 (v := undef) rfl rfl (by kernel_rfl) (by kernel_rfl) (by kernel_rfl) (fun _ _ _ h => h) (Or.inr ⟨by rfl, rfl⟩) (by assumption) ?_
          simp only [Act.put, List.setIfInBounds_toArray, List.set_cons_zero, List.set_cons_succ]
          refine takeH (i := 17) 27 (v := undef) rfl rfl (by kernel_rfl) (by kernel_rfl) (by kernel_rfl) (fun _ _ _ h => h) (Or.inr ⟨by rfl, rfl⟩) (by assumption) ?_
          simp only [Act.put, List.setIfInBounds_toArray, List.set_cons_zero, List.set_cons_succ]
          refine takeH (i := 18) 28 (v := undef) rfl rfl (by kernel_rfl) (by kernel_rfl) (by kernel_rfl) (fun _ _ _ h => h) (Or.inr ⟨by rfl, rfl⟩) (by assumption) ?_
          simp only [Act.put, List.setIfInBounds_toArray, List.set_cons_zero, List.set_cons_succ]
          refine takeH (i := 19) 29 (v := undef) rfl rfl (by kernel_rfl) (by kernel_rfl) (by kernel_rfl) (fun _ _ _ h => h) (Or.inr ⟨by rfl, rfl⟩) (by assumption) ?_
          simp only [Act.put, List.setIfInBounds_toArray, List.set_cons_zero, List.set_cons_succ]
          refine takeH (i := 20) 30 (v := undef) rfl rfl (by kernel_rfl) (by kernel_rfl) (by kernel_rfl) (fun _ _ _ h => h) (Or.inr ⟨by rfl, rfl⟩) (by assumption) ?_
          simp only [Act.put, List.setIfInBounds_toArray, List.set_cons_zero, List.set_cons_succ]
          refine takeH (i := 21) 31 (v := .bool false) rfl rfl (by kernel_rfl) (by kernel_rfl) (by kernel_rfl) (fun _ _ _ h => h) (Or.inl ⟨by rfl, ?_⟩) (by assumption) ?_
          · intro w' hSw'
            go_simp
          simp only [Act.put, List.setIfInBounds_toArray, List.set_cons_zero, List.set_cons_succ]
          refine takeH (i := 0x16) 32 (v := .bool false) rfl rfl (by kernel_rfl) (by kernel_rfl) (by kernel_rfl) (fun _ _ _ h => h) (Or.inl ⟨by rfl, ?_⟩) (by assumption) ?_
          · intro w' hSw'
            go_simp
          simp only [Act.put, List.setIfInBounds_toArray, List.set_cons_zero, List.set_cons_succ]
          refine wpAnyH_done (by kernel_rfl) ?_ _
          go_wp2
          go_roundw
          case rel => exact ⟨k + 1, by omega, by first | rfl | go_num, HB.out.trans (b3.out.mono HB.out.size), by rw [Bq.ordB_succ, hI.out.2, OK.out]; rfl⟩
          case measure => simp [intOf]; omega
        · obtain ⟨j, rfl⟩ : ∃ j, k = j + 1 := ⟨k - 1, by omega⟩
          obtain ⟨z, hz⟩ : ∃ z, es[j]? = some z := ⟨es[j]'(by rw [HN.out]; omega), List.getElem?_eq_getElem _⟩
          obtain ⟨q0, q1, q2, q3⟩ := ent_cells (SRC.out.below entKind_ok HB.out) hz
          have hzh := (SRC.out.below entKind_ok HB.out).held z (List.mem_of_getElem? hz)
          have HZ : Hid ((es.map (·.e))[j]? = some z.e) := by show _ = _; rw [List.getElem?_map, hz]; rfl
          have IA : Hid (∀ w', Below wr.heap.size wr w' → Calls Tryz.prog 71 #[ev z, ev ⟨xkp, xkc, xvp, xvc, ⟨xkey, xseq, xgone, xval⟩⟩] w' fun e w'' => e = .returned (.bool (Sk.aheadOf xkey xseq z.e)) ∧ Below wr.heap.size wr w'') := fun w' hb => by
            refine (rahead_any z ⟨xkp, xkc, xvp, xvc, ⟨xkey, xseq, xgone, xval⟩⟩ w' (by have := Bq.may_bounds (ordB_may hI.out.2 (Nat.lt_succ_self j) HZ.out); omega) (by have := (Bq.may_bounds hmay).2.1; show xkey.length ≤ _; exact Nat.le_trans this (by omega)) (entKind_ok.below hzh hb) (entKind_ok.below HH.out hb)).mono ?_
            rintro e w'' ⟨rfl, hb''⟩
            exact ⟨rfl, hb.trans (hb''.mono hb.size)⟩
          have OK := keep (okAt_succ HY.out HZ.out)
          rw [hmay, Bool.true_and] at OK
          obtain ⟨zkp, zkc, zvp, zvc, ⟨zkey, zseq, zgone, zval⟩⟩ := z
          have CP : Hid (∀ w', Below wr.heap.size wr w' → w'.cell? ⟨b, off + j * 4, none⟩ = some (.slice zkp zkey.length zkc) ∧ w'.cell? ⟨b, off + j * 4 + 1, none⟩ = some (.int .i64 zseq) ∧ w'.cell? ⟨b, off + j * 4 + 2, none⟩ = some (.bool zgone) ∧ w'.cell? ⟨b, off + j * 4 + 3, none⟩ = some (.slice zvp zval.length zvc)) := fun w' hb => ⟨below_cell hb q0, below_cell hb q1, below_cell hb q2, below_cell hb q3⟩
          unfold ev at IA
          simp only at IA OK
          clear hmay hz hzh q0 q1 q2 q3 HZ
          have s1 : IntKind.i64.wrap (j : Int) = (j : Int) := wrap_small _ (by omega) (by omega)
          have s2 : ((j + 1 : Nat) : Int) - 1 = (j : Int) := by omega
          have s3 : (j : Int) < (n : Int) := by omega
          have s4 : (0 : Int) ≤ (j : Int) := by omega
          have s5 : (0 : Int) < ((j + 1 : Nat) : Int) := by omega
          cases ha : Sk.aheadOf xkey xseq ⟨zkey, zseq, zgone, zval⟩ with
          | false =>
            rw [ha] at IA OK
            have A := keep (Bq.ordB_no OK.out hkn)
            clear ha
            go_wp2_with fail
            refine wp_region_held_drew (S := fun w' => Below wr.heap.size wr w') (by kernel_rfl) ((Below.refl _ _).drew) (fun hHeld => ?_)
            refine takeH (i := 0) 10 (v := .slice (some ⟨b, off, none⟩) n c) rfl rfl (by kernel_rfl) (by kernel_rfl) (by kernel_rfl) (fun _ _ _ h => h) (Or.inl ⟨by rfl, ?_⟩) (by assumption) ?_
            · intro w' hSw'
              go_simp
            simp only [Act.put, List.setIfInBounds_toArray, List.set_cons_zero, List.set_cons_succ]
            refine takeH (i := 1) 11 (v := .int .i64 ((j + 1 : Nat) : Int)) rfl rfl (by kernel_rfl) (by kernel_rfl) (by kernel_rfl) (fun _ _ _ h => h) (Or.inl ⟨by rfl, ?_⟩) (by assumption) ?_
            · intro w' hSw'
              go_simp
            simp only [Act.put, List.setIfInBounds_toArray, List.set_cons_zero, List.set_cons_succ]
            refine takeH (i := 2) 12 (v := .pointer (some ⟨b, off + (j + 1) * 4, none⟩)) rfl rfl (by kernel_rfl) (by kernel_rfl) (by kernel_rfl) (fun _ _ _ h => h) (Or.inl ⟨by rfl, ?_⟩) (by assumption) ?_
            · intro w' hSw'
              go_simp
              intro h0
              omega
            simp only [Act.put, List.setIfInBounds_toArray, List.set_cons_zero, List.set_cons_succ]
            refine takeH (i := 3) 13 (v := .agg #[.slice xkp xkey.length xkc, .int .i64 xseq, .bool xgone, .slice xvp xval.length xvc]) rfl rfl (by kernel_rfl) (by kernel_rfl) (by kernel_rfl) (fun _ _ _ h => h) (Or.inl ⟨by rfl, ?_⟩) (by assumption) ?_
            · intro w' hSw'
              obtain ⟨d0, d1, d2, d3⟩ := CF.out w' hSw'
              go_simp
            simp only [Act.put, List.setIfInBounds_toArray, List.set_cons_zero, List.set_cons_succ]
            refine wpAnyH_ready (rs := [4]) (by kernel_rfl) (by simp) ?_
            refine AllReadyH.cons rfl (fun K hK => ?_) AllReadyH.nil
            go_simp
            refine (CK.out _ (Below.refl _ _).drew).mono ?_
            rintro e w3 ⟨rfl, hb3⟩
            have b3 := keep hb3
            clear hb3
            go_wp2_with fail
            refine hK.out _ _ (b3.out) (fun hHeld2 => ?_)
            clear hK K
            refine takeH (i := 5) 15 (v := .bool false) rfl rfl (by kernel_rfl) (by kernel_rfl) (by kernel_rfl) (fun _ _ _ h => h) (Or.inl ⟨by rfl, ?_⟩) (by assumption) ?_
            · intro w' hSw'
              go_simp
            simp only [Act.put, List.setIfInBounds_toArray, List.set_cons_zero, List.set_cons_succ]
            refine takeH (i := 6) 16 (v := .bool false) rfl rfl (by kernel_rfl) (by kernel_rfl) (by kernel_rfl) (fun _ _ _ h => h) (Or.inl ⟨by rfl, ?_⟩) (by assumption) ?_
            · intro w' hSw'
              go_simp
            simp only [Act.put, List.setIfInBounds_toArray, List.set_cons_zero, List.set_cons_succ]
            refine takeH (i := 7) 17 (v := .int .i64 ((j + 1 : Nat) : Int)) rfl rfl (by kernel_rfl) (by kernel_rfl) (by kernel_rfl) (fun _ _ _ h => h) (Or.inl ⟨by rfl, ?_⟩) (by assumption) ?_
            · intro w' hSw'
              go_simp
            simp only [Act.put, List.setIfInBounds_toArray, List.set_cons_zero, List.set_cons_succ]
            refine takeH (i := 8) 18 (v := .bool true) rfl rfl (by kernel_rfl) (by kernel_rfl) (by kernel_rfl) (fun _ _ _ h => h) (Or.inl ⟨by rfl, ?_⟩) (by assumption) ?_
            · intro w' hSw'
              go_simp
            simp only [Act.put, List.setIfInBounds_toArray, List.set_cons_zero, List.set_cons_succ]
            refine takeH (i := 9) 19 (v := .bool true) rfl rfl (by kernel_rfl) (by kernel_rfl) (by kernel_rfl) (fun _ _ _ h => h) (Or.inl ⟨by rfl, ?_⟩) (by assumption) ?_
            · intro w' hSw'
              go_simp
            simp only [Act.put, List.setIfInBounds_toArray, List.set_cons_zero, List.set_cons_succ]
            refine takeH (i := 10) 20 (v := .slice (some ⟨b, off, none⟩) n c) rfl rfl (by kernel_rfl) (by kernel_rfl) (by kernel_rfl) (fun _ _ _ h => h) (Or.inl ⟨by rfl, ?_⟩) (by assumption) ?_
            · intro w' hSw'
              go_simp
            simp only [Act.put, List.setIfInBounds_toArray, List.set_cons_zero, List.set_cons_succ]
            refine takeH (i := 11) 21 (v := .int .i64 ((j + 1 : Nat) : Int)) rfl rfl (by kernel_rfl) (by kernel_rfl) (by kernel_rfl) (fun _ _ _ h => h) (Or.inl ⟨by rfl, ?_⟩) (by assumption) ?_
            · intro w' hSw'
              go_simp
            simp only [Act.put, List.setIfInBounds_toArray, List.set_cons_zero, List.set_cons_succ]
            refine takeH (i := 12) 0x16 (v := .int .i64 (j : Int)) rfl rfl (by kernel_rfl) (by kernel_rfl) (by kernel_rfl) (fun _ _ _ h => h) (Or.inl ⟨by rfl, ?_⟩) (by assumption) ?_
            · intro w' hSw'
              go_simp
            simp only [Act.put, List.setIfInBounds_toArray, List.set_cons_zero, List.set_cons_succ]
            refine takeH (i := 13) 23 (v := .pointer (some ⟨b, off + j * 4, none⟩)) rfl rfl (by kernel_rfl) (by kernel_rfl) (by kernel_rfl) (fun _ _ _ h => h) (Or.inl ⟨by rfl, ?_⟩) (by assumption) ?_
            · intro w' hSw'
              go_simp
            simp only [Act.put, List.setIfInBounds_toArray, List.set_cons_zero, List.set_cons_succ]
            refine takeH (i := 14) 24 (v := .agg #[.slice zkp zkey.length zkc, .int .i64 zseq, .bool zgone, .slice zvp zval.length zvc]) rfl rfl (by kernel_rfl) (by kernel_rfl) (by kernel_rfl) (fun _ _ _ h => h) (Or.inl ⟨by rfl, ?_⟩) (by assumption) ?_
            · intro w' hSw'
              obtain ⟨d0, d1, d2, d3⟩ := CP.out w' hSw'
              go_simp
            simp only [Act.put, List.setIfInBounds_toArray, List.set_cons_zero, List.set_cons_succ]
            refine takeH (i := 15) 25 (v := .slice (some ⟨b, off, none⟩) n c) rfl rfl (by kernel_rfl) (by kernel_rfl) (by kernel_rfl) (fun _ _ _ h => h) (Or.inl ⟨by rfl, ?_⟩) (by assumption) ?_
            · intro w' hSw'
              go_simp
            simp only [Act.put, List.setIfInBounds_toArray, List.set_cons_zero, List.set_cons_succ]
            refine takeH (i := 16) 26 (v := .int .i64 ((j + 1 : Nat) : Int)) rfl rfl (by kernel_rfl) (by kernel_rfl) (by kernel_rfl) (fun _ _ _ h => h) (Or.inl ⟨by rfl, ?_⟩) (by assumption) ?_
            · intro w' hSw'
              go_simp
            simp only [Act.put, List.setIfInBounds_toArray, List.set_cons_zero, List.set_cons_succ]
            refine takeH (i := 17) 27 (v := .pointer (some ⟨b, off + (j + 1) * 4, none⟩)) rfl rfl (by kernel_rfl) (by kernel_rfl) (by kernel_rfl) (fun _ _ _ h => h) (Or.inl ⟨by rfl, ?_⟩) (by assumption) ?_
            · intro w' hSw'
              go_simp
              intro h0
              omega
            simp only [Act.put, List.setIfInBounds_toArray, List.set_cons_zero, List.set_cons_succ]
            refine takeH (i := 18) 28 (v := .agg #[.slice xkp xkey.length xkc, .int .i64 xseq, .bool xgone, .slice xvp xval.length xvc]) rfl rfl (by kernel_rfl) (by kernel_rfl) (by kernel_rfl) (fun _ _ _ h => h) (Or.inl ⟨by rfl, ?_⟩) (by assumption) ?_
            · intro w' hSw'
              obtain ⟨d0, d1, d2, d3⟩ := CF.out w' hSw'
              go_simp
            simp only [Act.put, List.setIfInBounds_toArray, List.set_cons_zero, List.set_cons_succ]
            refine wpAnyH_ready (rs := [19]) (by kernel_rfl) (by simp) ?_
            refine AllReadyH.cons rfl (fun K hK => ?_) AllReadyH.nil
            go_simp
            refine (IA.out _ b3.out).mono ?_
            rintro e w4 ⟨rfl, hb4⟩
            have b4 := keep hb4
            clear hb4
            go_wp2_with fail
            refine hK.out _ _ (b4.out) (fun hHeld3 => ?_)
            clear hK K
            refine takeH (i := 20) 30 (v := .bool true) rfl rfl (by kernel_rfl) (by kernel_rfl) (by kernel_rfl) (fun _ _ _ h => h) (Or.inl ⟨by rfl, ?_⟩) (by assumption) ?_
            · intro w' hSw'
              go_simp
            simp only [Act.put, List.setIfInBounds_toArray, List.set_cons_zero, List.set_cons_succ]
            refine takeH (i := 21) 31 (v := .bool true) rfl rfl (by kernel_rfl) (by kernel_rfl) (by kernel_rfl) (fun _ _ _ h => h) (Or.inl ⟨by rfl, ?_⟩) (by assumption) ?_
            · intro w' hSw'
              go_simp
            simp only [Act.put, List.setIfInBounds_toArray, List.set_cons_zero, List.set_cons_succ]
            refine takeH (i := 0x16) 32 (v := .bool true) rfl rfl (by kernel_rfl) (by kernel_rfl) (by kernel_rfl) (fun _ _ _ h => h) (Or.inl ⟨by rfl, ?_⟩) (by assumption) ?_
            · intro w' hSw'
              go_simp
            simp only [Act.put, List.setIfInBounds_toArray, List.set_cons_zero, List.set_cons_succ]
            refine wpAnyH_done (by kernel_rfl) ?_ _
            go_wp2
            go_ret
            exact ⟨by rw [A.out]; rfl, HB.out.trans (b4.out.mono HB.out.size)⟩
          | true =>
            rw [ha] at IA OK
            clear ha
            go_wp2_with fail
            refine wp_region_held_drew (S := fun w' => Below wr.heap.size wr w') (by kernel_rfl) ((Below.refl _ _).drew) (fun hHeld => ?_)
            refine takeH (i := 0) 10 (v := .slice (some ⟨b, off, none⟩) n c) rfl rfl (by kernel_rfl) (by kernel_rfl) (by kernel_rfl) (fun _ _ _ h => h) (Or.inl ⟨by rfl, ?_⟩) (by assumption) ?_
            · intro w' hSw'
              go_simp
            simp only [Act.put, List.setIfInBounds_toArray, List.set_cons_zero, List.set_cons_succ]
            refine takeH (i := 1) 11 (v := .int .i64 ((j + 1 : Nat) : Int)) rfl rfl (by kernel_rfl) (by kernel_rfl) (by kernel_rfl) (fun _ _ _ h => h) (Or.inl ⟨by rfl, ?_⟩) (by assumption) ?_
            · intro w' hSw'
              go_simp
            simp only [Act.put, List.setIfInBounds_toArray, List.set_cons_zero, List.set_cons_succ]
            refine takeH (i := 2) 12 (v := .pointer (some ⟨b, off + (j + 1) * 4, none⟩)) rfl rfl (by kernel_rfl) (by kernel_rfl) (by kernel_rfl) (fun _ _ _ h => h) (Or.inl ⟨by rfl, ?_⟩) (by assumption) ?_
            · intro w' hSw'
              go_simp
              intro h0
              omega
            simp only [Act.put, List.setIfInBounds_toArray, List.set_cons_zero, List.set_cons_succ]
            refine takeH (i := 3) 13 (v := .agg #[.slice xkp xkey.length xkc, .int .i64 xseq, .bool xgone, .slice xvp xval.length xvc]) rfl rfl (by kernel_rfl) (by kernel_rfl) (by kernel_rfl) (fun _ _ _ h => h) (Or.inl ⟨by rfl, ?_⟩) (by assumption) ?_
            · intro w' hSw'
              obtain ⟨d0, d1, d2, d3⟩ := CF.out w' hSw'
              go_simp
            simp only [Act.put, List.setIfInBounds_toArray, List.set_cons_zero, List.set_cons_succ]
            refine wpAnyH_ready (rs := [4]) (by kernel_rfl) (by simp) ?_
            refine AllReadyH.cons rfl (fun K hK => ?_) AllReadyH.nil
            go_simp
            refine (CK.out _ (Below.refl _ _).drew).mono ?_
            rintro e w3 ⟨rfl, hb3⟩
            have b3 := keep hb3
            clear hb3
            go_wp2_with fail
            refine hK.out _ _ (b3.out) (fun hHeld2 => ?_)
            clear hK K
            refine takeH (i := 5) 15 (v := .bool false) rfl rfl (by kernel_rfl) (by kernel_rfl) (by kernel_rfl) (fun _ _ _ h => h) (Or.inl ⟨by rfl, ?_⟩) (by assumption) ?_
            · intro w' hSw'
              go_simp
            simp only [Act.put, List.setIfInBounds_toArray, List.set_cons_zero, List.set_cons_succ]
            refine takeH (i := 6) 16 (v := .bool false) rfl rfl (by kernel_rfl) (by kernel_rfl) (by kernel_rfl) (fun _ _ _ h => h) (Or.inl ⟨by rfl, ?_⟩) (by assumption) ?_
            · intro w' hSw'
              go_simp
            simp only [Act.put, List.setIfInBounds_toArray, List.set_cons_zero, List.set_cons_succ]
            refine takeH (i := 7) 17 (v := .int .i64 ((j + 1 : Nat) : Int)) rfl rfl (by kernel_rfl) (by kernel_rfl) (by kernel_rfl) (fun _ _ _ h => h) (Or.inl ⟨by rfl, ?_⟩) (by assumption) ?_
            · intro w' hSw'
              go_simp
            simp only [Act.put, List.setIfInBounds_toArray, List.set_cons_zero, List.set_cons_succ]
            refine takeH (i := 8) 18 (v := .bool true) rfl rfl (by kernel_rfl) (by kernel_rfl) (by kernel_rfl) (fun _ _ _ h => h) (Or.inl ⟨by rfl, ?_⟩) (by assumption) ?_
            · intro w' hSw'
              go_simp
            simp only [Act.put, List.setIfInBounds_toArray, List.set_cons_zero, List.set_cons_succ]
            refine takeH (i := 9) 19 (v := .bool true) rfl rfl (by kernel_rfl) (by kernel_rfl) (by kernel_rfl) (fun _ _ _ h => h) (Or.inl ⟨by rfl, ?_⟩) (by assumption) ?_
            · intro w' hSw'
              go_simp
            simp only [Act.put, List.setIfInBounds_toArray, List.set_cons_zero, List.set_cons_succ]
            refine takeH (i := 10) 20 (v := .slice (some ⟨b, off, none⟩) n c) rfl rfl (by kernel_rfl) (by kernel_rfl) (by kernel_rfl) (fun _ _ _ h => h) (Or.inl ⟨by rfl, ?_⟩) (by assumption) ?_
            · intro w' hSw'
              go_simp
            simp only [Act.put, List.setIfInBounds_toArray, List.set_cons_zero, List.set_cons_succ]
            refine takeH (i := 11) 21 (v := .int .i64 ((j + 1 : Nat) : Int)) rfl rfl (by kernel_rfl) (by kernel_rfl) (by kernel_rfl) (fun _ _ _ h => h) (Or.inl ⟨by rfl, ?_⟩) (by assumption) ?_
            · intro w' hSw'
              go_simp
            simp only [Act.put, List.setIfInBounds_toArray, List.set_cons_zero, List.set_cons_succ]
            refine takeH (i := 12) 0x16 (v := .int .i64 (j : Int)) rfl rfl (by kernel_rfl) (by kernel_rfl) (by kernel_rfl) (fun _ _ _ h => h) (Or.inl ⟨by rfl, ?_⟩) (by assumption) ?_
            · intro w' hSw'
              go_simp
            simp only [Act.put, List.setIfInBounds_toArray, List.set_cons_zero, List.set_cons_succ]
            refine takeH (i := 13) 23 (v := .pointer (some ⟨b, off + j * 4, none⟩)) rfl rfl (by kernel_rfl) (by kernel_rfl) (by kernel_rfl) (fun _ _ _ h => h) (Or.inl ⟨by rfl, ?_⟩) (by assumption) ?_
            · intro w' hSw'
              go_simp
            simp only [Act.put, List.setIfInBounds_toArray, List.set_cons_zero, List.set_cons_succ]
            refine takeH (i := 14) 24 (v := .agg #[.slice zkp zkey.length zkc, .int .i64 zseq, .bool zgone, .slice zvp zval.length zvc]) rfl rfl (by kernel_rfl) (by kernel_rfl) (by kernel_rfl) (fun _ _ _ h => h) (Or.inl ⟨by rfl, ?_⟩) (by assumption) ?_
            · intro w' hSw'
              obtain ⟨d0, d1, d2, d3⟩ := CP.out w' hSw'
              go_simp
            simp only [Act.put, List.setIfInBounds_toArray, List.set_cons_zero, List.set_cons_succ]
            refine takeH (i := 15) 25 (v := .slice (some ⟨b, off, none⟩) n c) rfl rfl (by kernel_rfl) (by kernel_rfl) (by kernel_rfl) (fun _ _ _ h => h) (Or.inl ⟨by rfl, ?_⟩) (by assumption) ?_
            · intro w' hSw'
              go_simp
            simp only [Act.put, List.setIfInBounds_toArray, List.set_cons_zero, List.set_cons_succ]
            refine takeH (i := 16) 26 (v := .int .i64 ((j + 1 : Nat) : Int)) rfl rfl (by kernel_rfl) (by kernel_rfl) (by kernel_rfl) (fun _ _ _ h => h) (Or.inl ⟨by rfl, ?_⟩) (by assumption) ?_
            · intro w' hSw'
              go_simp
            simp only [Act.put, List.setIfInBounds_toArray, List.set_cons_zero, List.set_cons_succ]
            refine takeH (i := 17) 27 (v := .pointer (some ⟨b, off + (j + 1) * 4, none⟩)) rfl rfl (by kernel_rfl) (by kernel_rfl) (by kernel_rfl) (fun _ _ _ h => h) (Or.inl ⟨by rfl, ?_⟩) (by assumption) ?_
            · intro w' hSw'
              go_simp
              intro h0
              omega
            simp only [Act.put, List.setIfInBounds_toArray, List.set_cons_zero, List.set_cons_succ]
            refine takeH (i := 18) 28 (v := .agg #[.slice xkp xkey.length xkc, .int .i64 xseq, .bool xgone, .slice xvp xval.length xvc]) rfl rfl (by kernel_rfl) (by kernel_rfl) (by kernel_rfl) (fun _ _ _ h => h) (Or.inl ⟨by rfl, ?_⟩) (by assumption) ?_
            · intro w' hSw'
              obtain ⟨d0, d1, d2, d3⟩ := CF.out w' hSw'
              go_simp
            simp only [Act.put, List.setIfInBounds_toArray, List.set_cons_zero, List.set_cons_succ]
            refine wpAnyH_ready (rs := [19]) (by kernel_rfl) (by simp) ?_
            refine AllReadyH.cons rfl (fun K hK => ?_) AllReadyH.nil
            go_simp
            refine (IA.out _ b3.out).mono ?_
            rintro e w4 ⟨rfl, hb4⟩
            have b4 := keep hb4
            clear hb4
            go_wp2_with fail
            refine hK.out _ _ (b4.out) (fun hHeld3 => ?_)
            clear hK K
            refine takeH (i := 20) 30 (v := .bool false) rfl rfl (by kernel_rfl) (by kernel_rfl) (by kernel_rfl) (fun _ _ _ h => h) (Or.inl ⟨by rfl, ?_⟩) (by assumption) ?_
            · intro w' hSw'
              go_simp
            simp only [Act.put, List.setIfInBounds_toArray, List.set_cons_zero, List.set_cons_succ]
            refine takeH (i := 21) 31 (v := .bool false) rfl rfl (by kernel_rfl) (by kernel_rfl) (by kernel_rfl) (fun _ _ _ h => h) (Or.inl ⟨by rfl, ?_⟩) (by assumption) ?_
            · intro w' hSw'
              go_simp
            simp only [Act.put, List.setIfInBounds_toArray, List.set_cons_zero, List.set_cons_succ]
            refine takeH (i := 0x16) 32 (v := .bool false) rfl rfl (by kernel_rfl) (by kernel_rfl) (by kernel_rfl) (fun _ _ _ h => h) (Or.inl ⟨by rfl, ?_⟩) (by assumption) ?_
            · intro w' hSw'
              go_simp
            simp only [Act.put, List.setIfInBounds_toArray, List.set_cons_zero, List.set_cons_succ]
            refine wpAnyH_done (by kernel_rfl) ?_ _
            go_wp2
            go_roundw
            case rel => exact ⟨j + 1 + 1, by omega, by first | rfl | go_num, HB.out.trans (b4.out.mono HB.out.size), by rw [Bq.ordB_succ, hI.out.2, OK.out]; rfl⟩
            case measure => simp [intOf]; omega
    · obtain rfl : k = n := by omega
      have ll : ¬ (k : Int) < (k : Int) := by omega
      go_wp2
      go_ret
      exact ⟨by rw [hI.out.2]; rfl, HB.out⟩
set_option maxHeartbeats 1000000 in
set_option maxRecDepth 100000 in
theorem rbcheck_any (ao : Option Addr) (n c : Nat) (es : List EV) (w : World) (hsrc : RSrc entKind w ao n c es) (hMAY : ∀ y ∈ es, y.e.key.length ≤ 9223372036854775807 ∧ y.e.val.length ≤ 9223372036854775807) :
    Calls Tryz.prog 64 #[.slice ao n c] w fun e w' => e = .returned (.int .i64 (bchk (es.map (·.e)))) ∧ Below w.heap.size w w' := by
  have hlen : (es.map (·.e)).length = n := by rw [List.length_map]; exact hsrc.len
  by_cases h0 : n = 0
  · rw [bchk_len (by omega)]
    subst h0
    clear hsrc hMAY hlen
    go_enter Tryz.func64, Tryz.ntmps64
    go_wp2
    go_ret
    exact ⟨rfl, Below.refl _ _⟩
  by_cases h8 : 8 < n
  · rw [bchk_len (by omega)]
    have h1 : ¬ (n : Int) < 1 := by omega
    have h2 : 8 < (n : Int) := by omega
    clear hsrc hMAY hlen
    go_enter Tryz.func64, Tryz.ntmps64
    go_wp2
    go_ret
    exact ⟨rfl, Below.refl _ _⟩
  have h1 : ¬ (n : Int) < 1 := by omega
  have h2 : ¬ 8 < (n : Int) := by omega
  have RO := keep (rordered_any ao n c es w (by omega) hsrc hMAY)
  have A : Hid (bchk (es.map (·.e)) = if Bq.ordB (es.map (·.e)) n then 0 else 1) := by
    show _ = _
    unfold bchk Bq.okB
    rw [hlen]
    have e1 : decide (1 ≤ n) = true := decide_eq_true (by omega)
    have e2 : decide (n ≤ 8) = true := decide_eq_true (by omega)
    rw [e1, e2]
    simp
  clear hsrc hMAY hlen
  rw [A.out]
  cases ho : Bq.ordB (es.map (·.e)) n with
  | false =>
    rw [ho] at RO
    clear ho A
    go_enter Tryz.func64, Tryz.ntmps64
    go_wp2_with fail
    refine RO.out.mono ?_
    rintro e w2 ⟨rfl, hb2⟩
    have b2 := keep hb2
    clear hb2
    go_wp2
    go_ret
    exact ⟨rfl, b2.out⟩
  | true =>
    rw [ho] at RO
    clear ho A
    go_enter Tryz.func64, Tryz.ntmps64
    go_wp2_with fail
    refine RO.out.mono ?_
    rintro e w2 ⟨rfl, hb2⟩
    have b2 := keep hb2
    clear hb2
    go_wp2
    go_ret
    exact ⟨rfl, b2.out⟩
end Go.Proofs.YtjblicgbdecbcaaGreat
