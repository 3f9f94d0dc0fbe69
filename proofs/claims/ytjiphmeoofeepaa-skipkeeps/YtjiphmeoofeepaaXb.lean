/- The walks of the document's Check and Ahead. -/
import Derived.Test.YtjiphmeoofeepaaXa
namespace Go.Proofs.Ytjiphmeoofeepaa
open Go.RowKit
open Sk (Ent)

theorem chk_bad {e : Ent} (h : ¬ Sk.may e = true) : chk e = 1 := by unfold chk; rw [if_neg h]
theorem chk_good {e : Ent} (h : Sk.may e = true) : chk e = 0 := by unfold chk; rw [if_pos h]
set_option maxHeartbeats 2000000 in
set_option maxRecDepth 100000 in
theorem rcheck_any (x : EV) (w : World) (hk : x.e.key.length ≤ 9223372036854775807) (hv : x.e.val.length ≤ 9223372036854775807) : Calls Try.prog 22 #[ev x] w fun e w' => e = .returned (.int .i64 (chk x.e)) ∧ Below w.heap.size w w' := by
  obtain ⟨kp, kc, vp, vc, key, seq, gone, val⟩ := x
  simp only at hk hv
  unfold ev
  simp only
  have hal := keep ((Below.refl w.heap.size w).alloc (Nat.le_refl _) (.cells #[.slice kp key.length kc, .int .i64 seq, .bool gone, .slice vp val.length vc] 28))
  obtain ⟨K, hK⟩ : ∃ K, key.length = K := ⟨_, rfl⟩
  obtain ⟨V, hV⟩ : ∃ V, val.length = V := ⟨_, rfl⟩
  rw [hK] at hk hal ⊢
  rw [hV] at hv hal ⊢
  by_cases c1 : (K : Int) < 1
  · have A := keep (chk_bad (show ¬ Sk.may ⟨key, seq, gone, val⟩ = true from by simp only [Sk.may, hK, hV, Bool.and_eq_true, decide_eq_true_eq]; omega))
    clear hK hV
    go_enter Try.func22, Try.ntmps22
    go_wp2
    go_ret
    exact ⟨by rw [A.out]; rfl, hal.out⟩
  by_cases c2 : 64 < (K : Int)
  · have A := keep (chk_bad (show ¬ Sk.may ⟨key, seq, gone, val⟩ = true from by simp only [Sk.may, hK, hV, Bool.and_eq_true, decide_eq_true_eq]; omega))
    clear hK hV
    go_enter Try.func22, Try.ntmps22
    go_wp2
    go_ret
    exact ⟨by rw [A.out]; rfl, hal.out⟩
  by_cases c3 : seq < 0
  · have A := keep (chk_bad (show ¬ Sk.may ⟨key, seq, gone, val⟩ = true from by simp only [Sk.may, hK, hV, Bool.and_eq_true, decide_eq_true_eq]; omega))
    clear hK hV
    go_enter Try.func22, Try.ntmps22
    go_wp2
    go_ret
    exact ⟨by rw [A.out]; rfl, hal.out⟩
  by_cases c4 : 1099511627776 < seq
  · have A := keep (chk_bad (show ¬ Sk.may ⟨key, seq, gone, val⟩ = true from by simp only [Sk.may, hK, hV, Bool.and_eq_true, decide_eq_true_eq]; omega))
    clear hK hV
    go_enter Try.func22, Try.ntmps22
    go_wp2
    go_ret
    exact ⟨by rw [A.out]; rfl, hal.out⟩
  by_cases c5 : 1024 < (V : Int)
  · have A := keep (chk_bad (show ¬ Sk.may ⟨key, seq, gone, val⟩ = true from by simp only [Sk.may, hK, hV, Bool.and_eq_true, decide_eq_true_eq]; omega))
    clear hK hV
    go_enter Try.func22, Try.ntmps22
    go_wp2
    go_ret
    exact ⟨by rw [A.out]; rfl, hal.out⟩
  cases gone
  · have A := keep (chk_good (show Sk.may ⟨key, seq, false, val⟩ = true from by simp only [Sk.may, hK, hV, Bool.false_and, Bool.not_false, Bool.and_eq_true, decide_eq_true_eq, and_true]; omega))
    clear hK hV
    go_enter Try.func22, Try.ntmps22
    go_wp2
    go_ret
    exact ⟨by rw [A.out]; rfl, hal.out⟩
  · by_cases c6 : 0 < (V : Int)
    · have A := keep (chk_bad (show ¬ Sk.may ⟨key, seq, true, val⟩ = true from by simp only [Sk.may, hK, hV, Bool.true_and, Bool.and_eq_true, decide_eq_true_eq, Bool.not_eq_true', decide_eq_false_iff_not]; omega))
      clear hK hV
      go_enter Try.func22, Try.ntmps22
      go_wp2
      go_ret
      exact ⟨by rw [A.out]; rfl, hal.out⟩
    · have A := keep (chk_good (show Sk.may ⟨key, seq, true, val⟩ = true from by simp only [Sk.may, hK, hV, Bool.true_and, Bool.and_eq_true, decide_eq_true_eq, Bool.not_eq_true', decide_eq_false_iff_not]; omega))
      clear hK hV
      go_enter Try.func22, Try.ntmps22
      go_wp2
      go_ret
      exact ⟨by rw [A.out]; rfl, hal.out⟩
set_option maxHeartbeats 1000000 in
set_option maxRecDepth 100000 in
theorem rahead_any (x y : EV) (w : World) (hxk : x.e.key.length ≤ 140737488355328) (hyk : y.e.key.length ≤ 140737488355328) (hx : entKind.held w x) (hy : entKind.held w y) :
    Calls Try.prog 23 #[ev x, ev y] w fun e w' => e = .returned (.bool (Sk.aheadOf y.e.key y.e.seq x.e)) ∧ Below w.heap.size w w' := by
  obtain ⟨xkp, xkc, xvp, xvc, xkey, xseq, xgone, xval⟩ := x
  obtain ⟨ykp, ykc, yvp, yvc, ykey, yseq, ygone, yval⟩ := y
  unfold Sk.aheadOf
  simp only
  have a1 : Src w xkp xkey.length xkc xkey := hx.1
  have b1 : Src w ykp ykey.length ykc ykey := hy.1
  clear hx hy
  unfold ev
  simp only at hxk hyk ⊢
  obtain ⟨W, hW⟩ : ∃ W, (w.alloc (.cells #[.slice xkp xkey.length xkc, .int .i64 xseq, .bool xgone, .slice xvp xval.length xvc] 28)).alloc (.cells #[.slice ykp ykey.length ykc, .int .i64 yseq, .bool ygone, .slice yvp yval.length yvc] 28) = W := ⟨_, rfl⟩
  have bW : Hid (Below w.heap.size w W) := by rw [← hW]; exact ((Below.refl _ _).alloc (Nat.le_refl _) _).alloc (by simp) _
  have d1 := conv_src (a1.below bW.out)
  have d3 := conv_src (b1.below bW.out)
  have LS := keep (refLess_any xkp xkey.length xkc xkey ykp ykey.length ykc ykey W hxk hyk (a1.below bW.out) (b1.below bW.out))
  have g0 : W.heap[w.heap.size]? = some (.cells #[.slice xkp xkey.length xkc, .int .i64 xseq, .bool xgone, .slice xvp xval.length xvc] 28) := by
    rw [← hW]; exact (Below.heap_alloc _ _ _ (by simp)).trans (heap_alloc_new w _)
  have g1 : W.heap[w.heap.size + 1]? = some (.cells #[.slice ykp ykey.length ykc, .int .i64 yseq, .bool ygone, .slice yvp yval.length yvc] 28) := by
    have := heap_alloc_new (w.alloc (.cells #[.slice xkp xkey.length xkc, .int .i64 xseq, .bool xgone, .slice xvp xval.length xvc] 28)) (.cells #[.slice ykp ykey.length ykc, .int .i64 yseq, .bool ygone, .slice yvp yval.length yvc] 28)
    rw [World.size_alloc] at this
    rw [← hW]; exact this
  have p0 : W.cell? ⟨w.heap.size, 0, none⟩ = some (.slice xkp xkey.length xkc) := cell_of_row _ _ _ _ _ _ g0
  have p1 : W.cell? ⟨w.heap.size, 1, none⟩ = some (.int .i64 xseq) := cell_of_row _ _ _ _ _ _ g0
  have r0 : W.cell? ⟨w.heap.size + 1, 0, none⟩ = some (.slice ykp ykey.length ykc) := cell_of_row _ _ _ _ _ _ g1
  have r1 : W.cell? ⟨w.heap.size + 1, 1, none⟩ = some (.int .i64 yseq) := cell_of_row _ _ _ _ _ _ g1
  clear a1 b1 g0 g1
  by_cases hq : xkey = ykey
  · have f1 : (xkey == ykey) = true := by simpa using hq
    rw [if_pos hq]
    clear hq
    go_enter Try.func23, Try.ntmps23
    go_wp2
    go_ret
    exact ⟨rfl, bW.out⟩
  · have f1 : (xkey == ykey) = false := by simpa using hq
    rw [if_neg hq]
    clear hq
    go_enter Try.func23, Try.ntmps23
    go_wp2_with fail
    refine LS.out.mono ?_
    rintro e w2 ⟨rfl, hb⟩
    have B2 := keep hb
    clear hb
    go_wp2
    go_ret
    exact ⟨rfl, bW.out.trans (B2.out.mono bW.out.size)⟩
end Go.Proofs.Ytjiphmeoofeepaa
