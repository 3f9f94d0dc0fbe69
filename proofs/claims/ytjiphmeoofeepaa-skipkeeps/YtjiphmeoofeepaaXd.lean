/- The walk of the document's Put: its loop, its test. -/
import Derived.Test.YtjiphmeoofeepaaXc
import Derived.Test.YtjiphmeoofeepaaVj
import Derived.Deep.RegionHeld3
namespace Go.Proofs.Ytjiphmeoofeepaa
open Go.RowKit
open Sk (Ent)

theorem RMem.src {B : Nat} {w : World} {r : Nat} {ys : List EV} {hs : List Int} (h : RMem B w r ys hs) : ∃ ao c vH, w.heap[r]? = some (.cells #[.slice ao ys.length c, vH] 39) ∧ RSrc entKind w ao ys.length c ys ∧ w.ownsRow B 3 1 vH hs.length (hs.map (Value.int .i64)) ∧ Ents B w (.slice ao ys.length c) ys := by
  obtain ⟨vL, vH, h1, h2, h3⟩ := h.row
  obtain ⟨ao, c, rfl, hr, _⟩ := RSrc.own entKind_ok h2.row (fun y hy => (h2.each y hy).held)
  exact ⟨ao, c, vH, h1, hr, h3, h2⟩
set_option maxHeartbeats 4000000 in
set_option maxRecDepth 100000 in
theorem rput_there (B r : Nat) (ys : List EV) (hs : List Int) (x : EV) (hgt : Int) (w : World) (hM : RMem B w r ys hs) (hln : ys.length ≤ 1000000) (hx : entKind.held w x) (hmay : Sk.may x.e = true) (h1 : 1 ≤ hgt) (h12 : hgt ≤ 12) (hth : Sk.there (ys.map (·.e)) x.e = true) :
    Calls Try.prog 9 #[.pointer (some ⟨r, 0, none⟩), ev x, .int .i64 hgt] w fun e w' => e = .returned (.int .i64 1) ∧ Below w.heap.size w w' := by
  have hkl : x.e.key.length ≤ 64 := by unfold Sk.may at hmay; simp at hmay; omega
  have hvl : x.e.val.length ≤ 1024 := by unfold Sk.may at hmay; simp at hmay; omega
  obtain ⟨K0, hK0⟩ : ∃ K0, Sk.at_ (ys.map (·.e)) x.e = K0 := ⟨_, rfl⟩
  have CUT : Hid (Sk.Cut (Sk.aheadOf x.e.key x.e.seq) (ys.map (·.e)) K0) := by rw [← hK0]; exact Sk.at_cut hM.up x.e
  have hK0n : K0 ≤ ys.length := by have := CUT.out.1; simpa using this
  have TH : Hid (Sk.there (ys.map (·.e)) x.e = true ↔ ∃ y, ys[K0]? = some y ∧ y.e.key = x.e.key ∧ y.e.seq = x.e.seq) := by
    rw [← hK0]
    refine Iff.trans (Sk.there_at hM.up x.e) ⟨?_, ?_⟩
    · rintro ⟨y, hy, h1, h2⟩
      rw [List.getElem?_map] at hy
      obtain ⟨m, hm, rfl⟩ := Option.map_eq_some_iff.1 hy
      exact ⟨m, hm, h1, h2⟩
    · rintro ⟨y, hy, h1, h2⟩
      exact ⟨y.e, by rw [List.getElem?_map, hy]; rfl, h1, h2⟩
  have MAY : Hid (∀ y ∈ ys, y.e.key.length ≤ 64 ∧ y.e.val.length ≤ 1024) := fun y hy => by
    have := hM.may y hy
    unfold Sk.may at this
    simp at this
    omega
  have HX := keep hx
  obtain ⟨ao, c, vH, hrow, hsrc, hvH, hents⟩ := hM.src
  have ROW := keep hrow
  have SRC := keep hsrc
  have VH := keep hvH
  have ENT := keep hents
  have HTH := keep hth
  have L0 : Hid (w.cell? ⟨r, 0, none⟩ = some (.slice ao ys.length c)) := cell_of_row _ _ _ _ _ _ hrow
  have hrl : r < w.heap.size := World.block_lt_of_cell? w ⟨r, 0, none⟩ L0.out
  obtain ⟨kp, kc, vp, vc, key, seq, gone, val⟩ := x
  simp only at hkl hvl
  obtain ⟨W1, hW1⟩ : ∃ W1, w.alloc (.cells #[.slice kp key.length kc, .int .i64 seq, .bool gone, .slice vp val.length vc] 28) = W1 := ⟨_, rfl⟩
  have b1 : Hid (Below w.heap.size w W1) := by rw [← hW1]; exact (Below.refl _ _).alloc (Nat.le_refl _) _
  have g1 : Hid (W1.heap[w.heap.size]? = some (.cells #[.slice kp key.length kc, .int .i64 seq, .bool gone, .slice vp val.length vc] 28)) := by rw [← hW1]; exact heap_alloc_new w _
  have c0 : W1.cell? ⟨w.heap.size, 0, none⟩ = some (.slice kp key.length kc) := cell_of_row _ _ _ _ _ _ g1.out
  have c1 : W1.cell? ⟨w.heap.size, 1, none⟩ = some (.int .i64 seq) := cell_of_row _ _ _ _ _ _ g1.out
  have c2 : W1.cell? ⟨w.heap.size, 2, none⟩ = some (.bool gone) := cell_of_row _ _ _ _ _ _ g1.out
  have c3 : W1.cell? ⟨w.heap.size, 3, none⟩ = some (.slice vp val.length vc) := cell_of_row _ _ _ _ _ _ g1.out
  have EC : Hid (∀ w', Below W1.heap.size W1 w' → w'.cell? ⟨w.heap.size, 0, none⟩ = some (.slice kp key.length kc) ∧ w'.cell? ⟨w.heap.size, 1, none⟩ = some (.int .i64 seq) ∧ w'.cell? ⟨w.heap.size, 2, none⟩ = some (.bool gone) ∧ w'.cell? ⟨w.heap.size, 3, none⟩ = some (.slice vp val.length vc)) := fun w' hb => ⟨below_cell hb c0, below_cell hb c1, below_cell hb c2, below_cell hb c3⟩
  have LC : Hid (∀ w', Below W1.heap.size W1 w' → w'.cell? ⟨r, 0, none⟩ = some (.slice ao ys.length c)) := fun w' hb => below_cell (b1.out.trans (hb.mono b1.out.size)) L0.out
  have CK := keep (rcheck_any ⟨kp, kc, vp, vc, ⟨key, seq, gone, val⟩⟩ W1 (by simp only; omega) (by simp only; omega))
  unfold chk ev at CK
  simp only at CK hmay
  rw [hmay] at CK
  simp only [if_true] at CK
  have k1 : ¬ hgt < 1 := by omega
  have k2 : ¬ 12 < hgt := by omega
  unfold ev
  simp only
  clear hM hx hmay hrow hsrc hvH hents hth hK0
  obtain ⟨N, hN⟩ : ∃ N, ys.length = N := ⟨_, rfl⟩
  have HN := keep hN
  rw [hN] at SRC LC hK0n hln
  clear hN
  go_enter Try.func9, Try.ntmps9
  go_wp2_with fail
  refine CK.out.mono ?_
  rintro e w2 ⟨rfl, hb⟩
  have B2 := keep hb
  clear hb hW1 c0 c1 c2 c3 CK L0
  go_wp2
  go_loopw [7] (fun i wr => ∃ k : Nat, k ≤ K0 ∧ i = .int .i64 (k : Int) ∧ Hid (Below W1.heap.size W1 wr)) (fun i _ => K0 - (intOf i).toNat)
  case atStart => exact ⟨0, Nat.zero_le _, rfl, B2⟩
  case round =>
    obtain ⟨k, hk, rfl, hB⟩ := hrel
    have HB := keep (b1.out.trans (hB.out.mono b1.out.size))
    have l0 := LC.out wr hB.out
    obtain ⟨e0, e1, e2, e3⟩ := EC.out wr hB.out
    have i0 : (0 : Int) ≤ (k : Int) := by omega
    by_cases hkn : k < N
    · obtain ⟨b, off, rfl, _, _⟩ := SRC.out.form entKind_ok (by omega)
      obtain ⟨y, hy⟩ : ∃ y, ys[k]? = some y := ⟨ys[k]'(by rw [HN.out]; exact hkn), List.getElem?_eq_getElem _⟩
      have HY := keep hy
      obtain ⟨p0, p1, p2, p3⟩ := ent_cells (SRC.out.below entKind_ok HB.out) hy
      have hyh := (SRC.out.below entKind_ok HB.out).held y (List.mem_of_getElem? hy)
      have HYH := keep hyh
      have hym := MAY.out y (List.mem_of_getElem? hy)
      have hah : Hid (Sk.aheadOf key seq y.e = true ↔ k < K0) := CUT.out.2 k y.e (by rw [List.getElem?_map, hy]; rfl)
      have ll : (k : Int) < (N : Int) := by omega
      have AH : Hid (∀ w', Below wr.heap.size wr w' → Calls Try.prog 23 #[ev y, ev ⟨kp, kc, vp, vc, ⟨key, seq, gone, val⟩⟩] w' fun e w'' => e = .returned (.bool (decide (k < K0))) ∧ Below wr.heap.size wr w'') := fun w' hb => by
        refine (rahead_any y ⟨kp, kc, vp, vc, ⟨key, seq, gone, val⟩⟩ w' (by omega) (by simp only; omega) (entKind_ok.below hyh hb) (entKind_ok.below HX.out (HB.out.trans (hb.mono HB.out.size)))).mono ?_
        rintro e w'' ⟨rfl, hb'⟩
        refine ⟨?_, hb.trans (hb'.mono hb.size)⟩
        simp only
        rw [show Sk.aheadOf key seq y.e = decide (k < K0) from by rw [Bool.eq_iff_iff, decide_eq_true_eq]; exact hah.out]
      obtain ⟨ykp, ykc, yvp, yvc, ⟨ykey, yseq, ygone, yval⟩⟩ := y
      unfold ev at AH
      simp only at AH p0 p1 p2 p3
      clear hy hyh hym
      have gt : decide ((k : Int) < (N : Int)) = true := decide_eq_true ll
      by_cases hlt : k < K0
      · rw [decide_eq_true hlt] at AH
        go_wp2_with fail
        go_region_held3 (fun w' => w'.cell? ⟨r, 0, none⟩ = some (.slice (some ⟨b, off, none⟩) N c) ∧ w'.cell? ⟨b, off + k * 4, none⟩ = some (.slice ykp ykey.length ykc) ∧ w'.cell? ⟨b, off + k * 4 + 1, none⟩ = some (.int .i64 yseq) ∧ w'.cell? ⟨b, off + k * 4 + 2, none⟩ = some (.bool ygone) ∧ w'.cell? ⟨b, off + k * 4 + 3, none⟩ = some (.slice yvp yval.length yvc) ∧ w'.cell? ⟨w.heap.size, 0, none⟩ = some (.slice kp key.length kc) ∧ w'.cell? ⟨w.heap.size, 1, none⟩ = some (.int .i64 seq) ∧ w'.cell? ⟨w.heap.size, 2, none⟩ = some (.bool gone) ∧ w'.cell? ⟨w.heap.size, 3, none⟩ = some (.slice vp val.length vc))
          (first | exact ⟨l0, p0, p1, p2, p3, e0, e1, e2, e3⟩ | exact ⟨below_cell b4.out l0, below_cell b4.out p0, below_cell b4.out p1, below_cell b4.out p2, below_cell b4.out p3, below_cell b4.out e0, below_cell b4.out e1, below_cell b4.out e2, below_cell b4.out e3⟩)
          ((go_at_call 23; refine (AH.out _ ((Below.refl _ _).drew)).mono ?_; rintro e w4 ⟨rfl, hb4⟩; have b4 := keep hb4; clear hb4))
        go_wp2
        go_roundw
        case rel => exact ⟨k + 1, by omega, by go_num, hB.out.trans (b4.out.mono hB.out.size)⟩
        case measure => simp [intOf]; omega
      · rw [decide_eq_false hlt] at AH
        obtain rfl : k = K0 := by omega
        go_wp2_with fail
        go_region_held3 (fun w' => w'.cell? ⟨r, 0, none⟩ = some (.slice (some ⟨b, off, none⟩) N c) ∧ w'.cell? ⟨b, off + k * 4, none⟩ = some (.slice ykp ykey.length ykc) ∧ w'.cell? ⟨b, off + k * 4 + 1, none⟩ = some (.int .i64 yseq) ∧ w'.cell? ⟨b, off + k * 4 + 2, none⟩ = some (.bool ygone) ∧ w'.cell? ⟨b, off + k * 4 + 3, none⟩ = some (.slice yvp yval.length yvc) ∧ w'.cell? ⟨w.heap.size, 0, none⟩ = some (.slice kp key.length kc) ∧ w'.cell? ⟨w.heap.size, 1, none⟩ = some (.int .i64 seq) ∧ w'.cell? ⟨w.heap.size, 2, none⟩ = some (.bool gone) ∧ w'.cell? ⟨w.heap.size, 3, none⟩ = some (.slice vp val.length vc))
          (first | exact ⟨l0, p0, p1, p2, p3, e0, e1, e2, e3⟩ | exact ⟨below_cell b4.out l0, below_cell b4.out p0, below_cell b4.out p1, below_cell b4.out p2, below_cell b4.out p3, below_cell b4.out e0, below_cell b4.out e1, below_cell b4.out e2, below_cell b4.out e3⟩)
          ((go_at_call 23; refine (AH.out _ ((Below.refl _ _).drew)).mono ?_; rintro e w4 ⟨rfl, hb4⟩; have b4 := keep hb4; clear hb4))
        have B4 := keep (HB.out.trans (b4.out.mono HB.out.size))
        have m0 := below_cell b4.out l0
        have m1 := below_cell b4.out p0
        have m2 := below_cell b4.out p1
        have m3 := below_cell b4.out e0
        have m4 := below_cell b4.out e1
        have v1 := fun n => conv_src ((HYH.out.1.below b4.out).below (below_drewN (Below.refl _ w4) n))
        have v2 := fun n => conv_src ((HX.out.1.below B4.out).below (below_drewN (Below.refl _ w4) n))
        simp only at v1 v2
        clear l0 p0 p1 p2 p3 e0 e1 e2 e3
        obtain ⟨y', hy', hq1, hq2⟩ := TH.out.1 HTH.out
        rw [HY.out] at hy'
        cases hy'
        have f1 : (ykey == key) = true := by simpa using hq1
        have f2 : (yseq == seq) = true := by simpa using hq2
        clear hq1 hq2
        go_wp2_with fail
        go_quiet (fail)
        go_wp2
        go_ret
        exact ⟨rfl, B4.out.trans ((below_drewN (Below.refl _ _) _).mono B4.out.size)⟩
    · have gt : decide ((k : Int) < (N : Int)) = false := decide_eq_false (by omega)
      obtain ⟨y', hy', _, _⟩ := TH.out.1 HTH.out
      have := (List.getElem?_eq_some_iff.1 hy').1
      rw [HN.out] at this
      omega
end Go.Proofs.Ytjiphmeoofeepaa
