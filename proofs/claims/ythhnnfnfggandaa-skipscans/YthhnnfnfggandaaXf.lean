/- The walk of the document's Level. -/
import Derived.Test.YthhnnfnfggandaaXe
import Derived.Test.YthhnnfnfggandaaVn
import Derived.Test.YthhnnfnfggandaaSl
namespace Go.Proofs.Ythhnnfnfggandaa
open Go.RowKit
open Sk (Ent)

theorem rv_num (hs : List Int) : rv numKind hs = hs.map (Value.int .i64) := by
  induction hs with
  | nil => rfl
  | cons a l ih => show [Value.int .i64 a] ++ rv numKind l = _; rw [ih]; rfl
/-- The entries that are at least so high. -/
def lev (l : List (Ent × Int)) (h : Int) : List Ent := (l.filter fun p => decide (h ≤ p.2)).map (·.1)
theorem lev_more {l : List (Ent × Int)} {k : Nat} {e : Ent} {g h : Int} (hk : l[k]? = some (e, g)) : lev (l.take (k + 1)) h = lev (l.take k) h ++ (if h ≤ g then [e] else []) := by
  unfold lev
  rw [List.take_add_one, hk, List.filter_append, List.map_append]
  by_cases hg : h ≤ g
  · rw [if_pos hg]; simp [hg]
  · rw [if_neg hg]; simp [hg]
theorem RMem.nums {B : Nat} {w : World} {r : Nat} {ys : List EV} {hs : List Int} (h : RMem B w r ys hs) : ∃ ao c ah ch, w.cell? ⟨r, 0, none⟩ = some (.slice ao ys.length c) ∧ w.cell? ⟨r, 1, none⟩ = some (.slice ah ys.length ch) ∧ RSrc entKind w ao ys.length c ys ∧ RSrc numKind w ah ys.length ch hs := by
  obtain ⟨ao, c, vH, h1, h2, h3, _⟩ := h.src
  rw [← h.len, ← rv_num] at h3
  obtain ⟨ah, ch, rfl, hr, _⟩ := RSrc.own numKind_ok h3 (fun _ _ => trivial)
  exact ⟨ao, c, ah, ch, cell_of_row _ _ _ _ _ _ h1, cell_of_row _ _ _ _ _ _ h1, h2, hr⟩
set_option maxHeartbeats 2000000 in
set_option maxRecDepth 100000 in
theorem rlevel_any (B r : Nat) (ys : List EV) (hs : List Int) (h : Int) (w : World) (hM : RMem B w r ys hs) (hln : ys.length ≤ 1000000) :
    Calls Try.prog 23 #[.pointer (some ⟨r, 0, none⟩), .int .i64 h] w fun e w' => ∃ v zs, e = .returned v ∧ Ents w.heap.size w' v zs ∧ zs.map (·.e) = lev ((ys.map (·.e)).zip hs) h ∧ Below w.heap.size w w' := by
  have MAY : Hid (∀ y ∈ ys, y.e.key.length ≤ 64 ∧ y.e.val.length ≤ 1024) := hM.small
  obtain ⟨i0, hi0, hz0, hz1, hz2⟩ := info_parts3 infoE
  obtain ⟨ao, c, ah, ch, hl0, hl1, hsrc, hsrh⟩ := hM.nums
  have SRC := keep hsrc
  have SRH := keep hsrh
  have L0 := keep hl0
  have L1 := keep hl1
  have HL := keep hM.len
  have FULL : Hid (((ys.map (·.e)).zip hs).take ys.length = (ys.map (·.e)).zip hs) := List.take_of_length_le (by simp [List.length_zip]; omega)
  clear hM hl0 hl1 hsrc hsrh
  obtain ⟨N, hN⟩ : ∃ N, ys.length = N := ⟨_, rfl⟩
  have HN := keep hN
  rw [hN] at SRC SRH L0 L1 hln FULL HL
  clear hN
  go_enter Try.func23, Try.ntmps23
  go_wp2
  go_loopw [5, 6] (fun v i wr => ∃ (k : Nat) (zs : List EV), k ≤ N ∧ i = .int .i64 (k : Int) ∧ Hid (Ents w.heap.size wr v zs ∧ zs.map (·.e) = lev (((ys.map (·.e)).zip hs).take k) h ∧ Below w.heap.size w wr ∧ zs.length ≤ k)) (fun _ i _ => N - (intOf i).toNat)
  case atStart => exact ⟨0, [], Nat.zero_le _, rfl, Ents.nil _ _, rfl, Below.refl _ _, Nat.le_refl _⟩
  case round =>
    obtain ⟨k, zs, hk, rfl, hI⟩ := hrel
    have HB := keep hI.out.2.2.1
    have l0 := below_cell HB.out L0.out
    have l1 := below_cell HB.out L1.out
    by_cases hkn : k < N
    · obtain ⟨b, off, rfl, _, _⟩ := SRC.out.form entKind_ok (by omega)
      obtain ⟨bh, offh, rfl, _, _⟩ := SRH.out.form numKind_ok (by omega)
      obtain ⟨y, hy⟩ : ∃ y, ys[k]? = some y := ⟨ys[k]'(by rw [HN.out]; exact hkn), List.getElem?_eq_getElem _⟩
      obtain ⟨g, hg⟩ : ∃ g, hs[k]? = some g := ⟨hs[k]'(by rw [← HL.out]; exact hkn), List.getElem?_eq_getElem _⟩
      obtain ⟨p0, p1, p2, p3⟩ := ent_cells (SRC.out.below entKind_ok HB.out) hy
      have pg : wr.cell? ⟨bh, offh + k, none⟩ = some (.int .i64 g) := by
        have := (SRH.out.below numKind_ok HB.out).cells _ rfl (k * numKind.size + 0) (.int .i64 g) ((rv_at numKind_ok 0 hg (by decide)).trans rfl)
        rw [Addr.add_mid] at this
        simp only [numKind, Nat.mul_one, Nat.add_zero] at this
        exact this
      have hyh := (SRC.out.below entKind_ok HB.out).held y (List.mem_of_getElem? hy)
      have hym := MAY.out y (List.mem_of_getElem? hy)
      have MORE := keep (lev_more (l := (ys.map (·.e)).zip hs) (k := k) (e := y.e) (g := g) (h := h) (by rw [List.getElem?_zip_eq_some]; exact ⟨by rw [List.getElem?_map, hy]; rfl, hg⟩))
      have CP := keep (rcopy_any y wr (by omega) (by omega) hyh)
      obtain ⟨xkp, xkc, xvp, xvc, ⟨xkey, xseq, xgone, xval⟩⟩ := y
      unfold ev at CP
      simp only at p0 p1 p2 p3 CP MORE
      clear hy hg hyh hym
      have j0 : (0 : Int) ≤ (k : Int) := by omega
      have ll : (k : Int) < (N : Int) := by omega
      have zl : zs.length ≤ 1000000 := by have := hI.out.2.2.2; omega
      by_cases hgh : h ≤ g
      · rw [if_pos hgh] at MORE
        go_wp2_with fail
        refine CP.out.mono ?_
        rintro e w2 ⟨y, rfl, hye, hyo, hb2⟩
        have HYE := keep hye
        have b3 := keep (hb2.alloc hb2.size (.cells (entKind.vals y).toArray 34))
        have E3 := keep (hI.out.1.below b3.out)
        have O3 := keep ((hyo.base HB.out.size).block ((Below.refl w2.heap.size w2).alloc (Nat.le_refl _) (.cells (entKind.vals y).toArray 34)))
        have BL3 := keep (HB.out.trans (b3.out.mono HB.out.size))
        have rc := keep (rec_cells (k := entKind) w2 34 y)
        obtain ⟨ykp, ykc, yvp, yvc, ⟨ykey, yseq, ygone, yval⟩⟩ := y
        simp only [entKind] at b3 E3 O3 BL3
        simp only
        clear hye hyo hb2 CP p0 p1 p2 p3 pg
        go_wp2_with (at_builtin; go_loud (refine wpList_append_rec entKind_ok rfl _ _ 28 34 rfl w.heap.size i0 _ 64 Try.underlying28 hi0 hz0 hz1 hz2 rfl _ zs.length zs rfl E3.out.row _ 1 (⟨ykp, ykc, yvp, yvc, ⟨ykey, yseq, ygone, yval⟩⟩ : EV) rfl rc.out (by unfold maxLen; omega) (by omega) (Nat.le_trans BL3.out.size (Nat.le_refl _)) ?_); intro v5 w5 ho5 hg5; have HO5 := keep ho5; have HG5 := keep hg5; have BL5 := keep (BL3.out.grown hg5 BL3.out.size (fun j hj => (E3.out.row.lt j hj).1)); clear ho5 hg5)
        have E5 := keep (E3.out.more O3.out HO5.out HG5.out)
        go_roundw
        case rel => exact ⟨k + 1, zs ++ [⟨ykp, ykc, yvp, yvc, ⟨ykey, yseq, ygone, yval⟩⟩], by omega, by go_num, E5.out, by rw [List.map_append, hI.out.2.1, MORE.out]; exact congrArg (lev (((ys.map (·.e)).zip hs).take k) h ++ [·]) HYE.out, BL5.out, by rw [List.length_append, List.length_singleton]; have := hI.out.2.2.2; omega⟩
        case measure => simp [intOf]; omega
      · rw [if_neg hgh, List.append_nil] at MORE
        go_wp2
        go_roundw
        case rel => exact ⟨k + 1, zs, by omega, by go_num, hI.out.1, by rw [MORE.out]; exact hI.out.2.1, HB.out, Nat.le_succ_of_le hI.out.2.2.2⟩
        case measure => simp [intOf]; omega
    · obtain rfl : k = N := by omega
      have ll : ¬ (k : Int) < (k : Int) := by omega
      go_wp2
      go_ret
      exact ⟨_, rfl, zs, hI.out.1, by rw [hI.out.2.1, FULL.out], HB.out⟩
end Go.Proofs.Ythhnnfnfggandaa
