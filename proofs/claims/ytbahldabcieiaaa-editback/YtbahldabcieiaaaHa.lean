/- The walks of Level and Find. -/
import Derived.Test.YtbahldabcieiaaaH9
namespace Go.Proofs.Ytbahldabcieiaaa.Ed
/-- The notes of a level. -/
def level (l : List Nt) (z : Int) : List Nt := l.filter fun m => decide (m.level = z)
theorem level_more {l : List Nt} {k : Nat} {m : Nt} {z : Int} (h : l[k]? = some m) : level (l.take (k + 1)) z = level (l.take k) z ++ (if m.level = z then [m] else []) := by
  unfold level
  rw [List.take_add_one, h, List.filter_append]
  by_cases hz : m.level = z <;> simp [hz]
/-- The Nums of those that may have a key. -/
def find (l : List Nt) (k : List UInt8) : List Int := (l.filter fun m => spans m k).map (·.num)
theorem find_more {l : List Nt} {i : Nat} {m : Nt} {k : List UInt8} (h : l[i]? = some m) : find (l.take (i + 1)) k = find (l.take i) k ++ (if spans m k then [m.num] else []) := by
  unfold find
  rw [List.take_add_one, h, List.filter_append, List.map_append]
  cases hz : spans m k <;> simp [hz]
end Go.Proofs.Ytbahldabcieiaaa.Ed
namespace Go.Proofs.Ytbahldabcieiaaa
open Go.RowKit
open Ed (Nt)

set_option maxHeartbeats 4000000 in
set_option maxRecDepth 100000 in
theorem level_any (x : VV) (z : Int) (w : World) (hx : VV.held w x) (hn : x.n ≤ 1000000) (hsm : ∀ y ∈ x.es, y.m.first.length ≤ 140737488355328 ∧ y.m.last.length ≤ 140737488355328) :
    Calls Try.prog 14 #[x.val, .int .i64 z] w fun e w' => ∃ v ys, e = .returned v ∧ Mets w.heap.size w' v ys ∧ ys.map (·.m) = Ed.level x.v.tabs z ∧ Below w.heap.size w w' := by
  obtain ⟨i0, hi0, hz0, hz1, hz2⟩ := info_partsM infoMeta
  obtain ⟨p, n, c, gen, next, log, seq, es⟩ := x
  have SRC : Hid (RSrc metaKind w p n c es) := hx
  have HN : Hid (es.length = n) := SRC.out.len
  have FULL : Hid ((es.map (·.m)).take n = es.map (·.m)) := List.take_of_length_le (by rw [List.length_map, SRC.out.len]; exact Nat.le_refl _)
  simp only at hn
  unfold VV.val
  simp only
  obtain ⟨W1, hW1⟩ : ∃ Wn, w.alloc (.cells #[.int .i64 gen, .int .i64 next, .int .i64 log, .int .i64 seq, .slice p n c] 30) = Wn := ⟨_, rfl⟩
  have b1 : Hid (Below w.heap.size w W1) := by rw [← hW1]; exact (Below.refl _ _).alloc (Nat.le_refl _) _
  have g1 : Hid (W1.heap[w.heap.size]? = some (.cells #[.int .i64 gen, .int .i64 next, .int .i64 log, .int .i64 seq, .slice p n c] 30)) := by rw [← hW1]; exact heap_alloc_new w _
  have v4 : W1.cell? ⟨w.heap.size, 4, none⟩ = some (.slice p n c) := cell_of_row _ _ _ _ _ _ g1.out
  have SM : Hid (∀ y ∈ es, y.m.first.length ≤ 140737488355328 ∧ y.m.last.length ≤ 140737488355328) := hsm
  show Calls _ _ _ _ fun e w' => ∃ v ys, e = .returned v ∧ Mets w.heap.size w' v ys ∧ ys.map (·.m) = Ed.level (es.map (·.m)) z ∧ Below w.heap.size w w'
  clear hx hsm
  go_enter Try.func14, Try.ntmps14
  go_wp2
  go_loopw [5, 11] (fun v i wr => ∃ (k : Nat) (ys : List MV), k ≤ n ∧ i = .int .i64 (k : Int) ∧ Hid (CopI w (Ed.level ((es.map (·.m)).take k) z) ys k v wr)) (fun _ i _ => n - (intOf i).toNat)
  case atStart => exact ⟨0, [], Nat.zero_le _, rfl, Mets.nil _ _, rfl, b1.out, Nat.le_refl _⟩
  case round =>
    obtain ⟨k, ys, hk, rfl, hI⟩ := hrel
    have HB := keep hI.out.below
    clear hW1 v4
    by_cases hkn : k < n
    · have NL := keep hkn
      obtain ⟨b, off, rfl, _, _⟩ := SRC.out.form metaKind_ok (by omega)
      obtain ⟨y, hy⟩ : ∃ y, es[k]? = some y := ⟨es[k]'(by rw [HN.out]; exact hkn), List.getElem?_eq_getElem _⟩
      have SE : Hid (∀ w', Below wr.heap.size wr w' → RSrc metaKind w' (some ⟨b, off, none⟩) n c es) := fun w' hb => SRC.out.below metaKind_ok (HB.out.trans (hb.mono HB.out.size))
      obtain ⟨p0, p1, p2, p3, p4⟩ := meta_cells (SE.out wr (Below.refl _ _)) hy
      have SMK := SM.out y (List.mem_of_getElem? hy)
      have CP : Hid (∀ w', Below wr.heap.size wr w' → _) := fun w' hb => mcopied_any y w' SMK.1 SMK.2 ((SE.out w' hb).held y (List.mem_of_getElem? hy))
      have HY : Hid ((es.map (·.m))[k]? = some y.m) := by show _ = _; rw [List.getElem?_map, hy]; rfl
      clear hy SMK
      have ll : (k : Int) < (n : Int) := by omega
      have l0 : (0 : Int) ≤ (k : Int) := by omega
      obtain ⟨yfp, yfc, ylp, ylc, ⟨ynum, ylevel, ycount, yfirst, ylast⟩⟩ := y
      unfold mv at CP
      simp only at p0 p1 p2 p3 p4 CP HY
      obtain ⟨W2, hW2⟩ : ∃ W2, wr.alloc (.cells #[.int .i64 ynum, .int .i64 ylevel, .int .i64 ycount, .slice yfp yfirst.length yfc, .slice ylp ylast.length ylc] 52) = W2 := ⟨_, rfl⟩
      have b2 : Hid (Below wr.heap.size wr W2) := by rw [← hW2]; exact (Below.refl _ _).alloc (Nat.le_refl _) _
      have g2 : Hid (W2.heap[wr.heap.size]? = some (.cells #[.int .i64 ynum, .int .i64 ylevel, .int .i64 ycount, .slice yfp yfirst.length yfc, .slice ylp ylast.length ylc] 52)) := by rw [← hW2]; exact heap_alloc_new wr _
      have c0 : W2.cell? ⟨wr.heap.size, 0, none⟩ = some (.int .i64 ynum) := cell_of_row _ _ _ _ _ _ g2.out
      have c1 : W2.cell? ⟨wr.heap.size, 1, none⟩ = some (.int .i64 ylevel) := cell_of_row _ _ _ _ _ _ g2.out
      have c2 : W2.cell? ⟨wr.heap.size, 2, none⟩ = some (.int .i64 ycount) := cell_of_row _ _ _ _ _ _ g2.out
      have c3 : W2.cell? ⟨wr.heap.size, 3, none⟩ = some (.slice yfp yfirst.length yfc) := cell_of_row _ _ _ _ _ _ g2.out
      have c4 : W2.cell? ⟨wr.heap.size, 4, none⟩ = some (.slice ylp ylast.length ylc) := cell_of_row _ _ _ _ _ _ g2.out
      have LM := keep (Ed.level_more (z := z) HY.out)
      simp only at LM
      by_cases hz : ylevel = z
      · have hzb : (ylevel == z) = true := by simp [hz]
        rw [if_pos hz] at LM
        subst hz
        go_wp2_with fail
        refine (CP.out W2 b2.out).mono ?_
        rintro e w3 ⟨z, rfl, hze, hzo, hb3⟩
        have HZE := keep hze
        have b3 := keep (hb3.alloc hb3.size (.cells (metaKind.vals z).toArray 52))
        have BW3 := keep (b2.out.trans (b3.out.mono b2.out.size))
        have E3 := keep (hI.out.row.below BW3.out)
        have BL3 := keep (HB.out.trans (BW3.out.mono HB.out.size))
        have O3 := keep ((hzo.base (Nat.le_trans HB.out.size b2.out.size)).block ((Below.refl w3.heap.size w3).alloc (Nat.le_refl _) (.cells (metaKind.vals z).toArray 52)))
        have rc := keep (rec_cells (k := metaKind) w3 52 z)
        have hyl := hI.out.len
        have hyl2 : ys.length ≤ 1000000 := by omega
        obtain ⟨zfp, zfc, zlp, zlc, ⟨znum, zlevel, zcount, zfirst, zlast⟩⟩ := z
        simp only [metaKind] at b3 E3 O3 BL3 BW3
        simp only
        clear hze hzo hb3 CP c0 c1 c2 c3 c4 p0 p1 p2 p3 p4 hW2
        go_wp2_with (first
          | (at_builtin; go_loud (refine wpList_append_rec metaKind_ok rfl _ _ 28 52 rfl w.heap.size i0 _ 72 Try.underlying28 hi0 hz0 hz1 hz2 rfl u5 ys.length ys rfl E3.out.row _ 1 (⟨zfp, zfc, zlp, zlc, ⟨znum, zlevel, zcount, zfirst, zlast⟩⟩ : MV) rfl rc.out (by unfold maxLen; omega) (by omega) (Nat.le_trans BL3.out.size (Nat.le_refl _)) ?_); intro v5 w5 ho5 hg5; have HO5 := keep ho5; have HG5 := keep hg5; have BL5 := keep (BL3.out.grown hg5 BL3.out.size (fun j hj => (E3.out.row.lt j hj).1)); clear ho5 hg5))
        have E5 := keep (E3.out.more O3.out HO5.out HG5.out)
        go_roundw
        case rel => exact ⟨k + 1, ys ++ [⟨zfp, zfc, zlp, zlc, ⟨znum, zlevel, zcount, zfirst, zlast⟩⟩], by omega, by go_num, E5.out, by rw [List.map_append, hI.out.val, LM.out]; exact congrArg (_ ++ [·]) HZE.out, BL5.out, by rw [List.length_append, List.length_singleton]; have := hI.out.len; omega⟩
        case measure => simp [intOf]; omega
      · have hzb : (ylevel == z) = false := by simp [hz]
        rw [if_neg hz, List.append_nil] at LM
        go_wp2
        go_roundw
        case rel => exact ⟨k + 1, ys, by omega, by go_num, hI.out.row.below b2.out, by rw [hI.out.val, LM.out], HB.out.trans (b2.out.mono HB.out.size), by have := hI.out.len; omega⟩
        case measure => simp [intOf]; omega
    · obtain rfl : k = n := by omega
      go_wp2
      go_ret
      exact ⟨_, ys, rfl, hI.out.row, by rw [hI.out.val, FULL.out], HB.out⟩
set_option maxHeartbeats 4000000 in
set_option maxRecDepth 100000 in
theorem find_any (x : VV) (kp : Option Addr) (K kc : Nat) (key : List UInt8) (w : World) (hx : VV.held w x) (hkey : Src w kp K kc key) (hn : x.n ≤ 1000000) :
    Calls Try.prog 16 #[x.val, .slice kp K kc] w fun e w' => ∃ v, e = .returned v ∧ w'.ownsRow w.heap.size 3 1 v (Ed.find x.v.tabs key).length ((Ed.find x.v.tabs key).map (Value.int .i64)) ∧ Below w.heap.size w w' := by
  obtain ⟨j0, ji, jz0, jz1, jz2⟩ := info_partsM infoInt
  obtain ⟨p, n, c, gen, next, log, seq, es⟩ := x
  have SRC : Hid (RSrc metaKind w p n c es) := hx
  have HN : Hid (es.length = n) := SRC.out.len
  have FULL : Hid ((es.map (·.m)).take n = es.map (·.m)) := List.take_of_length_le (by rw [List.length_map, SRC.out.len]; exact Nat.le_refl _)
  simp only at hn
  unfold VV.val
  simp only
  obtain ⟨W1, hW1⟩ : ∃ Wn, w.alloc (.cells #[.int .i64 gen, .int .i64 next, .int .i64 log, .int .i64 seq, .slice p n c] 30) = Wn := ⟨_, rfl⟩
  have b1 : Hid (Below w.heap.size w W1) := by rw [← hW1]; exact (Below.refl _ _).alloc (Nat.le_refl _) _
  have g1 : Hid (W1.heap[w.heap.size]? = some (.cells #[.int .i64 gen, .int .i64 next, .int .i64 log, .int .i64 seq, .slice p n c] 30)) := by rw [← hW1]; exact heap_alloc_new w _
  have v4 : W1.cell? ⟨w.heap.size, 4, none⟩ = some (.slice p n c) := cell_of_row _ _ _ _ _ _ g1.out
  have HKEY := keep hkey
  show Calls _ _ _ _ fun e w' => ∃ v, e = .returned v ∧ w'.ownsRow w.heap.size 3 1 v (Ed.find (es.map (·.m)) key).length ((Ed.find (es.map (·.m)) key).map (Value.int .i64)) ∧ Below w.heap.size w w'
  clear hx hkey
  go_enter Try.func16, Try.ntmps16
  go_wp2
  go_loopw [5, 11] (fun v i wr => ∃ (k : Nat) (zs : List Int) (N : Nat), k ≤ n ∧ i = .int .i64 (k : Int) ∧ Hid (Ed.find ((es.map (·.m)).take k) key = zs) ∧ N ≤ k ∧ Hid (wr.ownsRow w.heap.size 3 1 v N (zs.map (Value.int .i64)) ∧ Below w.heap.size w wr)) (fun _ i _ => n - (intOf i).toNat)
  case atStart => exact ⟨0, [], 0, Nat.zero_le _, rfl, rfl, Nat.le_refl _, World.ownsRow_nil _ _ _ _, b1.out⟩
  case round =>
    obtain ⟨k, zs, N, hk, rfl, hZ, hN, hI⟩ := hrel
    have HB := keep hI.out.2
    clear hW1 v4
    by_cases hkn : k < n
    · have NL := keep hkn
      obtain ⟨b, off, rfl, _, _⟩ := SRC.out.form metaKind_ok (by omega)
      obtain ⟨y, hy⟩ : ∃ y, es[k]? = some y := ⟨es[k]'(by rw [HN.out]; exact hkn), List.getElem?_eq_getElem _⟩
      have SE : Hid (∀ w', Below wr.heap.size wr w' → RSrc metaKind w' (some ⟨b, off, none⟩) n c es) := fun w' hb => SRC.out.below metaKind_ok (HB.out.trans (hb.mono HB.out.size))
      obtain ⟨p0, p1, p2, p3, p4⟩ := meta_cells (SE.out wr (Below.refl _ _)) hy
      have CP : Hid (∀ w', Below wr.heap.size wr w' → _) := fun w' hb => spans_any y kp K kc key w' ((SE.out w' hb).held y (List.mem_of_getElem? hy)) (HKEY.out.below (HB.out.trans (hb.mono HB.out.size)))
      have HY : Hid ((es.map (·.m))[k]? = some y.m) := by show _ = _; rw [List.getElem?_map, hy]; rfl
      clear hy
      have ll : (k : Int) < (n : Int) := by omega
      have l0 : (0 : Int) ≤ (k : Int) := by omega
      obtain ⟨yfp, yfc, ylp, ylc, ⟨ynum, ylevel, ycount, yfirst, ylast⟩⟩ := y
      unfold mv at CP
      simp only at p0 p1 p2 p3 p4 CP HY
      obtain ⟨W2, hW2⟩ : ∃ W2, wr.alloc (.cells #[.int .i64 ynum, .int .i64 ylevel, .int .i64 ycount, .slice yfp yfirst.length yfc, .slice ylp ylast.length ylc] 52) = W2 := ⟨_, rfl⟩
      have b2 : Hid (Below wr.heap.size wr W2) := by rw [← hW2]; exact (Below.refl _ _).alloc (Nat.le_refl _) _
      have g2 : Hid (W2.heap[wr.heap.size]? = some (.cells #[.int .i64 ynum, .int .i64 ylevel, .int .i64 ycount, .slice yfp yfirst.length yfc, .slice ylp ylast.length ylc] 52)) := by rw [← hW2]; exact heap_alloc_new wr _
      have c0 : W2.cell? ⟨wr.heap.size, 0, none⟩ = some (.int .i64 ynum) := cell_of_row _ _ _ _ _ _ g2.out
      have c1 : W2.cell? ⟨wr.heap.size, 1, none⟩ = some (.int .i64 ylevel) := cell_of_row _ _ _ _ _ _ g2.out
      have c2 : W2.cell? ⟨wr.heap.size, 2, none⟩ = some (.int .i64 ycount) := cell_of_row _ _ _ _ _ _ g2.out
      have c3 : W2.cell? ⟨wr.heap.size, 3, none⟩ = some (.slice yfp yfirst.length yfc) := cell_of_row _ _ _ _ _ _ g2.out
      have c4 : W2.cell? ⟨wr.heap.size, 4, none⟩ = some (.slice ylp ylast.length ylc) := cell_of_row _ _ _ _ _ _ g2.out
      have LM := keep (Ed.find_more (k := key) HY.out)
      simp only at LM
      obtain ⟨q, hq⟩ : ∃ q, Ed.spans ⟨ynum, ylevel, ycount, yfirst, ylast⟩ key = q := ⟨_, rfl⟩
      rw [hq] at CP LM
      clear hq
      cases q with
      | true =>
        rw [if_pos rfl, hZ.out] at LM
        go_wp2_with fail
        refine (CP.out W2 b2.out).mono ?_
        rintro e w3 ⟨rfl, hb3⟩
        have b3 := keep (b2.out.trans (hb3.mono b2.out.size))
        have o3 := keep (own_block (w' := w3) hI.out.1 (fun g hg => b3.out.block g (own_size hI.out.1 hg)))
        have B3 := keep (HB.out.trans (b3.out.mono HB.out.size))
        have d0 : w3.cell? ⟨wr.heap.size, 0, none⟩ = some (.int .i64 ynum) := belowE hb3 c0
        clear hb3 CP c0 c1 c2 c3 c4 p0 p1 p2 p3 p4 hW2
        go_wp2_with (at_builtin; refine wpList_append_own _ rfl _ _ 25 rfl w.heap.size 3 j0 (.int .i64 0) 1 8 Try.underlying25 ji jz0 jz1 jz2 rfl (by decide) _ N _ rfl (o3.out.alloc _) ⟨w3.heap.size, 0, none⟩ 1 1 [.int .i64 ynum] rfl rfl (cell_one_new _ _ _) (by simp [Value.oneCell']) (by unfold maxLen; omega) (by omega) (le_alloc B3.out.size _) ?_; intro v4 w4 ho4 hg4 hn4; have O4 := keep ho4; have B4 := keep ((B3.out.alloc B3.out.size _).grown hg4 (le_alloc B3.out.size _) (fun j hj => (o3.out.lt j hj).1)); clear ho4 hg4 hn4)
        go_roundw
        case rel => exact ⟨k + 1, _, N + 1, by omega, by go_num, LM, by omega, by rw [List.map_append]; exact O4.out, B4.out⟩
        case measure => simp [intOf]; omega
      | false =>
        rw [if_neg (by decide), List.append_nil, hZ.out] at LM
        go_wp2_with fail
        refine (CP.out W2 b2.out).mono ?_
        rintro e w3 ⟨rfl, hb3⟩
        have b3 := keep (b2.out.trans (hb3.mono b2.out.size))
        have o3 := keep (own_block (w' := w3) hI.out.1 (fun g hg => b3.out.block g (own_size hI.out.1 hg)))
        have B3 := keep (HB.out.trans (b3.out.mono HB.out.size))
        clear hb3 CP c0 c1 c2 c3 c4 p0 p1 p2 p3 p4 hW2
        go_wp2
        go_roundw
        case rel => exact ⟨k + 1, zs, N, by omega, by go_num, LM, by omega, o3.out, B3.out⟩
        case measure => simp [intOf]; omega
    · obtain rfl : k = n := by omega
      have Z1 := hZ.out
      rw [FULL.out] at Z1
      have L1 : zs.length = N := by have := hI.out.1.1; simpa using this
      have Z2 := keep Z1
      have L2 := keep L1
      clear Z1 L1
      go_wp2
      go_ret
      exact ⟨_, rfl, by rw [Z2.out, L2.out]; exact hI.out.1, HB.out⟩
end Go.Proofs.Ytbahldabcieiaaa
