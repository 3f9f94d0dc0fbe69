/- The walks of the document's Level and Find. -/
import Derived.Test.YtbahldabcieiaaaRq2
import Derived.Test.YtbahldabcieiaaaHa
namespace Go.Proofs.Ytbahldabcieiaaa
open Go.RowKit
open Ed (Nt)

/-- A row of the document's notes, each with bytes of its own. -/
structure NotR (B : Nat) (w : World) (v : Value) (ys : List MV) : Prop where
  row : w.ownsRow B 61 5 v ys.length (rv metaKind ys)
  each : ∀ y ∈ ys, OwnM B w y
theorem NotR.nil (B : Nat) (w : World) : NotR B w (.slice none 0 0) [] := ⟨World.ownsRow_nil _ _ _ _, fun y h => by cases h⟩
theorem NotR.below {B : Nat} {w w' : World} {v : Value} {ys : List MV} (h : NotR B w v ys) (hb : Below w.heap.size w w') : NotR B w' v ys := ⟨own_block h.row (fun g hg => hb.block g (own_size h.row hg)), fun y hy => (h.each y hy).block hb⟩
theorem OwnM.grownR {B : Nat} {w w' : World} {v : Value} {n : Nat} {xs : List Value} {y : MV} (h : OwnM B w y) (hv : w.ownsRow B 61 5 v n xs) (hg : w.grownBy w' v.ownBlock) : OwnM B w' y :=
  ⟨own_apartT h.1 hv hg (by decide), own_apartT h.2 hv hg (by decide)⟩
theorem NotR.more {B : Nat} {w w' : World} {v v' : Value} {ys : List MV} {y : MV} (h : NotR B w v ys) (hy : OwnM B w y) (ho : w'.ownsRow B 61 5 v' (ys.length + 1) (rv metaKind (ys ++ [y]))) (hg : w.grownBy w' v.ownBlock) : NotR B w' v' (ys ++ [y]) :=
  ⟨by rw [List.length_append]; exact ho, fun z hz => by
    rcases List.mem_append.1 hz with hz | hz
    · exact (h.each z hz).grownR h.row hg
    · rw [List.mem_singleton.1 hz]; exact hy.grownR h.row hg⟩
theorem NotR.src {B : Nat} {w : World} {v : Value} {ys : List MV} (h : NotR B w v ys) : ∃ ao c, v = .slice ao ys.length c ∧ RSrc metaKind w ao ys.length c ys ∧ c ≤ maxLen := RSrc.own metaKind_ok h.row (fun y hy => (h.each y hy).held)
/-- How far a walk over notes has come. -/
structure NotI (w : World) (l : List Nt) (ys : List MV) (k : Nat) (v : Value) (wr : World) : Prop where
  row : NotR w.heap.size wr v ys
  val : ys.map (·.m) = l
  below : Below w.heap.size w wr
  len : ys.length ≤ k

set_option maxHeartbeats 4000000 in
set_option maxRecDepth 100000 in
theorem rlevel_any (x : VV) (z : Int) (w : World) (hx : VV.held w x) (hn : x.n ≤ 1000000) (hsm : ∀ y ∈ x.es, y.m.first.length ≤ 140737488355328 ∧ y.m.last.length ≤ 140737488355328) :
    Calls Try.prog 15 #[x.val, .int .i64 z] w fun e w' => ∃ v ys, e = .returned v ∧ NotR w.heap.size w' v ys ∧ ys.map (·.m) = Ed.level x.v.tabs z ∧ Below w.heap.size w w' := by
  obtain ⟨i0, hi0, hz0, hz1, hz2⟩ := info_partsM infoNoteR
  obtain ⟨p, n, c, gen, next, log, seq, es⟩ := x
  have SRC : Hid (RSrc metaKind w p n c es) := hx
  have HN : Hid (es.length = n) := SRC.out.len
  have FULL : Hid ((es.map (·.m)).take n = es.map (·.m)) := List.take_of_length_le (by rw [List.length_map, SRC.out.len]; exact Nat.le_refl _)
  simp only at hn
  unfold VV.val
  simp only
  obtain ⟨W1, hW1⟩ : ∃ Wn, w.alloc (.cells #[.int .i64 gen, .int .i64 next, .int .i64 log, .int .i64 seq, .slice p n c] 24) = Wn := ⟨_, rfl⟩
  have b1 : Hid (Below w.heap.size w W1) := by rw [← hW1]; exact (Below.refl _ _).alloc (Nat.le_refl _) _
  have g1 : Hid (W1.heap[w.heap.size]? = some (.cells #[.int .i64 gen, .int .i64 next, .int .i64 log, .int .i64 seq, .slice p n c] 24)) := by rw [← hW1]; exact heap_alloc_new w _
  have s1 : Hid (w.heap.size < W1.heap.size) := by rw [← hW1]; show _ < _; simp
  have SM : Hid (∀ y ∈ es, y.m.first.length ≤ 140737488355328 ∧ y.m.last.length ≤ 140737488355328) := hsm
  show Calls _ _ _ _ fun e w' => ∃ v ys, e = .returned v ∧ NotR w.heap.size w' v ys ∧ ys.map (·.m) = Ed.level (es.map (·.m)) z ∧ Below w.heap.size w w'
  clear hx hsm
  obtain ⟨E0, hE0⟩ : ∃ E0, w.heap.size = E0 := ⟨_, rfl⟩
  have HE0 := keep hE0
  go_enter Try.func15, Try.ntmps15
  go_wp2
  rw [hE0] at g1
  go_loopw [5, 6] (fun v i wr => ∃ (k : Nat) (ys : List MV), k ≤ n ∧ i = .int .i64 (k : Int) ∧ Hid (NotI W1 (Ed.level ((es.map (·.m)).take k) z) ys k v wr)) (fun _ i _ => n - (intOf i).toNat)
  case atStart => exact ⟨0, [], Nat.zero_le _, rfl, NotR.nil _ _, rfl, Below.refl _ _, Nat.le_refl _⟩
  case round =>
    obtain ⟨k, ys, hk, rfl, hI⟩ := hrel
    have HB1 := keep hI.out.below
    have HB := keep (b1.out.trans (HB1.out.mono b1.out.size))
    have v4 : wr.cell? ⟨E0, 4, none⟩ = some (.slice p n c) := belowE HB1.out (cell_of_row _ _ _ _ _ _ g1.out)
    clear hW1
    have hyl := hI.out.len
    by_cases hkn : k < n
    · obtain ⟨b, off, rfl, _, _⟩ := SRC.out.form metaKind_ok (by omega)
      obtain ⟨y, hy⟩ : ∃ y, es[k]? = some y := ⟨es[k]'(by rw [HN.out]; exact hkn), List.getElem?_eq_getElem _⟩
      have SE := SRC.out.below metaKind_ok HB.out
      obtain ⟨p0, p1, p2, p3, p4⟩ := meta_cells SE hy
      have SMK := SM.out y (List.mem_of_getElem? hy)
      have CP := keep (rmcopy_any y wr SMK.1 SMK.2 (SE.held y (List.mem_of_getElem? hy)))
      have HY : Hid ((es.map (·.m))[k]? = some y.m) := by show _ = _; rw [List.getElem?_map, hy]; rfl
      clear hy SMK SE
      have ll : (k : Int) < (n : Int) := by omega
      have l0 : (0 : Int) ≤ (k : Int) := by omega
      have hyl2 : ys.length ≤ 1000000 := by omega
      obtain ⟨yfp, yfc, ylp, ylc, ⟨ynum, ylevel, ycount, yfirst, ylast⟩⟩ := y
      unfold mv at CP
      simp only at p0 p1 p2 p3 p4 CP HY
      have LM := keep (Ed.level_more (z := z) HY.out)
      simp only at LM
      by_cases hz : ylevel = z
      · have hzb : (ylevel == z) = true := by simp [hz]
        rw [if_pos hz] at LM
        subst hz
        go_wp2_with fail
        refine CP.out.mono ?_
        rintro e w3 ⟨z, rfl, hze, hzo, hb3⟩
        have HZE := keep hze
        have A5 := keep ((Below.refl w3.heap.size w3).alloc (Nat.le_refl _) (.cells (metaKind.vals z).toArray 61))
        have BW3 := keep (hb3.trans (A5.out.mono hb3.size))
        have E3 := keep (hI.out.row.below BW3.out)
        have BL3 := keep (HB1.out.trans (BW3.out.mono HB1.out.size))
        have O3 := keep ((hzo.base HB1.out.size).block A5.out)
        have rc := keep (rec_cells (k := metaKind) w3 61 z)
        obtain ⟨zfp, zfc, zlp, zlc, ⟨znum, zlevel, zcount, zfirst, zlast⟩⟩ := z
        simp only
        clear hze hzo hb3 CP p0 p1 p2 p3 p4 v4
        go_wp2_with (at_builtin; go_loud (refine wpList_append_rec metaKind_ok rfl _ _ 22 61 rfl W1.heap.size i0 _ 72 Try.underlying22 hi0 hz0 hz1 hz2 rfl u5 ys.length ys rfl E3.out.row _ 1 (⟨zfp, zfc, zlp, zlc, ⟨znum, zlevel, zcount, zfirst, zlast⟩⟩ : MV) rfl rc.out (by unfold maxLen; omega) (by omega) (Nat.le_trans BL3.out.size (Nat.le_refl _)) ?_); intro v5 w5 ho5 hg5; have HO5 := keep ho5; have HG5 := keep hg5; have BL5 := keep (BL3.out.grown hg5 BL3.out.size (fun j hj => (E3.out.row.lt j hj).1)); clear ho5 hg5)
        have E5 := keep (E3.out.more O3.out HO5.out HG5.out)
        go_roundw
        case rel => exact ⟨k + 1, ys ++ [⟨zfp, zfc, zlp, zlc, ⟨znum, zlevel, zcount, zfirst, zlast⟩⟩], by omega, by go_num, E5.out, by rw [List.map_append, hI.out.val, LM.out]; exact congrArg (_ ++ [·]) HZE.out, BL5.out, by rw [List.length_append, List.length_singleton]; omega⟩
        case measure => simp [intOf]; omega
      · have hzb : (ylevel == z) = false := by simp [hz]
        rw [if_neg hz, List.append_nil] at LM
        clear CP
        go_wp2
        go_roundw
        case rel => exact ⟨k + 1, ys, by omega, by go_num, hI.out.row, by rw [hI.out.val, LM.out], HB1.out, by omega⟩
        case measure => simp [intOf]; omega
    · obtain rfl : k = n := by omega
      have FR : Hid (NotR w.heap.size wr u5 ys) := ⟨own_base hI.out.row.row (fun g hg => Nat.le_trans b1.out.size (hI.out.row.row.lt g hg).1), fun y hy => (hI.out.row.each y hy).base b1.out.size⟩
      have FV : Hid (ys.map (·.m) = Ed.level (es.map (·.m)) z) := by show _ = _; rw [hI.out.val, FULL.out]
      rw [HE0.out] at FR HB
      clear hI
      go_wp2
      go_ret
      first
        | exact ⟨_, ys, rfl, FR.out, FV.out, HB.out⟩
        | exact ⟨_, rfl, ys, FR.out, FV.out, HB.out⟩
set_option maxHeartbeats 4000000 in
set_option maxRecDepth 100000 in
theorem rfind_any (x : VV) (kp : Option Addr) (K kc : Nat) (key : List UInt8) (w : World) (hx : VV.held w x) (hkey : Src w kp K kc key) (hn : x.n ≤ 1000000) (hK : K ≤ 140737488355328) (hsm : ∀ y ∈ x.es, y.m.first.length ≤ 140737488355328 ∧ y.m.last.length ≤ 140737488355328) :
    Calls Try.prog 17 #[x.val, .slice kp K kc] w fun e w' => ∃ v, e = .returned v ∧ w'.ownsRow w.heap.size 3 1 v (Ed.find x.v.tabs key).length ((Ed.find x.v.tabs key).map (Value.int .i64)) ∧ Below w.heap.size w w' := by
  obtain ⟨j0, ji, jz0, jz1, jz2⟩ := info_partsM infoInt
  obtain ⟨p, n, c, gen, next, log, seq, es⟩ := x
  have SRC : Hid (RSrc metaKind w p n c es) := hx
  have HN : Hid (es.length = n) := SRC.out.len
  have FULL : Hid ((es.map (·.m)).take n = es.map (·.m)) := List.take_of_length_le (by rw [List.length_map, SRC.out.len]; exact Nat.le_refl _)
  simp only at hn
  unfold VV.val
  simp only
  obtain ⟨W1, hW1⟩ : ∃ Wn, w.alloc (.cells #[.int .i64 gen, .int .i64 next, .int .i64 log, .int .i64 seq, .slice p n c] 24) = Wn := ⟨_, rfl⟩
  have b1 : Hid (Below w.heap.size w W1) := by rw [← hW1]; exact (Below.refl _ _).alloc (Nat.le_refl _) _
  have g1 : Hid (W1.heap[w.heap.size]? = some (.cells #[.int .i64 gen, .int .i64 next, .int .i64 log, .int .i64 seq, .slice p n c] 24)) := by rw [← hW1]; exact heap_alloc_new w _
  have HKEY := keep hkey
  have HKB := keep hK
  have SM : Hid (∀ y ∈ es, y.m.first.length ≤ 140737488355328 ∧ y.m.last.length ≤ 140737488355328) := hsm
  show Calls _ _ _ _ fun e w' => ∃ v, e = .returned v ∧ w'.ownsRow w.heap.size 3 1 v (Ed.find (es.map (·.m)) key).length ((Ed.find (es.map (·.m)) key).map (Value.int .i64)) ∧ Below w.heap.size w w'
  clear hx hkey hsm hK
  obtain ⟨E0, hE0⟩ : ∃ E0, w.heap.size = E0 := ⟨_, rfl⟩
  have HE0 := keep hE0
  go_enter Try.func17, Try.ntmps17
  go_wp2
  rw [hE0] at g1
  go_loopw [5, 6] (fun v i wr => ∃ (k : Nat) (zs : List Int) (N : Nat), k ≤ n ∧ i = .int .i64 (k : Int) ∧ Hid (Ed.find ((es.map (·.m)).take k) key = zs) ∧ N ≤ k ∧ Hid (wr.ownsRow W1.heap.size 3 1 v N (zs.map (Value.int .i64)) ∧ Below W1.heap.size W1 wr)) (fun _ i _ => n - (intOf i).toNat)
  case atStart => exact ⟨0, [], 0, Nat.zero_le _, rfl, rfl, Nat.le_refl _, World.ownsRow_nil _ _ _ _, Below.refl _ _⟩
  case round =>
    obtain ⟨k, zs, N, hk, rfl, hZ, hN, hI⟩ := hrel
    have HB1 := keep hI.out.2
    have HB := keep (b1.out.trans (HB1.out.mono b1.out.size))
    have v4 : wr.cell? ⟨E0, 4, none⟩ = some (.slice p n c) := belowE HB1.out (cell_of_row _ _ _ _ _ _ g1.out)
    clear hW1
    by_cases hkn : k < n
    · obtain ⟨b, off, rfl, _, _⟩ := SRC.out.form metaKind_ok (by omega)
      obtain ⟨y, hy⟩ : ∃ y, es[k]? = some y := ⟨es[k]'(by rw [HN.out]; exact hkn), List.getElem?_eq_getElem _⟩
      have SE := SRC.out.below metaKind_ok HB.out
      obtain ⟨p0, p1, p2, p3, p4⟩ := meta_cells SE hy
      have SMK := keep (SM.out y (List.mem_of_getElem? hy))
      have YH := keep (SE.held y (List.mem_of_getElem? hy))
      have HY : Hid ((es.map (·.m))[k]? = some y.m) := by show _ = _; rw [List.getElem?_map, hy]; rfl
      clear hy SE
      have ll : (k : Int) < (n : Int) := by omega
      have l0 : (0 : Int) ≤ (k : Int) := by omega
      obtain ⟨yfp, yfc, ylp, ylc, ⟨ynum, ylevel, ycount, yfirst, ylast⟩⟩ := y
      simp only at p0 p1 p2 p3 p4 HY SMK
      obtain ⟨W2, hW2⟩ : ∃ W2, wr.alloc (.cells #[.int .i64 ynum, .int .i64 ylevel, .int .i64 ycount, .slice yfp yfirst.length yfc, .slice ylp ylast.length ylc] 61) = W2 := ⟨_, rfl⟩
      have b2 : Hid (Below wr.heap.size wr W2) := by rw [← hW2]; exact (Below.refl _ _).alloc (Nat.le_refl _) _
      have g2 : Hid (W2.heap[wr.heap.size]? = some (.cells #[.int .i64 ynum, .int .i64 ylevel, .int .i64 ycount, .slice yfp yfirst.length yfc, .slice ylp ylast.length ylc] 61)) := by rw [← hW2]; exact heap_alloc_new wr _
      have c0 : W2.cell? ⟨wr.heap.size, 0, none⟩ = some (.int .i64 ynum) := cell_of_row _ _ _ _ _ _ g2.out
      have c3 : W2.cell? ⟨wr.heap.size, 3, none⟩ = some (.slice yfp yfirst.length yfc) := cell_of_row _ _ _ _ _ _ g2.out
      have c4 : W2.cell? ⟨wr.heap.size, 4, none⟩ = some (.slice ylp ylast.length ylc) := cell_of_row _ _ _ _ _ _ g2.out
      have Y2 := keep (metaKind_ok.below YH.out b2.out)
      have K2 := keep ((HKEY.out.below HB.out).below b2.out)
      have L1 := keep (refLess_any kp K kc key yfp yfirst.length yfc yfirst W2 HKB.out SMK.out.1 K2.out Y2.out.1)
      have L2 : Hid (∀ w', Below W2.heap.size W2 w' → _) := fun w' hb => refLess_any ylp ylast.length ylc ylast kp K kc key w' SMK.out.2 HKB.out (Y2.out.2.below hb) (K2.out.below hb)
      have LM := keep (Ed.find_more (k := key) HY.out)
      unfold Ed.spans at LM
      simp only at LM
      obtain ⟨q1, hq1⟩ : ∃ q, less key yfirst = q := ⟨_, rfl⟩
      obtain ⟨q2, hq2⟩ : ∃ q, less ylast key = q := ⟨_, rfl⟩
      rw [hq1] at L1 LM
      rw [hq2] at L2 LM
      clear hq1 hq2
      cases q1 with
      | true =>
        have LN : Hid (Ed.find ((es.map (·.m)).take (k + 1)) key = zs) := by show _ = _; rw [LM.out, hZ.out]; simp
        go_wp2_with fail
        refine L1.out.mono ?_
        rintro e w3 ⟨rfl, hb3⟩
        have b3 := keep (b2.out.trans (hb3.mono b2.out.size))
        have o3 := keep (own_block (w' := w3) hI.out.1 (fun g hg => b3.out.block g (own_size hI.out.1 hg)))
        have B3 := keep (HB1.out.trans (b3.out.mono HB1.out.size))
        clear hb3 L1 L2 c0 c3 c4 p0 p1 p2 p3 p4 hW2
        go_wp2
        go_roundw
        case rel => exact ⟨k + 1, zs, N, by omega, by go_num, LN, by omega, o3.out, B3.out⟩
        case measure => simp [intOf]; omega
      | false =>
        go_wp2_with fail
        refine L1.out.mono ?_
        rintro e w3 ⟨rfl, hb3⟩
        have B23 := keep hb3
        have d0 := belowE hb3 c0
        have d4 := belowE hb3 c4
        clear hb3 L1 c0 c3 c4 hW2
        go_wp2_with fail
        refine (L2.out w3 B23.out).mono ?_
        rintro e w4 ⟨rfl, hb4⟩
        have B24 := keep (B23.out.trans (hb4.mono B23.out.size))
        have b3 := keep (b2.out.trans (B24.out.mono b2.out.size))
        have o3 := keep (own_block (w' := w4) hI.out.1 (fun g hg => b3.out.block g (own_size hI.out.1 hg)))
        have B3 := keep (HB1.out.trans (b3.out.mono HB1.out.size))
        have f0 := belowE hb4 d0
        clear hb4 L2 p0 p1 p2 p3 p4 d0 d4
        cases q2 with
        | true =>
          have LN : Hid (Ed.find ((es.map (·.m)).take (k + 1)) key = zs) := by show _ = _; rw [LM.out, hZ.out]; simp
          go_wp2
          go_roundw
          case rel => exact ⟨k + 1, zs, N, by omega, by go_num, LN, by omega, o3.out, B3.out⟩
          case measure => simp [intOf]; omega
        | false =>
          have LN : Hid (Ed.find ((es.map (·.m)).take (k + 1)) key = zs ++ [ynum]) := by show _ = _; rw [LM.out, hZ.out]; simp
          go_wp2_with (at_builtin; go_loud (refine wpList_append_own _ rfl _ _ 25 rfl W1.heap.size 3 j0 (.int .i64 0) 1 8 Try.underlying25 ji jz0 jz1 jz2 rfl (by decide) _ N _ rfl (o3.out.alloc _) ⟨w4.heap.size, 0, none⟩ 1 1 [.int .i64 ynum] rfl rfl (cell_one_new _ _ _) (by simp [Value.oneCell']) (by unfold maxLen; omega) (by omega) (le_alloc B3.out.size _) ?_); intro v4 w5 ho4 hg4 hn4; have O4 := keep ho4; have B4 := keep ((B3.out.alloc B3.out.size _).grown hg4 (le_alloc B3.out.size _) (fun j hj => (o3.out.lt j hj).1)); clear ho4 hg4 hn4)
          go_roundw
          case rel => exact ⟨k + 1, _, N + 1, by omega, by go_num, LN, by omega, by rw [List.map_append]; exact O4.out, B4.out⟩
          case measure => simp [intOf]; omega
    · obtain rfl : k = n := by omega
      have Z1 := hZ.out
      rw [FULL.out] at Z1
      have L1 : zs.length = N := by have := hI.out.1.1; simpa using this
      have Z2 := keep Z1
      have L2 := keep L1
      have FR : Hid (wr.ownsRow w.heap.size 3 1 u5 N (zs.map (Value.int .i64))) := own_base hI.out.1 (fun g hg => Nat.le_trans b1.out.size (hI.out.1.lt g hg).1)
      have FR0 := keep FR.out
      have HB0 := keep HB.out
      rw [HE0.out] at FR HB
      clear Z1 L1 hI
      go_wp2
      go_ret
      first
        | exact ⟨_, rfl, by rw [Z2.out, L2.out]; exact FR.out, HB.out⟩
        | exact ⟨_, rfl, by rw [Z2.out, L2.out]; exact FR0.out, HB0.out⟩
end Go.Proofs.Ytbahldabcieiaaa
