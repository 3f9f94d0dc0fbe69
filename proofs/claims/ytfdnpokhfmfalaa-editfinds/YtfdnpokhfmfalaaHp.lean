/- EditFinds' walk. -/
import Derived.Test.YtfdnpokhfmfalaaHm
import Derived.Test.YtfdnpokhfmfalaaHp0
import Derived.Test.YtfdnpokhfmfalaaHo
import Derived.Test.YtfdnpokhfmfalaaRl
namespace Go.Proofs.Ytfdnpokhfmfalaa
open Go.RowKit
open Ed (Nt)

/-- What the inner loop leaves: no two of one level above 0 span the key. -/
theorem in_false {a b : Nt} {k : List UInt8} (h : Ed.spans b k = true → 0 < b.level → a.level = b.level → Ed.spans a k = false) (i : Bool) (hi : i = Ed.spans b k) : (i && decide (0 < b.level) && decide (a.level = b.level) && !less k a.first && !less a.last k) = false := by
  subst hi
  cases q : Ed.spans b k with
  | false => simp
  | true =>
    by_cases h0 : 0 < b.level
    · by_cases hl : a.level = b.level
      · have := h q h0 hl
        unfold Ed.spans at this
        rw [decide_eq_true h0, decide_eq_true hl, Bool.and_assoc, Bool.and_assoc, Bool.and_assoc]
        simpa [Bool.and_assoc] using this
      · rw [decide_eq_false hl]; simp
    · rw [decide_eq_false h0]; simp
set_option maxHeartbeats 8000000 in
set_option maxRecDepth 100000 in
theorem finds_walk (x : VV) (kp : Option Addr) (K kc : Nat) (key : List UInt8) (w : World) (hx : VV.held w x) (hkey : Src w kp K kc key) (hnear : Near x.n x.es) (hK : K ≤ 140737488355328) :
    Calls Try.prog 7 #[x.val, .slice kp K kc] w fun e w' => e = .returned (.bool true) ∧ Below w.heap.size w w' := by
  obtain ⟨p, n, c, gen, next, log, seq, es⟩ := x
  have SX : Hid (RSrc metaKind w p n c es) := hx
  have SK := keep hkey
  have HL : Hid (es.length = n) := hx.len
  have NR : Hid (n ≤ 1954687338268) := hnear.1
  have HKB := keep hK
  clear hnear hkey hK
  unfold VV.val
  simp only
  obtain ⟨W1, hW1⟩ : ∃ W1, w.alloc (.cells #[.int .i64 gen, .int .i64 next, .int .i64 log, .int .i64 seq, .slice p n c] 24) = W1 := ⟨_, rfl⟩
  have b1 : Hid (Below w.heap.size w W1) := by rw [← hW1]; exact (Below.refl _ _).alloc (Nat.le_refl _) _
  have g1 : Hid (W1.heap[w.heap.size]? = some (.cells #[.int .i64 gen, .int .i64 next, .int .i64 log, .int .i64 seq, .slice p n c] 24)) := by rw [← hW1]; exact heap_alloc_new w _
  have CX : Hid (∀ w', Below W1.heap.size W1 w' → w'.cell? ⟨w.heap.size, 0, none⟩ = some (.int .i64 gen) ∧ w'.cell? ⟨w.heap.size, 1, none⟩ = some (.int .i64 next) ∧ w'.cell? ⟨w.heap.size, 2, none⟩ = some (.int .i64 log) ∧ w'.cell? ⟨w.heap.size, 3, none⟩ = some (.int .i64 seq) ∧ w'.cell? ⟨w.heap.size, 4, none⟩ = some (.slice p n c)) := fun w' hb => ⟨belowE hb (cell_of_row _ _ _ _ _ _ g1.out), belowE hb (cell_of_row _ _ _ _ _ _ g1.out), belowE hb (cell_of_row _ _ _ _ _ _ g1.out), belowE hb (cell_of_row _ _ _ _ _ _ g1.out), belowE hb (cell_of_row _ _ _ _ _ _ g1.out)⟩
  have AW := keep (awake_any W1)
  go_enter Try.func7, Try.ntmps7
  go_wp2_with fail
  refine AW.out.mono ?_
  rintro e w2 ⟨rfl, hb2⟩
  have L2 := keep hb2
  have B2 := keep (b1.out.trans (hb2.mono b1.out.size))
  obtain ⟨c0, c1, c2, c3, c4⟩ := CX.out w2 hb2
  clear hb2 AW
  have MI : Hid (∀ w', Below W1.heap.size W1 w' → _) := fun w' hb => mine_any ⟨p, n, c, gen, next, log, seq, es⟩ w' (SX.out.below metaKind_ok (b1.out.trans (hb.mono b1.out.size))) NR.out
  unfold VV.val at MI
  simp only at MI
  go_wp2_with fail
  refine (MI.out w2 L2.out).mono ?_
  rintro e w3 ⟨y, rfl, hy, hyv, hyn, hye, hb3⟩
  have L3 := keep (L2.out.trans (hb3.mono L2.out.size))
  have B3 := keep (B2.out.trans (hb3.mono B2.out.size))
  obtain ⟨V, hV⟩ : ∃ V : Ed.Ver, VV.v ⟨p, n, c, gen, next, log, seq, es⟩ = V := ⟨_, rfl⟩
  have EV : Hid (V.next = next ∧ V.tabs = es.map (·.m)) := by subst hV; exact ⟨rfl, rfl⟩
  have HV := keep hV
  rw [hV] at hyv
  have CK := keep (vcheck_any y w3 hy)
  rw [hyv] at CK
  obtain ⟨yp, yn, yc, ygen, ynext, ylog, yseq, yes⟩ := y
  have EN : n = yn := hyn.symm
  subst EN
  unfold VV.val at CK
  simp only at CK
  simp only
  clear hy hyv hyn hye hb3 hV c0 c1 c2 c3 c4
  cases hck : Ed.chk V with
  | false =>
    have e1 : chkN V = 1 := by unfold chkN; rw [hck]; rfl
    rw [e1] at CK
    clear hck e1
    go_wp2_with fail
    refine CK.out.mono ?_
    rintro e w4 ⟨rfl, hb4⟩
    have B4 := keep (B3.out.trans (hb4.mono B3.out.size))
    clear hb4
    go_wp2
    go_ret
    exact ⟨rfl, B4.out⟩
  | true =>
    have e1 : chkN V = 0 := by unfold chkN; rw [hck]; rfl
    rw [e1] at CK
    have NOK : Hid (Ed.notesOk (es.map (·.m)) next = true) := by
      have := (Ed.chk_parts hck).2.2.2.2
      rw [EV.out.2, EV.out.1] at this
      exact this
    clear hck e1
    have hlen := Ed.notes_len NOK.out
    rw [List.length_map, HL.out] at hlen
    go_wp2_with fail
    refine CK.out.mono ?_
    rintro e w4 ⟨rfl, hb4⟩
    have L4 := keep (L3.out.trans (hb4.mono L3.out.size))
    have B4 := keep (B3.out.trans (hb4.mono B3.out.size))
    obtain ⟨c0, c1, c2, c3, c4⟩ := CX.out w4 L4.out
    clear hb4 CK
    go_wp2_with fail
    refine (MI.out w4 L4.out).mono ?_
    rintro e w5 ⟨z, rfl, hz, hzv, hzn, hze, hb5⟩
    have L5 := keep (L4.out.trans (hb5.mono L4.out.size))
    have B5 := keep (B4.out.trans (hb5.mono B4.out.size))
    have FI := keep (find_any z kp K kc key w5 hz (SK.out.below B5.out) (by rw [hzn]; show n ≤ _; omega))
    rw [hzv] at FI
    obtain ⟨zp, zn, zc, zgen, znext, zlog, zseq, zes⟩ := z
    have EZ : n = zn := hzn.symm
    subst EZ
    unfold VV.val at FI
    simp only at FI
    simp only
    clear hz hzv hzn hze hb5 c0 c1 c2 c3 c4
    go_wp2_with fail
    refine FI.out.mono ?_
    rintro e w6 ⟨v6, rfl, ho6, hb6⟩
    have L6 := keep (L5.out.trans (hb6.mono L5.out.size))
    have B6 := keep (B5.out.trans (hb6.mono B5.out.size))
    obtain ⟨LF, hLF⟩ : ∃ LF, Ed.find (es.map (·.m)) key = LF := ⟨_, rfl⟩
    have HLF := keep hLF
    rw [show Ed.find (VV.v ⟨p, n, c, gen, next, log, seq, es⟩).tabs key = LF from hLF] at ho6
    rw [← rv_int] at ho6
    obtain ⟨lp, lc, rfl, hls, _⟩ := RSrc.own inK_ok ho6 (fun _ _ => trivial)
    have SL := keep hls
    obtain ⟨M, hM⟩ : ∃ M, LF.length = M := ⟨_, rfl⟩
    have HM := keep hM
    rw [hM] at SL ⊢
    have hM4 : M ≤ n := by
      have h1 : (Ed.find (es.map (·.m)) key).length ≤ (es.map (·.m)).length := by
        unfold Ed.find
        rw [List.length_map]
        exact List.length_filter_le _ _
      rw [hLF, hM, List.length_map, HL.out] at h1
      exact h1
    have FULL : Hid ((es.map (·.m)).take n = es.map (·.m)) := List.take_of_length_le (by rw [List.length_map, HL.out]; exact Nat.le_refl _)
    clear ho6 hb6 hls hLF hM FI hW1
    go_wp2
    go_loopw [7, 8] (fun vn vi wr => ∃ (i N : Nat), i ≤ n ∧ N ≤ M ∧ vi = .int .i64 (i : Int) ∧ vn = .int .i64 (N : Int) ∧ Hid ((Ed.find ((es.map (·.m)).take i) key).length = N) ∧ Hid (Below w6.heap.size w6 wr)) (fun _ vi _ => n - (intOf vi).toNat)
    case atStart => exact ⟨0, 0, Nat.zero_le _, Nat.zero_le _, rfl, rfl, rfl, Below.refl _ _⟩
    case round =>
      obtain ⟨wo, hwo⟩ : ∃ wo, wo = wr := ⟨_, rfl⟩
      subst hwo
      obtain ⟨i, N, hi, hN, rfl, rfl, hF, hB⟩ := hrel
      have LX := keep (L6.out.trans (hB.out.mono L6.out.size))
      have HB := keep (B6.out.trans (hB.out.mono B6.out.size))
      obtain ⟨c0, c1, c2, c3, c4⟩ := CX.out wo LX.out
      by_cases hin : i < n
      · obtain ⟨b, off, rfl, _, _⟩ := SX.out.form metaKind_ok (by omega)
        obtain ⟨y, hy⟩ : ∃ y, es[i]? = some y := ⟨es[i]'(by rw [HL.out]; exact hin), List.getElem?_eq_getElem _⟩
        obtain ⟨p0, p1, p2, p3, p4⟩ := meta_cells (SX.out.below metaKind_ok HB.out) hy
        have HYM : Hid ((es.map (·.m))[i]? = some y.m) := by show _ = _; rw [List.getElem?_map, hy]; rfl
        have HH : Hid (∀ w', Below wo.heap.size wo w' → metaKind.held w' y) := fun w' hb => (SX.out.below metaKind_ok (HB.out.trans (hb.mono HB.out.size))).held y (List.mem_of_getElem? hy)
        have HK : Hid (∀ w', Below wo.heap.size wo w' → Src w' kp K kc key) := fun w' hb => SK.out.below (HB.out.trans (hb.mono HB.out.size))
        have FM := keep (Ed.find_more (k := key) HYM.out)
        have OO : Hid (∀ j a, j < i → (es.map (·.m))[j]? = some a → Ed.spans y.m key = true → 0 < y.m.level → a.level = y.m.level → Ed.spans a key = false) := fun j a hj ha h1 h0 hl => Ed.one_only NOK.out hj ha HYM.out key hl h0 h1
        have AT : Hid (Ed.spans y.m key = true → LF[N]? = some y.m.num) := fun h => by
          have := Ed.find_at HYM.out h
          rw [HLF.out, hF.out] at this
          exact this
        have YK : Hid (y.m.first.length ≤ 140737488355328 ∧ y.m.last.length ≤ 140737488355328) := by
          have := Ed.may_keys (Ed.notes_may NOK.out (List.mem_of_getElem? HYM.out)).1
          exact ⟨by omega, by omega⟩
        clear hy
        have ll : (i : Int) < (n : Int) := by omega
        have l0 : (0 : Int) ≤ (i : Int) := by omega
        obtain ⟨yfp, yfc, ylp, ylc, ⟨ynum, ylevel, ycount, yfirst, ylast⟩⟩ := y
        simp only at p0 p1 p2 p3 p4 HYM FM OO AT YK
        obtain ⟨Wm, hWm⟩ : ∃ Wn, wo.alloc (.cells #[.int .i64 ynum, .int .i64 ylevel, .int .i64 ycount, .slice yfp yfirst.length yfc, .slice ylp ylast.length ylc] 56) = Wn := ⟨_, rfl⟩
        have bWm : Hid (Below wo.heap.size wo Wm) := by rw [← hWm]; exact (Below.refl _ _).alloc (Nat.le_refl _) _
        have gWm : Hid (Wm.heap[wo.heap.size]? = some (.cells #[.int .i64 ynum, .int .i64 ylevel, .int .i64 ycount, .slice yfp yfirst.length yfc, .slice ylp ylast.length ylc] 56)) := by rw [← hWm]; exact heap_alloc_new wo _
        have CWm : Hid (∀ w', Below Wm.heap.size Wm w' → w'.cell? ⟨wo.heap.size, 0, none⟩ = some (.int .i64 ynum) ∧ w'.cell? ⟨wo.heap.size, 1, none⟩ = some (.int .i64 ylevel) ∧ w'.cell? ⟨wo.heap.size, 2, none⟩ = some (.int .i64 ycount) ∧ w'.cell? ⟨wo.heap.size, 3, none⟩ = some (.slice yfp yfirst.length yfc) ∧ w'.cell? ⟨wo.heap.size, 4, none⟩ = some (.slice ylp ylast.length ylc)) := fun w' hb => ⟨belowE hb (cell_of_row _ _ _ _ _ _ gWm.out), belowE hb (cell_of_row _ _ _ _ _ _ gWm.out), belowE hb (cell_of_row _ _ _ _ _ _ gWm.out), belowE hb (cell_of_row _ _ _ _ _ _ gWm.out), belowE hb (cell_of_row _ _ _ _ _ _ gWm.out)⟩
        obtain ⟨m0, m1, m2, m3, m4⟩ := CWm.out Wm (Below.refl _ _)
        have RL1 : Hid (∀ w', Below Wm.heap.size Wm w' → _) := fun w' hb => refLess_any kp K kc key yfp yfirst.length yfc yfirst w' HKB.out YK.out.1 (HK.out w' (bWm.out.trans (hb.mono bWm.out.size))) (HH.out w' (bWm.out.trans (hb.mono bWm.out.size))).1
        have RL2 : Hid (∀ w', Below Wm.heap.size Wm w' → _) := fun w' hb => refLess_any ylp ylast.length ylc ylast kp K kc key w' YK.out.2 HKB.out (HH.out w' (bWm.out.trans (hb.mono bWm.out.size))).2 (HK.out w' (bWm.out.trans (hb.mono bWm.out.size)))
        have ESP : Hid (Ed.spans ⟨ynum, ylevel, ycount, yfirst, ylast⟩ key = (!less key yfirst && !less ylast key)) := rfl
        obtain ⟨r1, hr1⟩ : ∃ r, less key yfirst = r := ⟨_, rfl⟩
        obtain ⟨r2, hr2⟩ : ∃ r, less ylast key = r := ⟨_, rfl⟩
        rw [hr1] at RL1 ESP
        rw [hr2] at RL2 ESP
        clear hr1 hr2
        cases r1 with
        | true =>
          go_wp2_with fail
          refine (RL1.out Wm (Below.refl _ _)).mono ?_
          rintro e wa ⟨rfl, hba⟩
          have ba := keep hba
          clear hba m0 m1 m2 m3 m4 p0 p1 p2 p3 p4 hWm c0 c1 c2 c3 c4
          go_wp2
          go_loopw [11] (fun vk wr => ∃ k : Nat, k ≤ i ∧ vk = .int .i64 (k : Int) ∧ Hid (Below Wm.heap.size Wm wr)) (fun vk _ => i - (intOf vk).toNat)
          case atStart => exact ⟨0, Nat.zero_le _, rfl, ba.out⟩
          case round =>
            obtain ⟨k, hk, rfl, hD⟩ := hrel
            have LD := keep (bWm.out.trans (hD.out.mono bWm.out.size))
            have LXD := keep (LX.out.trans (LD.out.mono LX.out.size))
            have HBD := keep (HB.out.trans (LD.out.mono HB.out.size))
            obtain ⟨c0, c1, c2, c3, c4⟩ := CX.out wr LXD.out
            by_cases hki : k < i
            · obtain ⟨o, ho⟩ : ∃ o, es[k]? = some o := ⟨es[k]'(by rw [HL.out]; omega), List.getElem?_eq_getElem _⟩
              obtain ⟨p0, p1, p2, p3, p4⟩ := meta_cells (SX.out.below metaKind_ok HBD.out) ho
              have OF := keep (in_false (OO.out k o.m hki (by rw [List.getElem?_map, ho]; rfl)) false (by rw [ESP.out]; rfl))
              have HO : Hid (∀ w', Below wr.heap.size wr w' → metaKind.held w' o) := fun w' hb => (SX.out.below metaKind_ok (HBD.out.trans (hb.mono HBD.out.size))).held o (List.mem_of_getElem? ho)
              have OK : Hid (o.m.first.length ≤ 140737488355328 ∧ o.m.last.length ≤ 140737488355328) := by
                have := Ed.may_keys (Ed.notes_may NOK.out (List.mem_map_of_mem (f := (·.m)) (List.mem_of_getElem? ho))).1
                exact ⟨by omega, by omega⟩
              clear ho
              have lk : (k : Int) < (i : Int) := by omega
              have lk0 : (0 : Int) ≤ (k : Int) := by omega
              have lkn : (k : Int) < (n : Int) := by omega
              obtain ⟨ofp, ofc, olp, olc, ⟨onum, olevel, ocount, ofirst, olast⟩⟩ := o
              simp only at p0 p1 p2 p3 p4 OF OK
              obtain ⟨Wo, hWo⟩ : ∃ Wn, wr.alloc (.cells #[.int .i64 onum, .int .i64 olevel, .int .i64 ocount, .slice ofp ofirst.length ofc, .slice olp olast.length olc] 56) = Wn := ⟨_, rfl⟩
              have bWo : Hid (Below wr.heap.size wr Wo) := by rw [← hWo]; exact (Below.refl _ _).alloc (Nat.le_refl _) _
              have gWo : Hid (Wo.heap[wr.heap.size]? = some (.cells #[.int .i64 onum, .int .i64 olevel, .int .i64 ocount, .slice ofp ofirst.length ofc, .slice olp olast.length olc] 56)) := by rw [← hWo]; exact heap_alloc_new wr _
              have CWo : Hid (∀ w', Below Wo.heap.size Wo w' → w'.cell? ⟨wr.heap.size, 0, none⟩ = some (.int .i64 onum) ∧ w'.cell? ⟨wr.heap.size, 1, none⟩ = some (.int .i64 olevel) ∧ w'.cell? ⟨wr.heap.size, 2, none⟩ = some (.int .i64 ocount) ∧ w'.cell? ⟨wr.heap.size, 3, none⟩ = some (.slice ofp ofirst.length ofc) ∧ w'.cell? ⟨wr.heap.size, 4, none⟩ = some (.slice olp olast.length olc)) := fun w' hb => ⟨belowE hb (cell_of_row _ _ _ _ _ _ gWo.out), belowE hb (cell_of_row _ _ _ _ _ _ gWo.out), belowE hb (cell_of_row _ _ _ _ _ _ gWo.out), belowE hb (cell_of_row _ _ _ _ _ _ gWo.out), belowE hb (cell_of_row _ _ _ _ _ _ gWo.out)⟩
              obtain ⟨o0, o1, o2, o3, o4⟩ := CWo.out Wo (Below.refl _ _)
              obtain ⟨m0, m1, m2, m3, m4⟩ := CWm.out Wo (hD.out.trans (bWo.out.mono hD.out.size))
              go_wp2
              go_roundw
              case rel => exact ⟨k + 1, by omega, by go_num, hD.out.trans (bWo.out.mono hD.out.size)⟩
              case measure => simp [intOf]; omega
            · obtain rfl : k = i := by omega
              go_wp2
              go_roundw
              case rel => exact ⟨k + 1, N, by omega, by omega, by go_num, by go_num, by rw [FM.out, List.length_append, hF.out, ESP.out]; rfl, hB.out.trans (LD.out.mono hB.out.size)⟩
              case measure => simp [intOf]; omega
        | false =>
          go_wp2_with fail
          refine (RL1.out Wm (Below.refl _ _)).mono ?_
          rintro e wa ⟨rfl, hba⟩
          have ba := keep hba
          obtain ⟨n0, n1, n2, n3, n4⟩ := CWm.out wa hba
          clear hba m0 m1 m2 m3 m4 p0 p1 p2 p3 p4 hWm c0 c1 c2 c3 c4
          cases r2 with
          | true =>
            go_wp2_with fail
            refine (RL2.out wa ba.out).mono ?_
            rintro e wb ⟨rfl, hbb⟩
            have bb := keep (ba.out.trans (hbb.mono ba.out.size))
            clear hbb n0 n1 n2 n3 n4
            go_wp2
            go_loopw [11] (fun vk wr => ∃ k : Nat, k ≤ i ∧ vk = .int .i64 (k : Int) ∧ Hid (Below Wm.heap.size Wm wr)) (fun vk _ => i - (intOf vk).toNat)
            case atStart => exact ⟨0, Nat.zero_le _, rfl, bb.out⟩
            case round =>
              obtain ⟨k, hk, rfl, hD⟩ := hrel
              have LD := keep (bWm.out.trans (hD.out.mono bWm.out.size))
              have LXD := keep (LX.out.trans (LD.out.mono LX.out.size))
              have HBD := keep (HB.out.trans (LD.out.mono HB.out.size))
              obtain ⟨c0, c1, c2, c3, c4⟩ := CX.out wr LXD.out
              by_cases hki : k < i
              · obtain ⟨o, ho⟩ : ∃ o, es[k]? = some o := ⟨es[k]'(by rw [HL.out]; omega), List.getElem?_eq_getElem _⟩
                obtain ⟨p0, p1, p2, p3, p4⟩ := meta_cells (SX.out.below metaKind_ok HBD.out) ho
                have OF := keep (in_false (OO.out k o.m hki (by rw [List.getElem?_map, ho]; rfl)) false (by rw [ESP.out]; rfl))
                have HO : Hid (∀ w', Below wr.heap.size wr w' → metaKind.held w' o) := fun w' hb => (SX.out.below metaKind_ok (HBD.out.trans (hb.mono HBD.out.size))).held o (List.mem_of_getElem? ho)
                have OK : Hid (o.m.first.length ≤ 140737488355328 ∧ o.m.last.length ≤ 140737488355328) := by
                  have := Ed.may_keys (Ed.notes_may NOK.out (List.mem_map_of_mem (f := (·.m)) (List.mem_of_getElem? ho))).1
                  exact ⟨by omega, by omega⟩
                clear ho
                have lk : (k : Int) < (i : Int) := by omega
                have lk0 : (0 : Int) ≤ (k : Int) := by omega
                have lkn : (k : Int) < (n : Int) := by omega
                obtain ⟨ofp, ofc, olp, olc, ⟨onum, olevel, ocount, ofirst, olast⟩⟩ := o
                simp only at p0 p1 p2 p3 p4 OF OK
                obtain ⟨Wo, hWo⟩ : ∃ Wn, wr.alloc (.cells #[.int .i64 onum, .int .i64 olevel, .int .i64 ocount, .slice ofp ofirst.length ofc, .slice olp olast.length olc] 56) = Wn := ⟨_, rfl⟩
                have bWo : Hid (Below wr.heap.size wr Wo) := by rw [← hWo]; exact (Below.refl _ _).alloc (Nat.le_refl _) _
                have gWo : Hid (Wo.heap[wr.heap.size]? = some (.cells #[.int .i64 onum, .int .i64 olevel, .int .i64 ocount, .slice ofp ofirst.length ofc, .slice olp olast.length olc] 56)) := by rw [← hWo]; exact heap_alloc_new wr _
                have CWo : Hid (∀ w', Below Wo.heap.size Wo w' → w'.cell? ⟨wr.heap.size, 0, none⟩ = some (.int .i64 onum) ∧ w'.cell? ⟨wr.heap.size, 1, none⟩ = some (.int .i64 olevel) ∧ w'.cell? ⟨wr.heap.size, 2, none⟩ = some (.int .i64 ocount) ∧ w'.cell? ⟨wr.heap.size, 3, none⟩ = some (.slice ofp ofirst.length ofc) ∧ w'.cell? ⟨wr.heap.size, 4, none⟩ = some (.slice olp olast.length olc)) := fun w' hb => ⟨belowE hb (cell_of_row _ _ _ _ _ _ gWo.out), belowE hb (cell_of_row _ _ _ _ _ _ gWo.out), belowE hb (cell_of_row _ _ _ _ _ _ gWo.out), belowE hb (cell_of_row _ _ _ _ _ _ gWo.out), belowE hb (cell_of_row _ _ _ _ _ _ gWo.out)⟩
                obtain ⟨o0, o1, o2, o3, o4⟩ := CWo.out Wo (Below.refl _ _)
                obtain ⟨m0, m1, m2, m3, m4⟩ := CWm.out Wo (hD.out.trans (bWo.out.mono hD.out.size))
                go_wp2
                go_roundw
                case rel => exact ⟨k + 1, by omega, by go_num, hD.out.trans (bWo.out.mono hD.out.size)⟩
                case measure => simp [intOf]; omega
              · obtain rfl : k = i := by omega
                go_wp2
                go_roundw
                case rel => exact ⟨k + 1, N, by omega, by omega, by go_num, by go_num, by rw [FM.out, List.length_append, hF.out, ESP.out]; rfl, hB.out.trans (LD.out.mono hB.out.size)⟩
                case measure => simp [intOf]; omega
          | false =>
            have LN := AT.out (by rw [ESP.out]; rfl)
            have hNM : N < M := by rw [← HM.out]; exact (List.getElem?_eq_some_iff.1 LN).1
            go_wp2_with fail
            refine (RL2.out wa ba.out).mono ?_
            rintro e wb ⟨rfl, hbb⟩
            have bb := keep (ba.out.trans (hbb.mono ba.out.size))
            clear hbb n0 n1 n2 n3 n4
            obtain ⟨lb, lo, rfl, _, _⟩ := SL.out.form inK_ok (by omega)
            have LC : Hid (∀ w', Below wb.heap.size wb w' → w'.cell? ⟨lb, lo + N, none⟩ = some (.int .i64 ynum)) := fun w' hb => by
              have hb6 : Below w6.heap.size w6 w' := hB.out.trans ((bWm.out.trans ((bb.out.trans (hb.mono bb.out.size)).mono bWm.out.size)).mono hB.out.size)
              rw [int_cell (SL.out.below inK_ok hb6) hNM, List.getD_eq_getElem?_getD, LN]
              rfl
            have q1 : ¬ (M : Int) ≤ (N : Int) := by omega
            have q2 : (0 : Int) ≤ (N : Int) := by omega
            have q3 : (N : Int) < (M : Int) := by omega
            clear LN
            go_wp2_with fail
            refine wp_region_held_drew (S := fun w' => Below wb.heap.size wb w') (by kernel_rfl) ((Below.refl _ _).drew) (fun hHeld => ?_)
            refine takeH (i := 0) 48 (v := .int .i64 (N : Int)) rfl rfl (by kernel_rfl) (by kernel_rfl) (by kernel_rfl) (fun _ _ _ h => h) (Or.inl ⟨by rfl, ?_⟩) (by assumption) ?_
            · intro w' hSw'
              go_simp
            simp only [Act.put, List.setIfInBounds_toArray, List.set_cons_zero, List.set_cons_succ]
            refine takeH (i := 1) 49 (v := .slice (some ⟨lb, lo, none⟩) M lc) rfl rfl (by kernel_rfl) (by kernel_rfl) (by kernel_rfl) (fun _ _ _ h => h) (Or.inl ⟨by rfl, ?_⟩) (by assumption) ?_
            · intro w' hSw'
              go_simp
            simp only [Act.put, List.setIfInBounds_toArray, List.set_cons_zero, List.set_cons_succ]
            refine takeH (i := 2) 50 (v := .int .i64 (M : Int)) rfl rfl (by kernel_rfl) (by kernel_rfl) (by kernel_rfl) (fun _ _ _ h => h) (Or.inl ⟨by rfl, ?_⟩) (by assumption) ?_
            · intro w' hSw'
              go_simp
            simp only [Act.put, List.setIfInBounds_toArray, List.set_cons_zero, List.set_cons_succ]
            refine takeH (i := 3) 51 (v := .bool false) rfl rfl (by kernel_rfl) (by kernel_rfl) (by kernel_rfl) (fun _ _ _ h => h) (Or.inl ⟨by rfl, ?_⟩) (by assumption) ?_
            · intro w' hSw'
              go_simp
            simp only [Act.put, List.setIfInBounds_toArray, List.set_cons_zero, List.set_cons_succ]
            refine takeH (i := 4) 52 (v := .bool false) rfl rfl (by kernel_rfl) (by kernel_rfl) (by kernel_rfl) (fun _ _ _ h => h) (Or.inl ⟨by rfl, ?_⟩) (by assumption) ?_
            · intro w' hSw'
              go_simp
            simp only [Act.put, List.setIfInBounds_toArray, List.set_cons_zero, List.set_cons_succ]
            refine takeH (i := 5) 53 (v := .slice (some ⟨lb, lo, none⟩) M lc) rfl rfl (by kernel_rfl) (by kernel_rfl) (by kernel_rfl) (fun _ _ _ h => h) (Or.inl ⟨by rfl, ?_⟩) (by assumption) ?_
            · intro w' hSw'
              go_simp
            simp only [Act.put, List.setIfInBounds_toArray, List.set_cons_zero, List.set_cons_succ]
            refine takeH (i := 6) 54 (v := .int .i64 (N : Int)) rfl rfl (by kernel_rfl) (by kernel_rfl) (by kernel_rfl) (fun _ _ _ h => h) (Or.inl ⟨by rfl, ?_⟩) (by assumption) ?_
            · intro w' hSw'
              go_simp
            simp only [Act.put, List.setIfInBounds_toArray, List.set_cons_zero, List.set_cons_succ]
            refine takeH (i := 7) 55 (v := .pointer (some ⟨lb, lo + N, none⟩)) rfl rfl (by kernel_rfl) (by kernel_rfl) (by kernel_rfl) (fun _ _ _ h => h) (Or.inl ⟨by rfl, ?_⟩) (by assumption) ?_
            · intro w' hSw'
              go_simp
            simp only [Act.put, List.setIfInBounds_toArray, List.set_cons_zero, List.set_cons_succ]
            refine takeH (i := 8) 56 (v := .int .i64 ynum) rfl rfl (by kernel_rfl) (by kernel_rfl) (by kernel_rfl) (fun _ _ _ h => h) (Or.inl ⟨by rfl, ?_⟩) (by assumption) ?_
            · intro w' hSw'
              have dl := LC.out w' hSw'
              go_simp
            simp only [Act.put, List.setIfInBounds_toArray, List.set_cons_zero, List.set_cons_succ]
            refine takeH (i := 9) 57 (v := .pointer (some ⟨wo.heap.size, 0, none⟩)) rfl rfl (by kernel_rfl) (by kernel_rfl) (by kernel_rfl) (fun _ _ _ h => h) (Or.inl ⟨by rfl, ?_⟩) (by assumption) ?_
            · intro w' hSw'
              go_simp
            simp only [Act.put, List.setIfInBounds_toArray, List.set_cons_zero, List.set_cons_succ]
            refine takeH (i := 10) 58 (v := .int .i64 ynum) rfl rfl (by kernel_rfl) (by kernel_rfl) (by kernel_rfl) (fun _ _ _ h => h) (Or.inl ⟨by rfl, ?_⟩) (by assumption) ?_
            · intro w' hSw'
              obtain ⟨d0, d1, d2, d3, d4⟩ := CWm.out w' (bb.out.trans (hSw'.mono bb.out.size))
              go_simp
            simp only [Act.put, List.setIfInBounds_toArray, List.set_cons_zero, List.set_cons_succ]
            refine takeH (i := 11) 59 (v := .bool false) rfl rfl (by kernel_rfl) (by kernel_rfl) (by kernel_rfl) (fun _ _ _ h => h) (Or.inl ⟨by rfl, ?_⟩) (by assumption) ?_
            · intro w' hSw'
              go_simp
            simp only [Act.put, List.setIfInBounds_toArray, List.set_cons_zero, List.set_cons_succ]
            refine takeH (i := 12) 60 (v := .bool false) rfl rfl (by kernel_rfl) (by kernel_rfl) (by kernel_rfl) (fun _ _ _ h => h) (Or.inl ⟨by rfl, ?_⟩) (by assumption) ?_
            · intro w' hSw'
              go_simp
            simp only [Act.put, List.setIfInBounds_toArray, List.set_cons_zero, List.set_cons_succ]
            refine wpAnyH_done (by kernel_rfl) ?_ _
            go_wp2
            go_loopw [11] (fun vk wr => ∃ k : Nat, k ≤ i ∧ vk = .int .i64 (k : Int) ∧ Hid (Below Wm.heap.size Wm wr)) (fun vk _ => i - (intOf vk).toNat)
            case atStart => exact ⟨0, Nat.zero_le _, rfl, (bb.out.drew)⟩
            case round =>
              obtain ⟨k, hk, rfl, hD⟩ := hrel
              have LD := keep (bWm.out.trans (hD.out.mono bWm.out.size))
              have LXD := keep (LX.out.trans (LD.out.mono LX.out.size))
              have HBD := keep (HB.out.trans (LD.out.mono HB.out.size))
              obtain ⟨c0, c1, c2, c3, c4⟩ := CX.out wr LXD.out
              by_cases hki : k < i
              · obtain ⟨o, ho⟩ : ∃ o, es[k]? = some o := ⟨es[k]'(by rw [HL.out]; omega), List.getElem?_eq_getElem _⟩
                obtain ⟨p0, p1, p2, p3, p4⟩ := meta_cells (SX.out.below metaKind_ok HBD.out) ho
                have OF := keep (in_false (OO.out k o.m hki (by rw [List.getElem?_map, ho]; rfl)) true (by rw [ESP.out]; rfl))
                have HO : Hid (∀ w', Below wr.heap.size wr w' → metaKind.held w' o) := fun w' hb => (SX.out.below metaKind_ok (HBD.out.trans (hb.mono HBD.out.size))).held o (List.mem_of_getElem? ho)
                have OK : Hid (o.m.first.length ≤ 140737488355328 ∧ o.m.last.length ≤ 140737488355328) := by
                  have := Ed.may_keys (Ed.notes_may NOK.out (List.mem_map_of_mem (f := (·.m)) (List.mem_of_getElem? ho))).1
                  exact ⟨by omega, by omega⟩
                clear ho
                have lk : (k : Int) < (i : Int) := by omega
                have lk0 : (0 : Int) ≤ (k : Int) := by omega
                have lkn : (k : Int) < (n : Int) := by omega
                obtain ⟨ofp, ofc, olp, olc, ⟨onum, olevel, ocount, ofirst, olast⟩⟩ := o
                simp only at p0 p1 p2 p3 p4 OF OK
                obtain ⟨Wo, hWo⟩ : ∃ Wn, wr.alloc (.cells #[.int .i64 onum, .int .i64 olevel, .int .i64 ocount, .slice ofp ofirst.length ofc, .slice olp olast.length olc] 56) = Wn := ⟨_, rfl⟩
                have bWo : Hid (Below wr.heap.size wr Wo) := by rw [← hWo]; exact (Below.refl _ _).alloc (Nat.le_refl _) _
                have gWo : Hid (Wo.heap[wr.heap.size]? = some (.cells #[.int .i64 onum, .int .i64 olevel, .int .i64 ocount, .slice ofp ofirst.length ofc, .slice olp olast.length olc] 56)) := by rw [← hWo]; exact heap_alloc_new wr _
                have CWo : Hid (∀ w', Below Wo.heap.size Wo w' → w'.cell? ⟨wr.heap.size, 0, none⟩ = some (.int .i64 onum) ∧ w'.cell? ⟨wr.heap.size, 1, none⟩ = some (.int .i64 olevel) ∧ w'.cell? ⟨wr.heap.size, 2, none⟩ = some (.int .i64 ocount) ∧ w'.cell? ⟨wr.heap.size, 3, none⟩ = some (.slice ofp ofirst.length ofc) ∧ w'.cell? ⟨wr.heap.size, 4, none⟩ = some (.slice olp olast.length olc)) := fun w' hb => ⟨belowE hb (cell_of_row _ _ _ _ _ _ gWo.out), belowE hb (cell_of_row _ _ _ _ _ _ gWo.out), belowE hb (cell_of_row _ _ _ _ _ _ gWo.out), belowE hb (cell_of_row _ _ _ _ _ _ gWo.out), belowE hb (cell_of_row _ _ _ _ _ _ gWo.out)⟩
                obtain ⟨o0, o1, o2, o3, o4⟩ := CWo.out Wo (Below.refl _ _)
                obtain ⟨m0, m1, m2, m3, m4⟩ := CWm.out Wo (hD.out.trans (bWo.out.mono hD.out.size))
                have RO1 := keep (refLess_any kp K kc key ofp ofirst.length ofc ofirst Wo HKB.out OK.out.1 (SK.out.below (HBD.out.trans (bWo.out.mono HBD.out.size))) (HO.out Wo bWo.out).1)
                have RO2 : Hid (∀ w', Below Wo.heap.size Wo w' → _) := fun w' hb => refLess_any olp olast.length olc olast kp K kc key w' OK.out.2 HKB.out (HO.out w' (bWo.out.trans (hb.mono bWo.out.size))).2 (SK.out.below (HBD.out.trans ((bWo.out.trans (hb.mono bWo.out.size)).mono HBD.out.size)))
                by_cases h0 : 0 < ylevel
                · have d0 : decide (0 < ylevel) = true := decide_eq_true h0
                  by_cases hl : olevel = ylevel
                  · have dl : (olevel == ylevel) = true := beq_iff_eq.2 hl
                    have OF2 : Hid ((!less key ofirst && !less olast key) = false) := by
                      have := OF.out
                      rw [d0, decide_eq_true hl] at this
                      show (!less key ofirst && !less olast key) = false
                      simpa using this
                    obtain ⟨s1, hs1⟩ : ∃ r, less key ofirst = r := ⟨_, rfl⟩
                    obtain ⟨s2, hs2⟩ : ∃ r, less olast key = r := ⟨_, rfl⟩
                    rw [hs1] at RO1 OF2
                    rw [hs2] at RO2 OF2
                    clear hs1 hs2 hl
                    cases s1 with
                    | true =>
                      go_wp2_with fail
                      refine RO1.out.mono ?_
                      rintro e wl ⟨rfl, hbl⟩
                      have bl := keep (hD.out.trans ((bWo.out.trans (hbl.mono bWo.out.size)).mono hD.out.size))
                      clear hbl o0 o1 o2 o3 o4 m0 m1 m2 m3 m4 p0 p1 p2 p3 p4 hWo
                      go_wp2
                      go_roundw
                      case rel => exact ⟨k + 1, by omega, by go_num, bl.out⟩
                      case measure => simp [intOf]; omega
                    | false =>
                      have S2 : s2 = true := by
                        have := OF2.out
                        simpa using this
                      subst S2
                      go_wp2_with fail
                      refine RO1.out.mono ?_
                      rintro e wl ⟨rfl, hbl⟩
                      have bl := keep hbl
                      obtain ⟨n0, n1, n2, n3, n4⟩ := CWo.out wl hbl
                      clear hbl o0 o1 o2 o3 o4 m0 m1 m2 m3 m4 p0 p1 p2 p3 p4 hWo
                      go_wp2_with fail
                      refine (RO2.out wl bl.out).mono ?_
                      rintro e wl2 ⟨rfl, hbl2⟩
                      have bl2 := keep (hD.out.trans ((bWo.out.trans ((bl.out.trans (hbl2.mono bl.out.size)).mono bWo.out.size)).mono hD.out.size))
                      clear hbl2 n0 n1 n2 n3 n4
                      go_wp2
                      go_roundw
                      case rel => exact ⟨k + 1, by omega, by go_num, bl2.out⟩
                      case measure => simp [intOf]; omega
                  · have dl : (olevel == ylevel) = false := beq_eq_false_iff_ne.2 hl
                    clear hl
                    go_wp2
                    go_roundw
                    case rel => exact ⟨k + 1, by omega, by go_num, hD.out.trans (bWo.out.mono hD.out.size)⟩
                    case measure => simp [intOf]; omega
                · have d0 : decide (0 < ylevel) = false := decide_eq_false h0
                  go_wp2
                  go_roundw
                  case rel => exact ⟨k + 1, by omega, by go_num, hD.out.trans (bWo.out.mono hD.out.size)⟩
                  case measure => simp [intOf]; omega
              · obtain rfl : k = i := by omega
                go_wp2
                go_roundw
                case rel => exact ⟨k + 1, N + 1, by omega, by omega, by go_num, by go_num, by rw [FM.out, List.length_append, hF.out, ESP.out]; rfl, hB.out.trans (LD.out.mono hB.out.size)⟩
                case measure => simp [intOf]; omega
      · obtain rfl : i = n := by omega
        have HE : Hid (N = M) := by
          have := hF.out
          rw [FULL.out, HLF.out, HM.out] at this
          exact this.symm
        have q : ((N : Int) == (M : Int)) = true := beq_iff_eq.2 (by have := HE.out; omega)
        have HEN := HE.out
        subst HEN
        go_wp2
        go_ret
        exact ⟨rfl, HB.out⟩
end Go.Proofs.Ytfdnpokhfmfalaa
