/- The walk of the document's Encode. -/
import Derived.Test.YthaiodajfmbeaaaGreatHs
import Derived.Test.YthaiodajfmbeaaaGreatRk
import Derived.Test.YthaiodajfmbeaaaGreatTxr
namespace Go.Proofs.YthaiodajfmbeaaaGreat
open Go.RowKit
open Ed (Nt)

/-- Bytes as they were laid. -/
def LaidE (w : World) (l : List UInt8) (e : Ending) (w' : World) : Prop := ∃ a c, e = .returned (.slice a l.length c) ∧ Src w' a l.length c l ∧ Below w.heap.size w w'
theorem rpn {L L2 : List UInt8} {z : Int} (hL : L ++ num (cl z) = L2) (hle : L.length + 9 ≤ 140737488355328) (a : Option Addr) (c : Nat) (w : World) (hs : Src w a L.length c L) : Calls Tryz.prog 37 #[.slice a L.length c, .int .i64 z] w (LaidE w L2) := by
  refine (rputNum_any a L.length c L z w hle hs).mono ?_
  rintro e w' ⟨v, rfl, hn⟩
  obtain ⟨a2, c2, rfl, hs2, _⟩ := hn.src
  subst hL
  have hl := hn.len
  rw [← hl] at hs2 ⊢
  exact ⟨a2, c2, rfl, hs2, hn.2⟩
theorem rpt {L L2 s : List UInt8} (hL : L ++ (num s.length ++ s) = L2) (hle : L.length + s.length + 9 ≤ 140737488355328) (a : Option Addr) (c : Nat) (w : World) (hs : Src w a L.length c L) : Calls Tryz.prog 38 #[.slice a L.length c, .string ⟨s.toArray⟩] w (LaidE w L2) := by
  refine (rputText_any a L.length c L ⟨s.toArray⟩ s.length s w rfl rfl hle hs).mono ?_
  rintro e w' ⟨v, rfl, hn⟩
  obtain ⟨a2, c2, rfl, hs2, _⟩ := hn.src
  subst hL
  have hl := hn.len
  rw [← hl] at hs2 ⊢
  exact ⟨a2, c2, rfl, hs2, hn.2⟩
theorem noteB_parts (m : Nt) : Ed.noteB m = num (cl m.num) ++ num (cl m.level) ++ num (cl m.count) ++ (num m.first.length ++ m.first) ++ (num m.last.length ++ m.last) := by
  unfold Ed.noteB Ed.numsB
  simp
set_option maxHeartbeats 8000000 in
set_option maxRecDepth 100000 in
theorem rencode_any (x : VV) (w : World) (hx : VV.held w x) : Calls Tryz.prog 18 #[x.val] w fun e w' => EncA x.v w e w' := by
  obtain ⟨p, n, c, gen, next, log, seq, es⟩ := x
  have SX : Hid (RSrc metaKind w p n c es) := hx
  have HL : Hid (es.length = n) := hx.len
  unfold VV.val
  simp only
  obtain ⟨V, hV⟩ : ∃ V : Ed.Ver, VV.v ⟨p, n, c, gen, next, log, seq, es⟩ = V := ⟨_, rfl⟩
  have EV : Hid (V.gen = gen ∧ V.next = next ∧ V.log = log ∧ V.seq = seq ∧ V.tabs = es.map (·.m)) := by subst hV; exact ⟨rfl, rfl, rfl, rfl, rfl⟩
  obtain ⟨W1, hW1⟩ : ∃ W1, w.alloc (.cells #[.int .i64 gen, .int .i64 next, .int .i64 log, .int .i64 seq, .slice p n c] 32) = W1 := ⟨_, rfl⟩
  have b1 : Hid (Below w.heap.size w W1) := by rw [← hW1]; exact (Below.refl _ _).alloc (Nat.le_refl _) _
  have g1 : Hid (W1.heap[w.heap.size]? = some (.cells #[.int .i64 gen, .int .i64 next, .int .i64 log, .int .i64 seq, .slice p n c] 32)) := by rw [← hW1]; exact heap_alloc_new w _
  have CX : Hid (∀ w', Below W1.heap.size W1 w' → w'.cell? ⟨w.heap.size, 0, none⟩ = some (.int .i64 gen) ∧ w'.cell? ⟨w.heap.size, 1, none⟩ = some (.int .i64 next) ∧ w'.cell? ⟨w.heap.size, 2, none⟩ = some (.int .i64 log) ∧ w'.cell? ⟨w.heap.size, 3, none⟩ = some (.int .i64 seq) ∧ w'.cell? ⟨w.heap.size, 4, none⟩ = some (.slice p n c)) := fun w' hb => ⟨belowE hb (cell_of_row _ _ _ _ _ _ g1.out), belowE hb (cell_of_row _ _ _ _ _ _ g1.out), belowE hb (cell_of_row _ _ _ _ _ _ g1.out), belowE hb (cell_of_row _ _ _ _ _ _ g1.out), belowE hb (cell_of_row _ _ _ _ _ _ g1.out)⟩
  have CK := keep (rcheck_any ⟨p, n, c, gen, next, log, seq, es⟩ W1 (SX.out.below metaKind_ok b1.out))
  rw [hV] at CK ⊢
  unfold VV.val at CK
  simp only at CK
  clear hV hx
  obtain ⟨c0, c1, c2, c3, c4⟩ := CX.out W1 (Below.refl _ _)
  cases hck : Ed.chk V with
  | false =>
    have e1 : chkN V = 1 := by unfold chkN; rw [hck]; rfl
    have ANS : Hid (∀ w', Below w.heap.size w w' → EncA V w (.returned (.tuple #[.slice none 0 0, .int .i64 1])) w') := fun w' hb => ⟨none, 0, 0, [], by rw [e1], Src.empty (fun _ => rfl), by rw [hck]; rfl, hb⟩
    rw [e1] at CK
    clear hck e1
    go_enter Tryz.func18, Tryz.ntmps18
    go_wp2_with fail
    refine CK.out.mono ?_
    rintro e w2 ⟨rfl, hb2⟩
    have B2 := keep (b1.out.trans (hb2.mono b1.out.size))
    clear hb2
    go_wp2
    go_ret2
    exact ANS.out _ B2.out
  | true =>
    have e1 : chkN V = 0 := by unfold chkN; rw [hck]; rfl
    have NOK : Hid (Ed.notesOk (es.map (·.m)) next = true) := by
      have := (Ed.chk_parts hck).2.2.2.2
      rw [EV.out.2.2.2.2, EV.out.2.1] at this
      exact this
    have hlen := Ed.notes_len NOK.out
    rw [List.length_map, HL.out] at hlen
    obtain ⟨NS, hNS⟩ : ∃ NS, Ed.numsB [gen, next, log, seq, (n : Int)] = NS := ⟨_, rfl⟩
    obtain ⟨L1, hL1⟩ : ∃ L, [] ++ num (cl gen) = L := ⟨_, rfl⟩
    obtain ⟨L2, hL2⟩ : ∃ L, L1 ++ num (cl next) = L := ⟨_, rfl⟩
    obtain ⟨L3, hL3⟩ : ∃ L, L2 ++ num (cl log) = L := ⟨_, rfl⟩
    obtain ⟨L4, hL4⟩ : ∃ L, L3 ++ num (cl seq) = L := ⟨_, rfl⟩
    have hL5 : L4 ++ num (cl (n : Int)) = NS := by
      rw [← hNS, ← hL4, ← hL3, ← hL2, ← hL1]
      unfold Ed.numsB
      simp
    have NSL : NS.length ≤ 45 := by
      have := Ed.numsB_len [gen, next, log, seq, (n : Int)]
      rw [hNS] at this
      exact this
    have l4 : L4.length ≤ 45 := by rw [← hL5, List.length_append] at NSL; omega
    have l3 : L3.length ≤ 45 := by rw [← hL4, List.length_append] at l4; omega
    have l2 : L2.length ≤ 45 := by rw [← hL3, List.length_append] at l3; omega
    have l1 : L1.length ≤ 45 := by rw [← hL2, List.length_append] at l2; omega
    have P1 : Hid (∀ w', Calls Tryz.prog 37 #[.slice none 0 0, .int .i64 gen] w' (LaidE w' L1)) := fun w' => rpn hL1 (by simp) none 0 w' (Src.empty (fun _ => rfl))
    have P2 : Hid (∀ w' a c, Src w' a L1.length c L1 → _) := fun w' a c hs => rpn hL2 (by omega) a c w' hs
    have P3 : Hid (∀ w' a c, Src w' a L2.length c L2 → _) := fun w' a c hs => rpn hL3 (by omega) a c w' hs
    have P4 : Hid (∀ w' a c, Src w' a L3.length c L3 → _) := fun w' a c hs => rpn hL4 (by omega) a c w' hs
    have P5 : Hid (∀ w' a c, Src w' a L4.length c L4 → _) := fun w' a c hs => rpn hL5 (by omega) a c w' hs
    have HNSL := keep NSL
    have ANS : Hid (∀ a m c w', Src w' a m c (NS ++ Ed.notesB (es.map (·.m))) → Below w.heap.size w w' → EncA V w (.returned (.tuple #[.slice a m c, .int .i64 0])) w') := fun a m c w' hs hb => ⟨a, m, c, _, by rw [e1], hs, by
      rw [hck, if_pos rfl]
      unfold Ed.verB
      rw [EV.out.1, EV.out.2.1, EV.out.2.2.1, EV.out.2.2.2.1, EV.out.2.2.2.2, List.length_map, HL.out, hNS], hb⟩
    rw [e1] at CK
    clear hck e1 hNS hL1 hL2 hL3 hL4 hL5 NSL l1 l2 l3 l4
    have FULL : Hid ((es.map (·.m)).take n = es.map (·.m)) := List.take_of_length_le (by rw [List.length_map, HL.out]; exact Nat.le_refl _)
    go_enter Tryz.func18, Tryz.ntmps18
    go_wp2_with fail
    refine CK.out.mono ?_
    rintro e w2 ⟨rfl, hb2⟩
    have LB2 := keep hb2
    have U2 : Hid (∀ w', Below w2.heap.size w2 w' → Below W1.heap.size W1 w') := fun w' hb => LB2.out.trans (hb.mono LB2.out.size)
    clear c0 c1 c2 c3 c4 hb2 CK hW1
    go_wp2_with fail
    refine wp_region_held_drew (S := fun w' => Below w2.heap.size w2 w') (by kernel_rfl) ((Below.refl _ _).drew) (fun hHeld => ?_)
    refine takeH (i := 0) 10 (v := .pointer (some ⟨w.heap.size, 0, none⟩)) rfl rfl (by kernel_rfl) (by kernel_rfl) (by kernel_rfl) (fun _ _ _ h => h) (Or.inl ⟨by rfl, ?_⟩) (by assumption) ?_
    · intro w' hSw'
      go_simp
    simp only [Act.put, List.setIfInBounds_toArray, List.set_cons_zero, List.set_cons_succ]
    refine takeH (i := 1) 11 (v := .int .i64 gen) rfl rfl (by kernel_rfl) (by kernel_rfl) (by kernel_rfl) (fun _ _ _ h => h) (Or.inl ⟨by rfl, ?_⟩) (by assumption) ?_
    · intro w' hSw'
      obtain ⟨d0, d1, d2, d3, d4⟩ := CX.out w' (U2.out w' hSw')
      go_simp
    simp only [Act.put, List.setIfInBounds_toArray, List.set_cons_zero, List.set_cons_succ]
    refine takeH (i := 3) 13 (v := .pointer (some ⟨w.heap.size, 1, none⟩)) rfl rfl (by kernel_rfl) (by kernel_rfl) (by kernel_rfl) (fun _ _ _ h => h) (Or.inl ⟨by rfl, ?_⟩) (by assumption) ?_
    · intro w' hSw'
      go_simp
    simp only [Act.put, List.setIfInBounds_toArray, List.set_cons_zero, List.set_cons_succ]
    refine takeH (i := 4) 14 (v := .int .i64 next) rfl rfl (by kernel_rfl) (by kernel_rfl) (by kernel_rfl) (fun _ _ _ h => h) (Or.inl ⟨by rfl, ?_⟩) (by assumption) ?_
    · intro w' hSw'
      obtain ⟨d0, d1, d2, d3, d4⟩ := CX.out w' (U2.out w' hSw')
      go_simp
    simp only [Act.put, List.setIfInBounds_toArray, List.set_cons_zero, List.set_cons_succ]
    refine wpAnyH_ready (rs := [2]) (by kernel_rfl) (by simp) ?_
    refine AllReadyH.cons rfl (fun K hK => ?_) AllReadyH.nil
    go_simp
    refine (P1.out _).mono ?_
    rintro e v1 ⟨a1, c1, rfl, hs1, hb1⟩
    have s1 := keep hs1
    have bl1 : Hid (Below w2.heap.size w2 v1) := ((Below.refl _ _).drew).trans (hb1.mono (Nat.le_refl _))
    clear hs1 hb1
    go_wp2_with fail
    refine hK.out _ _ (bl1.out) (fun hHeld1 => ?_)
    clear hK K
    refine wpAnyH_ready (rs := [5]) (by kernel_rfl) (by simp) ?_
    refine AllReadyH.cons rfl (fun K hK => ?_) AllReadyH.nil
    go_simp
    refine (P2.out _ _ _ s1.out).mono ?_
    rintro e v2 ⟨a2, c2, rfl, hs2, hb2⟩
    have s2 := keep hs2
    have bl2 : Hid (Below w2.heap.size w2 v2) := bl1.out.trans (hb2.mono bl1.out.size)
    clear hs2 hb2
    go_wp2_with fail
    refine hK.out _ _ (bl2.out) (fun hHeld2 => ?_)
    clear hK K
    refine takeH (i := 6) 4 (v := .slice a2 L2.length c2) rfl rfl (by kernel_rfl) (by kernel_rfl) (by kernel_rfl) (fun _ _ _ h => h) (Or.inl ⟨by rfl, ?_⟩) (by assumption) ?_
    · intro w' hSw'
      go_simp
    simp only [Act.put, List.setIfInBounds_toArray, List.set_cons_zero, List.set_cons_succ]
    refine wpAnyH_done (by kernel_rfl) ?_ _
    have U3 : Hid (∀ w', Below v2.heap.size v2 w' → Below W1.heap.size W1 w') := fun w' hb => U2.out w' (bl2.out.trans (hb.mono bl2.out.size))
    go_wp2_with fail
    refine wp_region_held_drew (S := fun w' => Below v2.heap.size v2 w') (by kernel_rfl) ((Below.refl _ _).drew) (fun hHeld => ?_)
    refine takeH (i := 0) 16 (v := .slice a2 L2.length c2) rfl rfl (by kernel_rfl) (by kernel_rfl) (by kernel_rfl) (fun _ _ _ h => h) (Or.inl ⟨by rfl, ?_⟩) (by assumption) ?_
    · intro w' hSw'
      go_simp
    simp only [Act.put, List.setIfInBounds_toArray, List.set_cons_zero, List.set_cons_succ]
    refine takeH (i := 1) 17 (v := .pointer (some ⟨w.heap.size, 2, none⟩)) rfl rfl (by kernel_rfl) (by kernel_rfl) (by kernel_rfl) (fun _ _ _ h => h) (Or.inl ⟨by rfl, ?_⟩) (by assumption) ?_
    · intro w' hSw'
      go_simp
    simp only [Act.put, List.setIfInBounds_toArray, List.set_cons_zero, List.set_cons_succ]
    refine takeH (i := 2) 18 (v := .int .i64 log) rfl rfl (by kernel_rfl) (by kernel_rfl) (by kernel_rfl) (fun _ _ _ h => h) (Or.inl ⟨by rfl, ?_⟩) (by assumption) ?_
    · intro w' hSw'
      obtain ⟨d0, d1, d2, d3, d4⟩ := CX.out w' (U3.out w' hSw')
      go_simp
    simp only [Act.put, List.setIfInBounds_toArray, List.set_cons_zero, List.set_cons_succ]
    refine takeH (i := 4) 20 (v := .pointer (some ⟨w.heap.size, 3, none⟩)) rfl rfl (by kernel_rfl) (by kernel_rfl) (by kernel_rfl) (fun _ _ _ h => h) (Or.inl ⟨by rfl, ?_⟩) (by assumption) ?_
    · intro w' hSw'
      go_simp
    simp only [Act.put, List.setIfInBounds_toArray, List.set_cons_zero, List.set_cons_succ]
    refine takeH (i := 5) 21 (v := .int .i64 seq) rfl rfl (by kernel_rfl) (by kernel_rfl) (by kernel_rfl) (fun _ _ _ h => h) (Or.inl ⟨by rfl, ?_⟩) (by assumption) ?_
    · intro w' hSw'
      obtain ⟨d0, d1, d2, d3, d4⟩ := CX.out w' (U3.out w' hSw')
      go_simp
    simp only [Act.put, List.setIfInBounds_toArray, List.set_cons_zero, List.set_cons_succ]
    refine wpAnyH_ready (rs := [3]) (by kernel_rfl) (by simp) ?_
    refine AllReadyH.cons rfl (fun K hK => ?_) AllReadyH.nil
    go_simp
    refine (P3.out _ _ _ (s2.out.below (Below.refl _ _).drew)).mono ?_
    rintro e v3 ⟨a3, c3, rfl, hs3, hb3⟩
    have s3 := keep hs3
    have bl3 : Hid (Below v2.heap.size v2 v3) := ((Below.refl _ _).drew).trans (hb3.mono (Nat.le_refl _))
    clear hs3 hb3
    go_wp2_with fail
    refine hK.out _ _ (bl3.out) (fun hHeld1 => ?_)
    clear hK K
    refine wpAnyH_ready (rs := [6]) (by kernel_rfl) (by simp) ?_
    refine AllReadyH.cons rfl (fun K hK => ?_) AllReadyH.nil
    go_simp
    refine (P4.out _ _ _ s3.out).mono ?_
    rintro e v4 ⟨a4, c4, rfl, hs4, hb4⟩
    have s4 := keep hs4
    have bl4 : Hid (Below v2.heap.size v2 v4) := bl3.out.trans (hb4.mono bl3.out.size)
    clear hs4 hb4
    go_wp2_with fail
    refine hK.out _ _ (bl4.out) (fun hHeld2 => ?_)
    clear hK K
    refine takeH (i := 7) 4 (v := .slice a4 L4.length c4) rfl rfl (by kernel_rfl) (by kernel_rfl) (by kernel_rfl) (fun _ _ _ h => h) (Or.inl ⟨by rfl, ?_⟩) (by assumption) ?_
    · intro w' hSw'
      go_simp
    simp only [Act.put, List.setIfInBounds_toArray, List.set_cons_zero, List.set_cons_succ]
    refine wpAnyH_done (by kernel_rfl) ?_ _
    have U4 : Hid (∀ w', Below v4.heap.size v4 w' → Below W1.heap.size W1 w') := fun w' hb => U3.out w' (bl4.out.trans (hb.mono bl4.out.size))
    obtain ⟨d0, d1, d2, d3, d4⟩ := CX.out v4 (U4.out v4 (Below.refl _ _))
    go_wp2_with fail
    refine (P5.out v4 a4 c4 s4.out).mono ?_
    rintro e w5 ⟨aN, cN, rfl, hsN, hbN⟩
    have SN := keep hsN
    have L5 := keep (U4.out w5 hbN)
    clear hsN hbN d0 d1 d2 d3 d4
    go_wp2
    go_loopw [4, 5] (fun vo i wr => ∃ (k : Nat) (a : Option Addr) (L : List UInt8) (c3 : Nat), k ≤ n ∧ L.length ≤ 45 + 173 * k ∧ vo = .slice a L.length c3 ∧ i = .int .i64 (k : Int) ∧ Hid (NS ++ Ed.notesB ((es.map (·.m)).take k) = L) ∧ Hid (Src wr a L.length c3 L) ∧ Hid (Below W1.heap.size W1 wr)) (fun _ i _ => n - (intOf i).toNat)
    case atStart => exact ⟨0, aN, NS, cN, Nat.zero_le _, by have := HNSL.out; omega, rfl, rfl, List.append_nil _, SN.out, L5.out⟩
    case round =>
      obtain ⟨k, a, L, c3, hk, hLL, rfl, rfl, hEL, hS, hB⟩ := hrel
      have HB := keep (b1.out.trans (hB.out.mono b1.out.size))
      obtain ⟨c0, c1, c2, c3', c4'⟩ := CX.out wr hB.out
      by_cases hkn : k < n
      · obtain ⟨b, off, rfl, _, _⟩ := SX.out.form metaKind_ok (by omega)
        obtain ⟨y, hy⟩ : ∃ y, es[k]? = some y := ⟨es[k]'(by rw [HL.out]; exact hkn), List.getElem?_eq_getElem _⟩
        have SE : Hid (∀ w', Below wr.heap.size wr w' → RSrc metaKind w' (some ⟨b, off, none⟩) n c es) := fun w' hb => SX.out.below metaKind_ok (HB.out.trans (hb.mono HB.out.size))
        obtain ⟨p0, p1, p2, p3, p4⟩ := meta_cells (SE.out wr (Below.refl _ _)) hy
        have HYM : Hid ((es.map (·.m))[k]? = some y.m) := by show _ = _; rw [List.getElem?_map, hy]; rfl
        have YK := keep (Ed.may_keys (Ed.notes_may NOK.out (List.mem_of_getElem? HYM.out)).1)
        have YH : Hid (∀ w', Below wr.heap.size wr w' → metaKind.held w' y) := fun w' hb => (SE.out w' hb).held y (List.mem_of_getElem? hy)
        have NTL := keep (Ed.noteB_len YK.out.1 YK.out.2)
        have TM : Hid (NS ++ Ed.notesB ((es.map (·.m)).take (k + 1)) = L ++ Ed.noteB y.m) := by show _ = _; rw [take_more HYM.out, Ed.notesB_more, ← List.append_assoc, hEL.out]
        clear hy
        have ll : (k : Int) < (n : Int) := by omega
        have l0 : (0 : Int) ≤ (k : Int) := by omega
        obtain ⟨yfp, yfc, ylp, ylc, ⟨ynum, ylevel, ycount, yfirst, ylast⟩⟩ := y
        simp only at p0 p1 p2 p3 p4 TM YK NTL
        obtain ⟨M1, hM1⟩ : ∃ M, L ++ num (cl ynum) = M := ⟨_, rfl⟩
        obtain ⟨M2, hM2⟩ : ∃ M, M1 ++ num (cl ylevel) = M := ⟨_, rfl⟩
        obtain ⟨M3, hM3⟩ : ∃ M, M2 ++ num (cl ycount) = M := ⟨_, rfl⟩
        obtain ⟨M4, hM4⟩ : ∃ M, M3 ++ (num yfirst.length ++ yfirst) = M := ⟨_, rfl⟩
        obtain ⟨M5, hM5⟩ : ∃ M, M4 ++ (num ylast.length ++ ylast) = M := ⟨_, rfl⟩
        have hE5 : L ++ Ed.noteB ⟨ynum, ylevel, ycount, yfirst, ylast⟩ = M5 := by
          rw [noteB_parts, ← hM5, ← hM4, ← hM3, ← hM2, ← hM1]
          simp only [List.append_assoc]
        have m5 : M5.length ≤ 45 + 173 * (k + 1) := by
          rw [← hE5, List.length_append]
          have := NTL.out
          omega
        have m4 : M4.length ≤ 45 + 173 * (k + 1) := by rw [← hM5, List.length_append] at m5; omega
        have m3 : M3.length ≤ 45 + 173 * (k + 1) := by rw [← hM4, List.length_append] at m4; omega
        have m2 : M2.length ≤ 45 + 173 * (k + 1) := by rw [← hM3, List.length_append] at m3; omega
        have m1 : M1.length ≤ 45 + 173 * (k + 1) := by rw [← hM2, List.length_append] at m2; omega
        have yk := YK.out
        have Q1 : Hid (∀ w' a c, Src w' a L.length c L → _) := fun w' a c hs => rpn hM1 (by omega) a c w' hs
        have Q2 : Hid (∀ w' a c, Src w' a M1.length c M1 → _) := fun w' a c hs => rpn hM2 (by omega) a c w' hs
        have Q3 : Hid (∀ w' a c, Src w' a M2.length c M2 → _) := fun w' a c hs => rpn hM3 (by omega) a c w' hs
        have Q4 : Hid (∀ w' a c, Src w' a M3.length c M3 → _) := fun w' a c hs => rpt hM4 (by omega) a c w' hs
        have Q5 : Hid (∀ w' a c, Src w' a M4.length c M4 → _) := fun w' a c hs => rpt hM5 (by omega) a c w' hs
        have E5 : Hid (NS ++ Ed.notesB ((es.map (·.m)).take (k + 1)) = M5) := TM.out.trans hE5
        have HM5 := keep m5
        clear hM1 hM2 hM3 hM4 hM5 hE5 m1 m2 m3 m4 m5 yk
        obtain ⟨Wm, hWm⟩ : ∃ Wn, wr.alloc (.cells #[.int .i64 ynum, .int .i64 ylevel, .int .i64 ycount, .slice yfp yfirst.length yfc, .slice ylp ylast.length ylc] 53) = Wn := ⟨_, rfl⟩
        have bWm : Hid (Below wr.heap.size wr Wm) := by rw [← hWm]; exact (Below.refl _ _).alloc (Nat.le_refl _) _
        have gWm : Hid (Wm.heap[wr.heap.size]? = some (.cells #[.int .i64 ynum, .int .i64 ylevel, .int .i64 ycount, .slice yfp yfirst.length yfc, .slice ylp ylast.length ylc] 53)) := by rw [← hWm]; exact heap_alloc_new wr _
        have CY : Hid (∀ w', Below Wm.heap.size Wm w' → w'.cell? ⟨wr.heap.size, 0, none⟩ = some (.int .i64 ynum) ∧ w'.cell? ⟨wr.heap.size, 1, none⟩ = some (.int .i64 ylevel) ∧ w'.cell? ⟨wr.heap.size, 2, none⟩ = some (.int .i64 ycount) ∧ w'.cell? ⟨wr.heap.size, 3, none⟩ = some (.slice yfp yfirst.length yfc) ∧ w'.cell? ⟨wr.heap.size, 4, none⟩ = some (.slice ylp ylast.length ylc)) := fun w' hb => ⟨belowE hb (cell_of_row _ _ _ _ _ _ gWm.out), belowE hb (cell_of_row _ _ _ _ _ _ gWm.out), belowE hb (cell_of_row _ _ _ _ _ _ gWm.out), belowE hb (cell_of_row _ _ _ _ _ _ gWm.out), belowE hb (cell_of_row _ _ _ _ _ _ gWm.out)⟩
        have UR : Hid (∀ w', Below Wm.heap.size Wm w' → Below wr.heap.size wr w') := fun w' hb => bWm.out.trans (hb.mono bWm.out.size)
        have SI : Hid (∀ w', Below Wm.heap.size Wm w' → Src w' a L.length c3 L) := fun w' hb => hS.out.below (UR.out w' hb)
        have SF : Hid (∀ w', Below Wm.heap.size Wm w' → _) := fun w' hb => convM (YH.out w' (UR.out w' hb)).1
        have SLL : Hid (∀ w', Below Wm.heap.size Wm w' → _) := fun w' hb => convM (YH.out w' (UR.out w' hb)).2
        simp only at SF SLL
        go_wp2_with fail
        refine wp_region_held_drew (S := fun w' => Below Wm.heap.size Wm w') (by kernel_rfl) ((Below.refl _ _).drew) (fun hHeld => ?_)
        refine takeH (i := 0) 40 (v := .slice a L.length c3) rfl rfl (by kernel_rfl) (by kernel_rfl) (by kernel_rfl) (fun _ _ _ h => h) (Or.inl ⟨by rfl, ?_⟩) (by assumption) ?_
        · intro w' hSw'
          go_simp
        simp only [Act.put, List.setIfInBounds_toArray, List.set_cons_zero, List.set_cons_succ]
        refine takeH (i := 1) 41 (v := .pointer (some ⟨wr.heap.size, 0, none⟩)) rfl rfl (by kernel_rfl) (by kernel_rfl) (by kernel_rfl) (fun _ _ _ h => h) (Or.inl ⟨by rfl, ?_⟩) (by assumption) ?_
        · intro w' hSw'
          go_simp
        simp only [Act.put, List.setIfInBounds_toArray, List.set_cons_zero, List.set_cons_succ]
        refine takeH (i := 2) 42 (v := .int .i64 ynum) rfl rfl (by kernel_rfl) (by kernel_rfl) (by kernel_rfl) (fun _ _ _ h => h) (Or.inl ⟨by rfl, ?_⟩) (by assumption) ?_
        · intro w' hSw'
          obtain ⟨d0, d1, d2, d3, d4⟩ := CY.out w' (hSw')
          go_simp
        simp only [Act.put, List.setIfInBounds_toArray, List.set_cons_zero, List.set_cons_succ]
        refine takeH (i := 4) 44 (v := .pointer (some ⟨wr.heap.size, 1, none⟩)) rfl rfl (by kernel_rfl) (by kernel_rfl) (by kernel_rfl) (fun _ _ _ h => h) (Or.inl ⟨by rfl, ?_⟩) (by assumption) ?_
        · intro w' hSw'
          go_simp
        simp only [Act.put, List.setIfInBounds_toArray, List.set_cons_zero, List.set_cons_succ]
        refine takeH (i := 5) 45 (v := .int .i64 ylevel) rfl rfl (by kernel_rfl) (by kernel_rfl) (by kernel_rfl) (fun _ _ _ h => h) (Or.inl ⟨by rfl, ?_⟩) (by assumption) ?_
        · intro w' hSw'
          obtain ⟨d0, d1, d2, d3, d4⟩ := CY.out w' (hSw')
          go_simp
        simp only [Act.put, List.setIfInBounds_toArray, List.set_cons_zero, List.set_cons_succ]
        refine takeH (i := 7) 47 (v := .pointer (some ⟨wr.heap.size, 2, none⟩)) rfl rfl (by kernel_rfl) (by kernel_rfl) (by kernel_rfl) (fun _ _ _ h => h) (Or.inl ⟨by rfl, ?_⟩) (by assumption) ?_
        · intro w' hSw'
          go_simp
        simp only [Act.put, List.setIfInBounds_toArray, List.set_cons_zero, List.set_cons_succ]
        refine takeH (i := 8) 48 (v := .int .i64 ycount) rfl rfl (by kernel_rfl) (by kernel_rfl) (by kernel_rfl) (fun _ _ _ h => h) (Or.inl ⟨by rfl, ?_⟩) (by assumption) ?_
        · intro w' hSw'
          obtain ⟨d0, d1, d2, d3, d4⟩ := CY.out w' (hSw')
          go_simp
        simp only [Act.put, List.setIfInBounds_toArray, List.set_cons_zero, List.set_cons_succ]
        refine wpAnyH_ready (rs := [3]) (by kernel_rfl) (by simp) ?_
        refine AllReadyH.cons rfl (fun K hK => ?_) AllReadyH.nil
        go_simp
        refine (Q1.out _ _ _ (SI.out _ (Below.refl _ _).drew)).mono ?_
        rintro e v5 ⟨a5, c5, rfl, hs5, hb5⟩
        have s5 := keep hs5
        have bl5 : Hid (Below Wm.heap.size Wm v5) := ((Below.refl _ _).drew).trans (hb5.mono (Nat.le_refl _))
        clear hs5 hb5
        go_wp2_with fail
        refine hK.out _ _ (bl5.out) (fun hHeld1 => ?_)
        clear hK K
        refine wpAnyH_ready (rs := [6]) (by kernel_rfl) (by simp) ?_
        refine AllReadyH.cons rfl (fun K hK => ?_) AllReadyH.nil
        go_simp
        refine (Q2.out _ _ _ s5.out).mono ?_
        rintro e v6 ⟨a6, c6, rfl, hs6, hb6⟩
        have s6 := keep hs6
        have bl6 : Hid (Below Wm.heap.size Wm v6) := bl5.out.trans (hb6.mono bl5.out.size)
        clear hs6 hb6
        go_wp2_with fail
        refine hK.out _ _ (bl6.out) (fun hHeld2 => ?_)
        clear hK K
        refine wpAnyH_ready (rs := [9]) (by kernel_rfl) (by simp) ?_
        refine AllReadyH.cons rfl (fun K hK => ?_) AllReadyH.nil
        go_simp
        refine (Q3.out _ _ _ s6.out).mono ?_
        rintro e v7 ⟨a7, c7, rfl, hs7, hb7⟩
        have s7 := keep hs7
        have bl7 : Hid (Below Wm.heap.size Wm v7) := bl6.out.trans (hb7.mono bl6.out.size)
        clear hs7 hb7
        go_wp2_with fail
        refine hK.out _ _ (bl7.out) (fun hHeld3 => ?_)
        clear hK K
        refine takeH (i := 10) 4 (v := .slice a7 M3.length c7) rfl rfl (by kernel_rfl) (by kernel_rfl) (by kernel_rfl) (fun _ _ _ h => h) (Or.inl ⟨by rfl, ?_⟩) (by assumption) ?_
        · intro w' hSw'
          go_simp
        simp only [Act.put, List.setIfInBounds_toArray, List.set_cons_zero, List.set_cons_succ]
        refine wpAnyH_done (by kernel_rfl) ?_ _
        have UY : Hid (∀ w', Below v7.heap.size v7 w' → Below Wm.heap.size Wm w') := fun w' hb => bl7.out.trans (hb.mono bl7.out.size)
        clear p0 p1 p2 p3 p4 c0 c1 c2 c3' c4' hWm
        go_wp2_with fail
        refine wp_region_held_drew (S := fun w' => Below v7.heap.size v7 w') (by kernel_rfl) ((Below.refl _ _).drew) (fun hHeld => ?_)
        refine takeH (i := 0) 50 (v := .slice a7 M3.length c7) rfl rfl (by kernel_rfl) (by kernel_rfl) (by kernel_rfl) (fun _ _ _ h => h) (Or.inl ⟨by rfl, ?_⟩) (by assumption) ?_
        · intro w' hSw'
          go_simp
        simp only [Act.put, List.setIfInBounds_toArray, List.set_cons_zero, List.set_cons_succ]
        refine takeH (i := 1) 51 (v := .pointer (some ⟨wr.heap.size, 3, none⟩)) rfl rfl (by kernel_rfl) (by kernel_rfl) (by kernel_rfl) (fun _ _ _ h => h) (Or.inl ⟨by rfl, ?_⟩) (by assumption) ?_
        · intro w' hSw'
          go_simp
        simp only [Act.put, List.setIfInBounds_toArray, List.set_cons_zero, List.set_cons_succ]
        refine takeH (i := 2) 52 (v := .slice yfp yfirst.length yfc) rfl rfl (by kernel_rfl) (by kernel_rfl) (by kernel_rfl) (fun _ _ _ h => h) (Or.inl ⟨by rfl, ?_⟩) (by assumption) ?_
        · intro w' hSw'
          obtain ⟨d0, d1, d2, d3, d4⟩ := CY.out w' (UY.out w' hSw')
          go_simp
        simp only [Act.put, List.setIfInBounds_toArray, List.set_cons_zero, List.set_cons_succ]
        refine takeH (i := 3) 53 (v := .string ⟨yfirst.toArray⟩) rfl rfl (by kernel_rfl) (by kernel_rfl) (by kernel_rfl) (fun _ _ _ h => h) (Or.inl ⟨by rfl, ?_⟩) (by assumption) ?_
        · intro w' hSw'
          have cv := SF.out w' (UY.out w' hSw')
          go_simp
        simp only [Act.put, List.setIfInBounds_toArray, List.set_cons_zero, List.set_cons_succ]
        refine takeH (i := 5) 55 (v := .pointer (some ⟨wr.heap.size, 4, none⟩)) rfl rfl (by kernel_rfl) (by kernel_rfl) (by kernel_rfl) (fun _ _ _ h => h) (Or.inl ⟨by rfl, ?_⟩) (by assumption) ?_
        · intro w' hSw'
          go_simp
        simp only [Act.put, List.setIfInBounds_toArray, List.set_cons_zero, List.set_cons_succ]
        refine takeH (i := 6) 56 (v := .slice ylp ylast.length ylc) rfl rfl (by kernel_rfl) (by kernel_rfl) (by kernel_rfl) (fun _ _ _ h => h) (Or.inl ⟨by rfl, ?_⟩) (by assumption) ?_
        · intro w' hSw'
          obtain ⟨d0, d1, d2, d3, d4⟩ := CY.out w' (UY.out w' hSw')
          go_simp
        simp only [Act.put, List.setIfInBounds_toArray, List.set_cons_zero, List.set_cons_succ]
        refine takeH (i := 7) 57 (v := .string ⟨ylast.toArray⟩) rfl rfl (by kernel_rfl) (by kernel_rfl) (by kernel_rfl) (fun _ _ _ h => h) (Or.inl ⟨by rfl, ?_⟩) (by assumption) ?_
        · intro w' hSw'
          have cv := SLL.out w' (UY.out w' hSw')
          go_simp
        simp only [Act.put, List.setIfInBounds_toArray, List.set_cons_zero, List.set_cons_succ]
        refine wpAnyH_ready (rs := [4]) (by kernel_rfl) (by simp) ?_
        refine AllReadyH.cons rfl (fun K hK => ?_) AllReadyH.nil
        go_simp
        refine (Q4.out _ _ _ (s7.out.below (Below.refl _ _).drew)).mono ?_
        rintro e v8 ⟨a8, c8, rfl, hs8, hb8⟩
        have s8 := keep hs8
        have bl8 : Hid (Below v7.heap.size v7 v8) := ((Below.refl _ _).drew).trans (hb8.mono (Nat.le_refl _))
        clear hs8 hb8
        go_wp2_with fail
        refine hK.out _ _ (bl8.out) (fun hHeld1 => ?_)
        clear hK K
        refine wpAnyH_ready (rs := [8]) (by kernel_rfl) (by simp) ?_
        refine AllReadyH.cons rfl (fun K hK => ?_) AllReadyH.nil
        go_simp
        refine (Q5.out _ _ _ s8.out).mono ?_
        rintro e v9 ⟨a9, c9, rfl, hs9, hb9⟩
        have s9 := keep hs9
        have bl9 : Hid (Below v7.heap.size v7 v9) := bl8.out.trans (hb9.mono bl8.out.size)
        clear hs9 hb9
        go_wp2_with fail
        refine hK.out _ _ (bl9.out) (fun hHeld2 => ?_)
        clear hK K
        refine takeH (i := 9) 4 (v := .slice a9 M5.length c9) rfl rfl (by kernel_rfl) (by kernel_rfl) (by kernel_rfl) (fun _ _ _ h => h) (Or.inl ⟨by rfl, ?_⟩) (by assumption) ?_
        · intro w' hSw'
          go_simp
        simp only [Act.put, List.setIfInBounds_toArray, List.set_cons_zero, List.set_cons_succ]
        refine wpAnyH_done (by kernel_rfl) ?_ _
        go_wp2
        go_roundw
        case rel => exact ⟨k + 1, a9, M5, c9, by omega, HM5.out, rfl, by go_num, E5, s9.out, hB.out.trans ((UR.out _ (UY.out _ bl9.out)).mono hB.out.size)⟩
        case measure => simp [intOf]; omega
      · obtain rfl : k = n := by omega
        have E1 := hEL.out
        rw [FULL.out] at E1
        have HE1 := keep E1
        clear E1
        go_wp2
        go_ret2
        exact ANS.out _ _ _ _ (by rw [HE1.out]; exact hS.out) HB.out
end Go.Proofs.YthaiodajfmbeaaaGreat
