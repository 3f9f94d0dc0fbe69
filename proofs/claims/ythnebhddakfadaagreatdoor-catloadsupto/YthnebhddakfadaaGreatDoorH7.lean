/- The walks of mayBeNotes and Check. -/
import Derived.Test.YthnebhddakfadaaGreatDoorJoinH6
namespace Go.Proofs.YthnebhddakfadaaGreatDoor.Ed
/-- May the note at k be, behind the one ahead of it? -/
def okN (l : List Nt) (next : Int) (k : Nat) : Bool :=
  match l[k]? with
  | none => true
  | some m => mayBe m && decide (m.num < next) && (match k with
    | 0 => true
    | j + 1 => match l[j]? with
      | some p => !meets p m
      | none => true)
/-- May these be a version's notes? -/
def notesOk (l : List Nt) (next : Int) : Bool := decide (l.length ≤ 4096) && sorted l && !twice l && (List.range l.length).all (okN l next)
theorem notes_no {l : List Nt} {next : Int} {k : Nat} (hk : k < l.length) (h : okN l next k = false) : notesOk l next = false := by
  have : (List.range l.length).all (okN l next) = false := by
    cases hs : (List.range l.length).all (okN l next) with
    | false => rfl
    | true => rw [List.all_eq_true.1 hs k (List.mem_range.2 hk)] at h; cases h
  unfold notesOk
  rw [this, Bool.and_false]
theorem notes_yes {l : List Nt} {next : Int} (h1 : l.length ≤ 4096) (h2 : sorted l = true) (h3 : twice l = false) (h : ∀ k, k < l.length → okN l next k = true) : notesOk l next = true := by
  unfold notesOk
  rw [decide_eq_true h1, h2, h3, List.all_eq_true.2 (fun k hk => h k (List.mem_range.1 hk))]
  rfl
theorem okN_zero {l : List Nt} {next : Int} {m : Nt} (h : l[0]? = some m) : okN l next 0 = (mayBe m && decide (m.num < next)) := by unfold okN; rw [h]; simp
theorem okN_succ {l : List Nt} {next : Int} {j : Nat} {p m : Nt} (h : l[j + 1]? = some m) (h2 : l[j]? = some p) : okN l next (j + 1) = (mayBe m && decide (m.num < next) && !meets p m) := by unfold okN; rw [h]; simp only [h2]
theorem okN_bad {l : List Nt} {next : Int} {k : Nat} {m : Nt} (h : l[k]? = some m) (h2 : (mayBe m && decide (m.num < next)) = false) : okN l next k = false := by unfold okN; rw [h]; simp only [h2, Bool.false_and]
/-- A version. -/
structure Ver where
  gen : Int
  next : Int
  log : Int
  seq : Int
  tabs : List Nt
/-- May a version be? -/
def chk (v : Ver) : Bool := isNum v.gen && isNum v.next && isNum v.log && isNum v.seq && notesOk v.tabs v.next
end Go.Proofs.YthnebhddakfadaaGreatDoor.Ed
namespace Go.Proofs.YthnebhddakfadaaGreatDoor
open Go.RowKit
open Ed (Nt)

set_option maxHeartbeats 2000000 in
set_option maxRecDepth 100000 in
theorem notes_long (ao : Option Addr) (n c : Nat) (next : Int) (w : World) (hn : 4096 < n) :
    Calls Tryz.prog 73 #[.slice ao n c, .int .i64 next] w fun e w' => e = .returned (.bool false) ∧ Below w.heap.size w w' := by
  have d0 : (4096 : Int) < (n : Int) := by omega
  go_enter Tryz.func73, Tryz.ntmps73
  go_wp2
  go_ret
  exact ⟨rfl, Below.refl _ _⟩
set_option maxHeartbeats 4000000 in
set_option maxRecDepth 100000 in
theorem notes_any (ao : Option Addr) (n c : Nat) (next : Int) (es : List MV) (w : World) (hsrc : RSrc metaKind w ao n c es) :
    Calls Tryz.prog 73 #[.slice ao n c, .int .i64 next] w fun e w' => e = .returned (.bool (Ed.notesOk (es.map (·.m)) next)) ∧ Below w.heap.size w w' := by
  have HML : Hid ((es.map (·.m)).length = n) := by show _ = _; rw [List.length_map]; exact hsrc.len
  by_cases hbig : 4096 < n
  · have e : Ed.notesOk (es.map (·.m)) next = false := by unfold Ed.notesOk; rw [HML.out, decide_eq_false (by omega)]; rfl
    rw [e]
    exact notes_long ao n c next w hbig
  have d0 : ¬ (4096 : Int) < (n : Int) := by omega
  have d1 : n ≤ 4096 := by omega
  have SRC := keep hsrc
  have HL : Hid (es.length = n) := hsrc.len
  have SO := keep (isSorted_any ao n c es w hsrc (by omega))
  have TW : Hid (∀ w', Below w.heap.size w w' → Calls Tryz.prog 115 #[.slice ao n c] w' fun e w'' => e = .returned (.bool (Ed.twice (es.map (·.m)))) ∧ Below w.heap.size w w'') := fun w' hb => (twice_any ao n c es w' (hsrc.below metaKind_ok hb) (by omega)).mono (fun e w'' h => ⟨h.1, hb.trans (h.2.mono hb.size)⟩)
  clear hsrc hbig
  cases hso : Ed.sorted (es.map (·.m)) with
  | false =>
    have e : Ed.notesOk (es.map (·.m)) next = false := by unfold Ed.notesOk; rw [hso, Bool.and_false, Bool.false_and, Bool.false_and]
    rw [e]
    rw [hso] at SO
    clear e hso
    go_enter Tryz.func73, Tryz.ntmps73
    go_wp2_with fail
    refine SO.out.mono ?_
    rintro e w1 ⟨rfl, hb⟩
    have B1 := keep hb
    clear hb
    go_wp2
    go_ret
    exact ⟨rfl, B1.out⟩
  | true =>
    rw [hso] at SO
    have HSO := keep hso
    clear hso
    cases htw : Ed.twice (es.map (·.m)) with
    | true =>
      have e : Ed.notesOk (es.map (·.m)) next = false := by unfold Ed.notesOk; rw [htw, Bool.not_true, Bool.and_false, Bool.false_and]
      rw [e]
      rw [htw] at TW
      clear e htw
      go_enter Tryz.func73, Tryz.ntmps73
      go_wp2_with fail
      refine SO.out.mono ?_
      rintro e w1 ⟨rfl, hb⟩
      have B1 := keep hb
      clear hb
      go_wp2_with fail
      refine (TW.out _ B1.out).mono ?_
      rintro e w2 ⟨rfl, hb⟩
      have B2 := keep hb
      clear hb
      go_wp2
      go_ret
      exact ⟨rfl, B2.out⟩
    | false =>
      rw [htw] at TW
      have HTW := keep htw
      clear htw
      obtain ⟨Z, hZ⟩ : ∃ Z, Ed.notesOk (es.map (·.m)) next = Z := ⟨_, rfl⟩
      have NO : Hid (∀ k, k < n → Ed.okN (es.map (·.m)) next k = false → Z = false) := fun k hk h => by rw [← hZ]; exact Ed.notes_no (by rw [HML.out]; exact hk) h
      have YES : Hid ((∀ k, k < n → Ed.okN (es.map (·.m)) next k = true) → Z = true) := fun h => by rw [← hZ]; exact Ed.notes_yes (by rw [HML.out]; exact d1) HSO.out HTW.out (fun k hk => h k (by rw [HML.out] at hk; exact hk))
      rw [hZ]
      clear hZ HSO HTW
      go_enter Tryz.func73, Tryz.ntmps73
      go_wp2_with fail
      refine SO.out.mono ?_
      rintro e w1 ⟨rfl, hb⟩
      have B1 := keep hb
      clear hb
      go_wp2_with fail
      refine (TW.out _ B1.out).mono ?_
      rintro e w2 ⟨rfl, hb⟩
      have B2 := keep hb
      clear hb SO TW B1
      go_wp2
      go_loopw [21] (fun i wr => ∃ k : Nat, k ≤ n ∧ i = .int .i64 (k : Int) ∧ Hid (Below w.heap.size w wr ∧ ∀ j, j < k → Ed.okN (es.map (·.m)) next j = true)) (fun i _ => n - (intOf i).toNat)
      case atStart => exact ⟨0, Nat.zero_le _, rfl, B2.out, fun j hj => by omega⟩
      case round =>
        clear B2
        obtain ⟨k, hk, rfl, hI⟩ := hrel
        have HB := keep hI.out.1
        by_cases hkn : k < n
        · obtain ⟨b, off, rfl, _, _⟩ := SRC.out.form metaKind_ok (by omega)
          obtain ⟨y, hy⟩ : ∃ y, es[k]? = some y := ⟨es[k]'(by rw [HL.out]; exact hkn), List.getElem?_eq_getElem _⟩
          have HY : Hid ((es.map (·.m))[k]? = some y.m) := by show _ = _; rw [List.getElem?_map, hy]; rfl
          have SE : Hid (∀ w', Below wr.heap.size wr w' → RSrc metaKind w' (some ⟨b, off, none⟩) n c es) := fun w' hb => SRC.out.below metaKind_ok (HB.out.trans (hb.mono HB.out.size))
          obtain ⟨p0, p1, p2, p3, p4⟩ := meta_cells (SE.out wr (Below.refl _ _)) hy
          have HH : Hid (∀ w', Below wr.heap.size wr w' → metaKind.held w' y) := fun w' hb => (SE.out w' hb).held y (List.mem_of_getElem? hy)
          have MB : Hid (∀ w', Below wr.heap.size wr w' → _) := fun w' hb => mayBe_any y w' (HH.out w' hb)
          have NK : Hid (k < n → Ed.mayBe y.m = false → Z = false) := fun hk h => NO.out k hk (Ed.okN_bad HY.out (by rw [h]; rfl))
          have NN : Hid (k < n → decide (y.m.num < next) = false → Z = false) := fun hk h => NO.out k hk (Ed.okN_bad HY.out (by rw [h, Bool.and_false]))
          clear hy
          obtain ⟨q1, hq1⟩ : ∃ q, Ed.mayBe y.m = q := ⟨_, rfl⟩
          have Q1 := keep hq1
          rw [hq1] at MB NK
          clear hq1
          have ll : (k : Int) < (n : Int) := by omega
          have l0 : (0 : Int) ≤ (k : Int) := by omega
          obtain ⟨yfp, yfc, ylp, ylc, ⟨ynum, ylevel, ycount, yfirst, ylast⟩⟩ := y
          unfold mv at MB
          simp only at p0 p1 p2 p3 p4 HY MB NN Q1
          obtain ⟨W2, hW2⟩ : ∃ W2, wr.alloc (.cells #[.int .i64 ynum, .int .i64 ylevel, .int .i64 ycount, .slice yfp yfirst.length yfc, .slice ylp ylast.length ylc] 113) = W2 := ⟨_, rfl⟩
          have b2 : Hid (Below wr.heap.size wr W2) := by rw [← hW2]; exact (Below.refl _ _).alloc (Nat.le_refl _) _
          have g2 : Hid (W2.heap[wr.heap.size]? = some (.cells #[.int .i64 ynum, .int .i64 ylevel, .int .i64 ycount, .slice yfp yfirst.length yfc, .slice ylp ylast.length ylc] 113)) := by rw [← hW2]; exact heap_alloc_new wr _
          have CF : Hid (∀ w', Below W2.heap.size W2 w' → w'.cell? ⟨wr.heap.size, 0, none⟩ = some (.int .i64 ynum) ∧ w'.cell? ⟨wr.heap.size, 1, none⟩ = some (.int .i64 ylevel) ∧ w'.cell? ⟨wr.heap.size, 2, none⟩ = some (.int .i64 ycount) ∧ w'.cell? ⟨wr.heap.size, 3, none⟩ = some (.slice yfp yfirst.length yfc) ∧ w'.cell? ⟨wr.heap.size, 4, none⟩ = some (.slice ylp ylast.length ylc)) := fun w' hb => ⟨belowE hb (cell_of_row _ _ _ _ _ _ g2.out), belowE hb (cell_of_row _ _ _ _ _ _ g2.out), belowE hb (cell_of_row _ _ _ _ _ _ g2.out), belowE hb (cell_of_row _ _ _ _ _ _ g2.out), belowE hb (cell_of_row _ _ _ _ _ _ g2.out)⟩
          have UP : Hid (∀ w', Below W2.heap.size W2 w' → Below wr.heap.size wr w') := fun w' hb => b2.out.trans (hb.mono b2.out.size)
          have BW : Hid (∀ w', Below W2.heap.size W2 w' → Below w.heap.size w w') := fun w' hb => HB.out.trans ((UP.out w' hb).mono HB.out.size)
          cases q1 with
          | false =>
            have ZF := NK.out hkn rfl
            subst ZF
            clear NO YES NK NN
            go_wp2_with fail
            refine wp_region_held_drew (S := fun w' => Below W2.heap.size W2 w') (by kernel_rfl) ((Below.refl _ _).drew) (fun hHeld => ?_)
            refine takeH (i := 0) 26 (v := .agg #[.int .i64 ynum, .int .i64 ylevel, .int .i64 ycount, .slice yfp yfirst.length yfc, .slice ylp ylast.length ylc]) rfl rfl (by kernel_rfl) (by kernel_rfl) (by kernel_rfl) (fun _ _ _ h => h) (Or.inl ⟨by rfl, ?_⟩) (by assumption) ?_
            · intro w' hSw'
              obtain ⟨d0, d1, d2, d3, d4⟩ := CF.out w' hSw'
              go_simp
            simp only [Act.put, List.setIfInBounds_toArray, List.set_cons_zero, List.set_cons_succ]
            refine wpAnyH_ready (rs := [1]) (by kernel_rfl) (by simp) ?_
            refine AllReadyH.cons rfl (fun K hK => ?_) AllReadyH.nil
            go_simp
            refine (MB.out _ (UP.out _ (Below.refl _ _).drew)).mono ?_
            rintro e w7 ⟨rfl, hb7⟩
            have b7 : Hid (Below W2.heap.size W2 w7) := ((Below.refl _ _).drew).trans (hb7.mono (Nat.le_refl _))
            clear hb7
            go_wp2_with fail
            refine hK.out _ _ (b7.out) (fun hHeld1 => ?_)
            clear hK K
            refine takeH (i := 2) 28 (v := .bool true) rfl rfl (by kernel_rfl) (by kernel_rfl) (by kernel_rfl) (fun _ _ _ h => h) (Or.inl ⟨by rfl, ?_⟩) (by assumption) ?_
            · intro w' hSw'
              go_simp
            simp only [Act.put, List.setIfInBounds_toArray, List.set_cons_zero, List.set_cons_succ]
            refine takeH (i := 3) 29 (v := .bool true) rfl rfl (by kernel_rfl) (by kernel_rfl) (by kernel_rfl) (fun _ _ _ h => h) (Or.inl ⟨by rfl, ?_⟩) (by assumption) ?_
            · intro w' hSw'
              go_simp
            simp only [Act.put, List.setIfInBounds_toArray, List.set_cons_zero, List.set_cons_succ]
            refine takeH (i := 4) 30 (v := undef) rfl rfl (by kernel_rfl) (by kernel_rfl) (by kernel_rfl) (fun _ _ _ h => h) (Or.inr ⟨by rfl, rfl⟩) (by assumption) ?_
            simp only [Act.put, List.setIfInBounds_toArray, List.set_cons_zero, List.set_cons_succ]
            refine takeH (i := 5) 31 (v := undef) rfl rfl (by kernel_rfl) (by kernel_rfl) (by kernel_rfl) (fun _ _ _ h => h) (Or.inr ⟨by rfl, rfl⟩) (by assumption) ?_
            simp only [Act.put, List.setIfInBounds_toArray, List.set_cons_zero, List.set_cons_succ]
            refine takeH (i := 6) 32 (v := undef) rfl rfl (by kernel_rfl) (by kernel_rfl) (by kernel_rfl) (fun _ _ _ h => h) (Or.inr ⟨by rfl, rfl⟩) (by assumption) ?_
            simp only [Act.put, List.setIfInBounds_toArray, List.set_cons_zero, List.set_cons_succ]
            refine takeH (i := 7) 33 (v := undef) rfl rfl (by kernel_rfl) (by kernel_rfl) (by kernel_rfl) (fun _ _ _ h => h) (Or.inr ⟨by rfl, rfl⟩) (by assumption) ?_
            simp only [Act.put, List.setIfInBounds_toArray, List.set_cons_zero, List.set_cons_succ]
            refine takeH (i := 8) 34 (v := .bool true) rfl rfl (by kernel_rfl) (by kernel_rfl) (by kernel_rfl) (fun _ _ _ h => h) (Or.inl ⟨by rfl, ?_⟩) (by assumption) ?_
            · intro w' hSw'
              go_simp
            simp only [Act.put, List.setIfInBounds_toArray, List.set_cons_zero, List.set_cons_succ]
            refine takeH (i := 9) 35 (v := .bool true) rfl rfl (by kernel_rfl) (by kernel_rfl) (by kernel_rfl) (fun _ _ _ h => h) (Or.inl ⟨by rfl, ?_⟩) (by assumption) ?_
            · intro w' hSw'
              go_simp
            simp only [Act.put, List.setIfInBounds_toArray, List.set_cons_zero, List.set_cons_succ]
            refine takeH (i := 10) 36 (v := undef) rfl rfl (by kernel_rfl) (by kernel_rfl) (by kernel_rfl) (fun _ _ _ h => h) (Or.inr ⟨by rfl, rfl⟩) (by assumption) ?_
            simp only [Act.put, List.setIfInBounds_toArray, List.set_cons_zero, List.set_cons_succ]
            refine takeH (i := 11) 37 (v := undef) rfl rfl (by kernel_rfl) (by kernel_rfl) (by kernel_rfl) (fun _ _ _ h => h) (Or.inr ⟨by rfl, rfl⟩) (by assumption) ?_
            simp only [Act.put, List.setIfInBounds_toArray, List.set_cons_zero, List.set_cons_succ]
            refine takeH (i := 12) 38 (v := undef) rfl rfl (by kernel_rfl) (by kernel_rfl) (by kernel_rfl) (fun _ _ _ h => h) (Or.inr ⟨by rfl, rfl⟩) (by assumption) ?_
            simp only [Act.put, List.setIfInBounds_toArray, List.set_cons_zero, List.set_cons_succ]
            refine takeH (i := 13) 39 (v := undef) rfl rfl (by kernel_rfl) (by kernel_rfl) (by kernel_rfl) (fun _ _ _ h => h) (Or.inr ⟨by rfl, rfl⟩) (by assumption) ?_
            simp only [Act.put, List.setIfInBounds_toArray, List.set_cons_zero, List.set_cons_succ]
            refine takeH (i := 14) 40 (v := undef) rfl rfl (by kernel_rfl) (by kernel_rfl) (by kernel_rfl) (fun _ _ _ h => h) (Or.inr ⟨by rfl, rfl⟩) (by assumption) ?_
            simp only [Act.put, List.setIfInBounds_toArray, List.set_cons_zero, List.set_cons_succ]
            refine takeH (i := 15) 41 (v := undef) rfl rfl (by kernel_rfl) (by kernel_rfl) (by kernel_rfl) (fun _ _ _ h => h) (Or.inr ⟨by rfl, rfl⟩) (by assumption) ?_
            simp only [Act.put, List.setIfInBounds_toArray, List.set_cons_zero, List.set_cons_succ]
            refine takeH (i := 16) 42 (v := undef) rfl rfl (by kernel_rfl) (by kernel_rfl) (by kernel_rfl) (fun _ _ _ h => h) (Or.inr ⟨by rfl, rfl⟩) (by assumption) ?_
            simp only [Act.put, List.setIfInBounds_toArray, List.set_cons_zero, List.set_cons_succ]
            refine takeH (i := 17) 43 (v := undef) rfl rfl (by kernel_rfl) (by kernel_rfl) (by kernel_rfl) (fun _ _ _ h => h) (Or.inr ⟨by rfl, rfl⟩) (by assumption) ?_
            simp only [Act.put, List.setIfInBounds_toArray, List.set_cons_zero, List.set_cons_succ]
            refine takeH (i := 18) 44 (v := undef) rfl rfl (by kernel_rfl) (by kernel_rfl) (by kernel_rfl) (fun _ _ _ h => h) (Or.inr ⟨by rfl, rfl⟩) (by assumption) ?_
            simp only [Act.put, List.setIfInBounds_toArray, List.set_cons_zero, List.set_cons_succ]
            refine takeH (i := 19) 45 (v := undef) rfl rfl (by kernel_rfl) (by kernel_rfl) (by kernel_rfl) (fun _ _ _ h => h) (Or.inr ⟨by rfl, rfl⟩) (by assumption) ?_
            simp only [Act.put, List.setIfInBounds_toArray, List.set_cons_zero, List.set_cons_succ]
            refine takeH (i := 20) 46 (v := undef) rfl rfl (by kernel_rfl) (by kernel_rfl) (by kernel_rfl) (fun _ _ _ h => h) (Or.inr ⟨by rfl, rfl⟩) (by assumption) ?_
            simp only [Act.put, List.setIfInBounds_toArray, List.set_cons_zero, List.set_cons_succ]
            refine takeH (i := 21) 47 (v := .bool true) rfl rfl (by kernel_rfl) (by kernel_rfl) (by kernel_rfl) (fun _ _ _ h => h) (Or.inl ⟨by rfl, ?_⟩) (by assumption) ?_
            · intro w' hSw'
              go_simp
            simp only [Act.put, List.setIfInBounds_toArray, List.set_cons_zero, List.set_cons_succ]
            refine wpAnyH_done (by kernel_rfl) ?_ _
            go_wp2
            go_ret
            exact ⟨rfl, BW.out _ b7.out⟩
          | true =>
            by_cases hlt : ynum < next
            · have dn : decide (next ≤ ynum) = false := decide_eq_false (by omega)
              have hle : ¬ next ≤ ynum := by omega
              rcases Nat.eq_zero_or_pos k with hk0 | hk0
              · subst hk0
                have OK0 : Hid (Ed.okN (es.map (·.m)) next 0 = true) := by show _ = _; rw [Ed.okN_zero HY.out, Q1.out]; simp [hlt]
                clear NK NN
                simp only [Nat.zero_mul, Nat.add_zero] at p0 p1 p2 p3 p4
                go_wp2_with fail
                refine wp_region_held_drew (S := fun w' => Below W2.heap.size W2 w') (by kernel_rfl) ((Below.refl _ _).drew) (fun hHeld => ?_)
                refine takeH (i := 0) 26 (v := .agg #[.int .i64 ynum, .int .i64 ylevel, .int .i64 ycount, .slice yfp yfirst.length yfc, .slice ylp ylast.length ylc]) rfl rfl (by kernel_rfl) (by kernel_rfl) (by kernel_rfl) (fun _ _ _ h => h) (Or.inl ⟨by rfl, ?_⟩) (by assumption) ?_
                · intro w' hSw'
                  obtain ⟨d0, d1, d2, d3, d4⟩ := CF.out w' hSw'
                  go_simp
                simp only [Act.put, List.setIfInBounds_toArray, List.set_cons_zero, List.set_cons_succ]
                refine wpAnyH_ready (rs := [1]) (by kernel_rfl) (by simp) ?_
                refine AllReadyH.cons rfl (fun K hK => ?_) AllReadyH.nil
                go_simp
                refine (MB.out _ (UP.out _ (Below.refl _ _).drew)).mono ?_
                rintro e w7 ⟨rfl, hb7⟩
                have b7 : Hid (Below W2.heap.size W2 w7) := ((Below.refl _ _).drew).trans (hb7.mono (Nat.le_refl _))
                clear hb7
                go_wp2_with fail
                refine hK.out _ _ (b7.out) (fun hHeld1 => ?_)
                clear hK K
                refine takeH (i := 2) 28 (v := .bool false) rfl rfl (by kernel_rfl) (by kernel_rfl) (by kernel_rfl) (fun _ _ _ h => h) (Or.inl ⟨by rfl, ?_⟩) (by assumption) ?_
                · intro w' hSw'
                  go_simp
                simp only [Act.put, List.setIfInBounds_toArray, List.set_cons_zero, List.set_cons_succ]
                refine takeH (i := 3) 29 (v := .bool false) rfl rfl (by kernel_rfl) (by kernel_rfl) (by kernel_rfl) (fun _ _ _ h => h) (Or.inl ⟨by rfl, ?_⟩) (by assumption) ?_
                · intro w' hSw'
                  go_simp
                simp only [Act.put, List.setIfInBounds_toArray, List.set_cons_zero, List.set_cons_succ]
                refine takeH (i := 4) 30 (v := .pointer (some ⟨wr.heap.size, 0, none⟩)) rfl rfl (by kernel_rfl) (by kernel_rfl) (by kernel_rfl) (fun _ _ _ h => h) (Or.inl ⟨by rfl, ?_⟩) (by assumption) ?_
                · intro w' hSw'
                  go_simp
                simp only [Act.put, List.setIfInBounds_toArray, List.set_cons_zero, List.set_cons_succ]
                refine takeH (i := 5) 31 (v := .int .i64 ynum) rfl rfl (by kernel_rfl) (by kernel_rfl) (by kernel_rfl) (fun _ _ _ h => h) (Or.inl ⟨by rfl, ?_⟩) (by assumption) ?_
                · intro w' hSw'
                  obtain ⟨d0, d1, d2, d3, d4⟩ := CF.out w' hSw'
                  go_simp
                simp only [Act.put, List.setIfInBounds_toArray, List.set_cons_zero, List.set_cons_succ]
                refine takeH (i := 6) 32 (v := .int .i64 next) rfl rfl (by kernel_rfl) (by kernel_rfl) (by kernel_rfl) (fun _ _ _ h => h) (Or.inl ⟨by rfl, ?_⟩) (by assumption) ?_
                · intro w' hSw'
                  go_simp
                simp only [Act.put, List.setIfInBounds_toArray, List.set_cons_zero, List.set_cons_succ]
                refine takeH (i := 7) 33 (v := .bool false) rfl rfl (by kernel_rfl) (by kernel_rfl) (by kernel_rfl) (fun _ _ _ h => h) (Or.inl ⟨by rfl, ?_⟩) (by assumption) ?_
                · intro w' hSw'
                  go_simp
                simp only [Act.put, List.setIfInBounds_toArray, List.set_cons_zero, List.set_cons_succ]
                refine takeH (i := 8) 34 (v := .bool false) rfl rfl (by kernel_rfl) (by kernel_rfl) (by kernel_rfl) (fun _ _ _ h => h) (Or.inl ⟨by rfl, ?_⟩) (by assumption) ?_
                · intro w' hSw'
                  go_simp
                simp only [Act.put, List.setIfInBounds_toArray, List.set_cons_zero, List.set_cons_succ]
                refine takeH (i := 9) 35 (v := .bool false) rfl rfl (by kernel_rfl) (by kernel_rfl) (by kernel_rfl) (fun _ _ _ h => h) (Or.inl ⟨by rfl, ?_⟩) (by assumption) ?_
                · intro w' hSw'
                  go_simp
                simp only [Act.put, List.setIfInBounds_toArray, List.set_cons_zero, List.set_cons_succ]
                refine takeH (i := 10) 36 (v := .int .i64 0) rfl rfl (by kernel_rfl) (by kernel_rfl) (by kernel_rfl) (fun _ _ _ h => h) (Or.inl ⟨by rfl, ?_⟩) (by assumption) ?_
                · intro w' hSw'
                  go_simp
                simp only [Act.put, List.setIfInBounds_toArray, List.set_cons_zero, List.set_cons_succ]
                refine takeH (i := 11) 37 (v := .bool false) rfl rfl (by kernel_rfl) (by kernel_rfl) (by kernel_rfl) (fun _ _ _ h => h) (Or.inl ⟨by rfl, ?_⟩) (by assumption) ?_
                · intro w' hSw'
                  go_simp
                simp only [Act.put, List.setIfInBounds_toArray, List.set_cons_zero, List.set_cons_succ]
                refine takeH (i := 12) 38 (v := .bool false) rfl rfl (by kernel_rfl) (by kernel_rfl) (by kernel_rfl) (fun _ _ _ h => h) (Or.inl ⟨by rfl, ?_⟩) (by assumption) ?_
                · intro w' hSw'
                  go_simp
                simp only [Act.put, List.setIfInBounds_toArray, List.set_cons_zero, List.set_cons_succ]
                refine takeH (i := 13) 39 (v := undef) rfl rfl (by kernel_rfl) (by kernel_rfl) (by kernel_rfl) (fun _ _ _ h => h) (Or.inr ⟨by rfl, rfl⟩) (by assumption) ?_
                simp only [Act.put, List.setIfInBounds_toArray, List.set_cons_zero, List.set_cons_succ]
                refine takeH (i := 14) 40 (v := undef) rfl rfl (by kernel_rfl) (by kernel_rfl) (by kernel_rfl) (fun _ _ _ h => h) (Or.inr ⟨by rfl, rfl⟩) (by assumption) ?_
                simp only [Act.put, List.setIfInBounds_toArray, List.set_cons_zero, List.set_cons_succ]
                refine takeH (i := 15) 41 (v := undef) rfl rfl (by kernel_rfl) (by kernel_rfl) (by kernel_rfl) (fun _ _ _ h => h) (Or.inr ⟨by rfl, rfl⟩) (by assumption) ?_
                simp only [Act.put, List.setIfInBounds_toArray, List.set_cons_zero, List.set_cons_succ]
                refine takeH (i := 16) 42 (v := undef) rfl rfl (by kernel_rfl) (by kernel_rfl) (by kernel_rfl) (fun _ _ _ h => h) (Or.inr ⟨by rfl, rfl⟩) (by assumption) ?_
                simp only [Act.put, List.setIfInBounds_toArray, List.set_cons_zero, List.set_cons_succ]
                refine takeH (i := 17) 43 (v := undef) rfl rfl (by kernel_rfl) (by kernel_rfl) (by kernel_rfl) (fun _ _ _ h => h) (Or.inr ⟨by rfl, rfl⟩) (by assumption) ?_
                simp only [Act.put, List.setIfInBounds_toArray, List.set_cons_zero, List.set_cons_succ]
                refine takeH (i := 18) 44 (v := undef) rfl rfl (by kernel_rfl) (by kernel_rfl) (by kernel_rfl) (fun _ _ _ h => h) (Or.inr ⟨by rfl, rfl⟩) (by assumption) ?_
                simp only [Act.put, List.setIfInBounds_toArray, List.set_cons_zero, List.set_cons_succ]
                refine takeH (i := 19) 45 (v := undef) rfl rfl (by kernel_rfl) (by kernel_rfl) (by kernel_rfl) (fun _ _ _ h => h) (Or.inr ⟨by rfl, rfl⟩) (by assumption) ?_
                simp only [Act.put, List.setIfInBounds_toArray, List.set_cons_zero, List.set_cons_succ]
                refine takeH (i := 20) 46 (v := .bool false) rfl rfl (by kernel_rfl) (by kernel_rfl) (by kernel_rfl) (fun _ _ _ h => h) (Or.inl ⟨by rfl, ?_⟩) (by assumption) ?_
                · intro w' hSw'
                  go_simp
                simp only [Act.put, List.setIfInBounds_toArray, List.set_cons_zero, List.set_cons_succ]
                refine takeH (i := 21) 47 (v := .bool false) rfl rfl (by kernel_rfl) (by kernel_rfl) (by kernel_rfl) (fun _ _ _ h => h) (Or.inl ⟨by rfl, ?_⟩) (by assumption) ?_
                · intro w' hSw'
                  go_simp
                simp only [Act.put, List.setIfInBounds_toArray, List.set_cons_zero, List.set_cons_succ]
                refine wpAnyH_done (by kernel_rfl) ?_ _
                go_wp2
                go_roundw
                case rel => exact ⟨1, by omega, by go_num, BW.out _ b7.out, fun j hj => by
                  obtain rfl : j = 0 := by omega
                  exact OK0.out⟩
                case measure => simp [intOf]; omega
              · obtain ⟨j, rfl⟩ : ∃ j, k = j + 1 := ⟨k - 1, by omega⟩
                obtain ⟨x, hx⟩ : ∃ x, es[j]? = some x := ⟨es[j]'(by rw [HL.out]; omega), List.getElem?_eq_getElem _⟩
                have CX : Hid (∀ w', Below wr.heap.size wr w' → _) := fun w' hb => meta_cells (SE.out w' hb) hx
                have ME : Hid (∀ w', Below wr.heap.size wr w' → _) := fun w' hb => meets_any x _ w' ((SE.out w' hb).held x (List.mem_of_getElem? hx)) (HH.out w' hb)
                have OKJ : Hid (Ed.okN (es.map (·.m)) next (j + 1) = !Ed.meets x.m ⟨ynum, ylevel, ycount, yfirst, ylast⟩) := by
                  show _ = _
                  rw [Ed.okN_succ HY.out (by rw [List.getElem?_map, hx]; rfl), Q1.out]
                  simp [hlt]
                obtain ⟨o, ho⟩ : ∃ o, Ed.meets x.m ⟨ynum, ylevel, ycount, yfirst, ylast⟩ = o := ⟨_, rfl⟩
                simp only at ME
                rw [ho] at ME OKJ
                clear hx ho NK NN
                obtain ⟨xfp, xfc, xlp, xlc, ⟨xnum, xlevel, xcount, xfirst, xlast⟩⟩ := x
                unfold mv at ME
                simp only at CX ME
                have lg : (0 : Int) < ((j + 1 : Nat) : Int) := by omega
                have lg2 : (0 : Int) < (j : Int) + 1 := by omega
                have t1 : IntKind.i64.wrap (j : Int) = (j : Int) := wrap_small _ (by omega) (by omega)
                have t2 : ((j + 1 : Nat) : Int) - 1 = (j : Int) := by omega
                have t2b : (j : Int) + 1 - 1 = (j : Int) := by omega
                have t3 : (j : Int) < (n : Int) := by omega
                have t4 : (0 : Int) ≤ (j : Int) := by omega
                have t7 : j < n := by omega
                have t8 : j + 1 < n := by omega
                have t9 : (j : Int) + 1 < (n : Int) := by omega
                cases o with
                | true =>
                  have ZF := NO.out (j + 1) hkn OKJ.out
                  subst ZF
                  clear NO YES
                  go_wp2_with fail
                  refine wp_region_held_drew (S := fun w' => Below W2.heap.size W2 w') (by kernel_rfl) ((Below.refl _ _).drew) (fun hHeld => ?_)
                  refine takeH (i := 0) 26 (v := .agg #[.int .i64 ynum, .int .i64 ylevel, .int .i64 ycount, .slice yfp yfirst.length yfc, .slice ylp ylast.length ylc]) rfl rfl (by kernel_rfl) (by kernel_rfl) (by kernel_rfl) (fun _ _ _ h => h) (Or.inl ⟨by rfl, ?_⟩) (by assumption) ?_
                  · intro w' hSw'
                    obtain ⟨d0, d1, d2, d3, d4⟩ := CF.out w' hSw'
                    go_simp
                  simp only [Act.put, List.setIfInBounds_toArray, List.set_cons_zero, List.set_cons_succ]
                  refine wpAnyH_ready (rs := [1]) (by kernel_rfl) (by simp) ?_
                  refine AllReadyH.cons rfl (fun K hK => ?_) AllReadyH.nil
                  go_simp
                  refine (MB.out _ (UP.out _ (Below.refl _ _).drew)).mono ?_
                  rintro e w7 ⟨rfl, hb7⟩
                  have b7 : Hid (Below W2.heap.size W2 w7) := ((Below.refl _ _).drew).trans (hb7.mono (Nat.le_refl _))
                  clear hb7
                  go_wp2_with fail
                  refine hK.out _ _ (b7.out) (fun hHeld1 => ?_)
                  clear hK K
                  refine takeH (i := 2) 28 (v := .bool false) rfl rfl (by kernel_rfl) (by kernel_rfl) (by kernel_rfl) (fun _ _ _ h => h) (Or.inl ⟨by rfl, ?_⟩) (by assumption) ?_
                  · intro w' hSw'
                    go_simp
                  simp only [Act.put, List.setIfInBounds_toArray, List.set_cons_zero, List.set_cons_succ]
                  refine takeH (i := 3) 29 (v := .bool false) rfl rfl (by kernel_rfl) (by kernel_rfl) (by kernel_rfl) (fun _ _ _ h => h) (Or.inl ⟨by rfl, ?_⟩) (by assumption) ?_
                  · intro w' hSw'
                    go_simp
                  simp only [Act.put, List.setIfInBounds_toArray, List.set_cons_zero, List.set_cons_succ]
                  refine takeH (i := 4) 30 (v := .pointer (some ⟨wr.heap.size, 0, none⟩)) rfl rfl (by kernel_rfl) (by kernel_rfl) (by kernel_rfl) (fun _ _ _ h => h) (Or.inl ⟨by rfl, ?_⟩) (by assumption) ?_
                  · intro w' hSw'
                    go_simp
                  simp only [Act.put, List.setIfInBounds_toArray, List.set_cons_zero, List.set_cons_succ]
                  refine takeH (i := 5) 31 (v := .int .i64 ynum) rfl rfl (by kernel_rfl) (by kernel_rfl) (by kernel_rfl) (fun _ _ _ h => h) (Or.inl ⟨by rfl, ?_⟩) (by assumption) ?_
                  · intro w' hSw'
                    obtain ⟨d0, d1, d2, d3, d4⟩ := CF.out w' hSw'
                    go_simp
                  simp only [Act.put, List.setIfInBounds_toArray, List.set_cons_zero, List.set_cons_succ]
                  refine takeH (i := 6) 32 (v := .int .i64 next) rfl rfl (by kernel_rfl) (by kernel_rfl) (by kernel_rfl) (fun _ _ _ h => h) (Or.inl ⟨by rfl, ?_⟩) (by assumption) ?_
                  · intro w' hSw'
                    go_simp
                  simp only [Act.put, List.setIfInBounds_toArray, List.set_cons_zero, List.set_cons_succ]
                  refine takeH (i := 7) 33 (v := .bool false) rfl rfl (by kernel_rfl) (by kernel_rfl) (by kernel_rfl) (fun _ _ _ h => h) (Or.inl ⟨by rfl, ?_⟩) (by assumption) ?_
                  · intro w' hSw'
                    go_simp
                  simp only [Act.put, List.setIfInBounds_toArray, List.set_cons_zero, List.set_cons_succ]
                  refine takeH (i := 8) 34 (v := .bool false) rfl rfl (by kernel_rfl) (by kernel_rfl) (by kernel_rfl) (fun _ _ _ h => h) (Or.inl ⟨by rfl, ?_⟩) (by assumption) ?_
                  · intro w' hSw'
                    go_simp
                  simp only [Act.put, List.setIfInBounds_toArray, List.set_cons_zero, List.set_cons_succ]
                  refine takeH (i := 9) 35 (v := .bool false) rfl rfl (by kernel_rfl) (by kernel_rfl) (by kernel_rfl) (fun _ _ _ h => h) (Or.inl ⟨by rfl, ?_⟩) (by assumption) ?_
                  · intro w' hSw'
                    go_simp
                  simp only [Act.put, List.setIfInBounds_toArray, List.set_cons_zero, List.set_cons_succ]
                  refine takeH (i := 10) 36 (v := .int .i64 ((j + 1 : Nat) : Int)) rfl rfl (by kernel_rfl) (by kernel_rfl) (by kernel_rfl) (fun _ _ _ h => h) (Or.inl ⟨by rfl, ?_⟩) (by assumption) ?_
                  · intro w' hSw'
                    go_simp
                  simp only [Act.put, List.setIfInBounds_toArray, List.set_cons_zero, List.set_cons_succ]
                  refine takeH (i := 11) 37 (v := .bool true) rfl rfl (by kernel_rfl) (by kernel_rfl) (by kernel_rfl) (fun _ _ _ h => h) (Or.inl ⟨by rfl, ?_⟩) (by assumption) ?_
                  · intro w' hSw'
                    go_simp
                  simp only [Act.put, List.setIfInBounds_toArray, List.set_cons_zero, List.set_cons_succ]
                  refine takeH (i := 12) 38 (v := .bool true) rfl rfl (by kernel_rfl) (by kernel_rfl) (by kernel_rfl) (fun _ _ _ h => h) (Or.inl ⟨by rfl, ?_⟩) (by assumption) ?_
                  · intro w' hSw'
                    go_simp
                  simp only [Act.put, List.setIfInBounds_toArray, List.set_cons_zero, List.set_cons_succ]
                  refine takeH (i := 13) 39 (v := .slice (some ⟨b, off, none⟩) n c) rfl rfl (by kernel_rfl) (by kernel_rfl) (by kernel_rfl) (fun _ _ _ h => h) (Or.inl ⟨by rfl, ?_⟩) (by assumption) ?_
                  · intro w' hSw'
                    go_simp
                  simp only [Act.put, List.setIfInBounds_toArray, List.set_cons_zero, List.set_cons_succ]
                  refine takeH (i := 14) 40 (v := .int .i64 ((j + 1 : Nat) : Int)) rfl rfl (by kernel_rfl) (by kernel_rfl) (by kernel_rfl) (fun _ _ _ h => h) (Or.inl ⟨by rfl, ?_⟩) (by assumption) ?_
                  · intro w' hSw'
                    go_simp
                  simp only [Act.put, List.setIfInBounds_toArray, List.set_cons_zero, List.set_cons_succ]
                  refine takeH (i := 15) 41 (v := .int .i64 (j : Int)) rfl rfl (by kernel_rfl) (by kernel_rfl) (by kernel_rfl) (fun _ _ _ h => h) (Or.inl ⟨by rfl, ?_⟩) (by assumption) ?_
                  · intro w' hSw'
                    go_simp
                  simp only [Act.put, List.setIfInBounds_toArray, List.set_cons_zero, List.set_cons_succ]
                  refine takeH (i := 16) 42 (v := .pointer (some ⟨b, off + j * 5, none⟩)) rfl rfl (by kernel_rfl) (by kernel_rfl) (by kernel_rfl) (fun _ _ _ h => h) (Or.inl ⟨by rfl, ?_⟩) (by assumption) ?_
                  · intro w' hSw'
                    go_simp
                  simp only [Act.put, List.setIfInBounds_toArray, List.set_cons_zero, List.set_cons_succ]
                  refine takeH (i := 17) 43 (v := .agg #[.int .i64 xnum, .int .i64 xlevel, .int .i64 xcount, .slice xfp xfirst.length xfc, .slice xlp xlast.length xlc]) rfl rfl (by kernel_rfl) (by kernel_rfl) (by kernel_rfl) (fun _ _ _ h => h) (Or.inl ⟨by rfl, ?_⟩) (by assumption) ?_
                  · intro w' hSw'
                    obtain ⟨d0, d1, d2, d3, d4⟩ := CX.out w' (UP.out w' hSw')
                    go_simp
                  simp only [Act.put, List.setIfInBounds_toArray, List.set_cons_zero, List.set_cons_succ]
                  refine takeH (i := 18) 44 (v := .agg #[.int .i64 ynum, .int .i64 ylevel, .int .i64 ycount, .slice yfp yfirst.length yfc, .slice ylp ylast.length ylc]) rfl rfl (by kernel_rfl) (by kernel_rfl) (by kernel_rfl) (fun _ _ _ h => h) (Or.inl ⟨by rfl, ?_⟩) (by assumption) ?_
                  · intro w' hSw'
                    obtain ⟨d0, d1, d2, d3, d4⟩ := CF.out w' hSw'
                    go_simp
                  simp only [Act.put, List.setIfInBounds_toArray, List.set_cons_zero, List.set_cons_succ]
                  refine wpAnyH_ready (rs := [19]) (by kernel_rfl) (by simp) ?_
                  refine AllReadyH.cons rfl (fun K hK => ?_) AllReadyH.nil
                  go_simp
                  refine (ME.out _ (UP.out _ b7.out)).mono ?_
                  rintro e w8 ⟨rfl, hb8⟩
                  have b8 : Hid (Below W2.heap.size W2 w8) := b7.out.trans (hb8.mono b7.out.size)
                  clear hb8
                  go_wp2_with fail
                  refine hK.out _ _ (b8.out) (fun hHeld2 => ?_)
                  clear hK K
                  refine takeH (i := 20) 46 (v := .bool true) rfl rfl (by kernel_rfl) (by kernel_rfl) (by kernel_rfl) (fun _ _ _ h => h) (Or.inl ⟨by rfl, ?_⟩) (by assumption) ?_
                  · intro w' hSw'
                    go_simp
                  simp only [Act.put, List.setIfInBounds_toArray, List.set_cons_zero, List.set_cons_succ]
                  refine takeH (i := 21) 47 (v := .bool true) rfl rfl (by kernel_rfl) (by kernel_rfl) (by kernel_rfl) (fun _ _ _ h => h) (Or.inl ⟨by rfl, ?_⟩) (by assumption) ?_
                  · intro w' hSw'
                    go_simp
                  simp only [Act.put, List.setIfInBounds_toArray, List.set_cons_zero, List.set_cons_succ]
                  refine wpAnyH_done (by kernel_rfl) ?_ _
                  go_wp2
                  go_ret
                  exact ⟨rfl, BW.out _ b8.out⟩
                | false =>
                  go_wp2_with fail
                  refine wp_region_held_drew (S := fun w' => Below W2.heap.size W2 w') (by kernel_rfl) ((Below.refl _ _).drew) (fun hHeld => ?_)
                  refine takeH (i := 0) 26 (v := .agg #[.int .i64 ynum, .int .i64 ylevel, .int .i64 ycount, .slice yfp yfirst.length yfc, .slice ylp ylast.length ylc]) rfl rfl (by kernel_rfl) (by kernel_rfl) (by kernel_rfl) (fun _ _ _ h => h) (Or.inl ⟨by rfl, ?_⟩) (by assumption) ?_
                  · intro w' hSw'
                    obtain ⟨d0, d1, d2, d3, d4⟩ := CF.out w' hSw'
                    go_simp
                  simp only [Act.put, List.setIfInBounds_toArray, List.set_cons_zero, List.set_cons_succ]
                  refine wpAnyH_ready (rs := [1]) (by kernel_rfl) (by simp) ?_
                  refine AllReadyH.cons rfl (fun K hK => ?_) AllReadyH.nil
                  go_simp
                  refine (MB.out _ (UP.out _ (Below.refl _ _).drew)).mono ?_
                  rintro e w7 ⟨rfl, hb7⟩
                  have b7 : Hid (Below W2.heap.size W2 w7) := ((Below.refl _ _).drew).trans (hb7.mono (Nat.le_refl _))
                  clear hb7
                  go_wp2_with fail
                  refine hK.out _ _ (b7.out) (fun hHeld1 => ?_)
                  clear hK K
                  refine takeH (i := 2) 28 (v := .bool false) rfl rfl (by kernel_rfl) (by kernel_rfl) (by kernel_rfl) (fun _ _ _ h => h) (Or.inl ⟨by rfl, ?_⟩) (by assumption) ?_
                  · intro w' hSw'
                    go_simp
                  simp only [Act.put, List.setIfInBounds_toArray, List.set_cons_zero, List.set_cons_succ]
                  refine takeH (i := 3) 29 (v := .bool false) rfl rfl (by kernel_rfl) (by kernel_rfl) (by kernel_rfl) (fun _ _ _ h => h) (Or.inl ⟨by rfl, ?_⟩) (by assumption) ?_
                  · intro w' hSw'
                    go_simp
                  simp only [Act.put, List.setIfInBounds_toArray, List.set_cons_zero, List.set_cons_succ]
                  refine takeH (i := 4) 30 (v := .pointer (some ⟨wr.heap.size, 0, none⟩)) rfl rfl (by kernel_rfl) (by kernel_rfl) (by kernel_rfl) (fun _ _ _ h => h) (Or.inl ⟨by rfl, ?_⟩) (by assumption) ?_
                  · intro w' hSw'
                    go_simp
                  simp only [Act.put, List.setIfInBounds_toArray, List.set_cons_zero, List.set_cons_succ]
                  refine takeH (i := 5) 31 (v := .int .i64 ynum) rfl rfl (by kernel_rfl) (by kernel_rfl) (by kernel_rfl) (fun _ _ _ h => h) (Or.inl ⟨by rfl, ?_⟩) (by assumption) ?_
                  · intro w' hSw'
                    obtain ⟨d0, d1, d2, d3, d4⟩ := CF.out w' hSw'
                    go_simp
                  simp only [Act.put, List.setIfInBounds_toArray, List.set_cons_zero, List.set_cons_succ]
                  refine takeH (i := 6) 32 (v := .int .i64 next) rfl rfl (by kernel_rfl) (by kernel_rfl) (by kernel_rfl) (fun _ _ _ h => h) (Or.inl ⟨by rfl, ?_⟩) (by assumption) ?_
                  · intro w' hSw'
                    go_simp
                  simp only [Act.put, List.setIfInBounds_toArray, List.set_cons_zero, List.set_cons_succ]
                  refine takeH (i := 7) 33 (v := .bool false) rfl rfl (by kernel_rfl) (by kernel_rfl) (by kernel_rfl) (fun _ _ _ h => h) (Or.inl ⟨by rfl, ?_⟩) (by assumption) ?_
                  · intro w' hSw'
                    go_simp
                  simp only [Act.put, List.setIfInBounds_toArray, List.set_cons_zero, List.set_cons_succ]
                  refine takeH (i := 8) 34 (v := .bool false) rfl rfl (by kernel_rfl) (by kernel_rfl) (by kernel_rfl) (fun _ _ _ h => h) (Or.inl ⟨by rfl, ?_⟩) (by assumption) ?_
                  · intro w' hSw'
                    go_simp
                  simp only [Act.put, List.setIfInBounds_toArray, List.set_cons_zero, List.set_cons_succ]
                  refine takeH (i := 9) 35 (v := .bool false) rfl rfl (by kernel_rfl) (by kernel_rfl) (by kernel_rfl) (fun _ _ _ h => h) (Or.inl ⟨by rfl, ?_⟩) (by assumption) ?_
                  · intro w' hSw'
                    go_simp
                  simp only [Act.put, List.setIfInBounds_toArray, List.set_cons_zero, List.set_cons_succ]
                  refine takeH (i := 10) 36 (v := .int .i64 ((j + 1 : Nat) : Int)) rfl rfl (by kernel_rfl) (by kernel_rfl) (by kernel_rfl) (fun _ _ _ h => h) (Or.inl ⟨by rfl, ?_⟩) (by assumption) ?_
                  · intro w' hSw'
                    go_simp
                  simp only [Act.put, List.setIfInBounds_toArray, List.set_cons_zero, List.set_cons_succ]
                  refine takeH (i := 11) 37 (v := .bool true) rfl rfl (by kernel_rfl) (by kernel_rfl) (by kernel_rfl) (fun _ _ _ h => h) (Or.inl ⟨by rfl, ?_⟩) (by assumption) ?_
                  · intro w' hSw'
                    go_simp
                  simp only [Act.put, List.setIfInBounds_toArray, List.set_cons_zero, List.set_cons_succ]
                  refine takeH (i := 12) 38 (v := .bool true) rfl rfl (by kernel_rfl) (by kernel_rfl) (by kernel_rfl) (fun _ _ _ h => h) (Or.inl ⟨by rfl, ?_⟩) (by assumption) ?_
                  · intro w' hSw'
                    go_simp
                  simp only [Act.put, List.setIfInBounds_toArray, List.set_cons_zero, List.set_cons_succ]
                  refine takeH (i := 13) 39 (v := .slice (some ⟨b, off, none⟩) n c) rfl rfl (by kernel_rfl) (by kernel_rfl) (by kernel_rfl) (fun _ _ _ h => h) (Or.inl ⟨by rfl, ?_⟩) (by assumption) ?_
                  · intro w' hSw'
                    go_simp
                  simp only [Act.put, List.setIfInBounds_toArray, List.set_cons_zero, List.set_cons_succ]
                  refine takeH (i := 14) 40 (v := .int .i64 ((j + 1 : Nat) : Int)) rfl rfl (by kernel_rfl) (by kernel_rfl) (by kernel_rfl) (fun _ _ _ h => h) (Or.inl ⟨by rfl, ?_⟩) (by assumption) ?_
                  · intro w' hSw'
                    go_simp
                  simp only [Act.put, List.setIfInBounds_toArray, List.set_cons_zero, List.set_cons_succ]
                  refine takeH (i := 15) 41 (v := .int .i64 (j : Int)) rfl rfl (by kernel_rfl) (by kernel_rfl) (by kernel_rfl) (fun _ _ _ h => h) (Or.inl ⟨by rfl, ?_⟩) (by assumption) ?_
                  · intro w' hSw'
                    go_simp
                  simp only [Act.put, List.setIfInBounds_toArray, List.set_cons_zero, List.set_cons_succ]
                  refine takeH (i := 16) 42 (v := .pointer (some ⟨b, off + j * 5, none⟩)) rfl rfl (by kernel_rfl) (by kernel_rfl) (by kernel_rfl) (fun _ _ _ h => h) (Or.inl ⟨by rfl, ?_⟩) (by assumption) ?_
                  · intro w' hSw'
                    go_simp
                  simp only [Act.put, List.setIfInBounds_toArray, List.set_cons_zero, List.set_cons_succ]
                  refine takeH (i := 17) 43 (v := .agg #[.int .i64 xnum, .int .i64 xlevel, .int .i64 xcount, .slice xfp xfirst.length xfc, .slice xlp xlast.length xlc]) rfl rfl (by kernel_rfl) (by kernel_rfl) (by kernel_rfl) (fun _ _ _ h => h) (Or.inl ⟨by rfl, ?_⟩) (by assumption) ?_
                  · intro w' hSw'
                    obtain ⟨d0, d1, d2, d3, d4⟩ := CX.out w' (UP.out w' hSw')
                    go_simp
                  simp only [Act.put, List.setIfInBounds_toArray, List.set_cons_zero, List.set_cons_succ]
                  refine takeH (i := 18) 44 (v := .agg #[.int .i64 ynum, .int .i64 ylevel, .int .i64 ycount, .slice yfp yfirst.length yfc, .slice ylp ylast.length ylc]) rfl rfl (by kernel_rfl) (by kernel_rfl) (by kernel_rfl) (fun _ _ _ h => h) (Or.inl ⟨by rfl, ?_⟩) (by assumption) ?_
                  · intro w' hSw'
                    obtain ⟨d0, d1, d2, d3, d4⟩ := CF.out w' hSw'
                    go_simp
                  simp only [Act.put, List.setIfInBounds_toArray, List.set_cons_zero, List.set_cons_succ]
                  refine wpAnyH_ready (rs := [19]) (by kernel_rfl) (by simp) ?_
                  refine AllReadyH.cons rfl (fun K hK => ?_) AllReadyH.nil
                  go_simp
                  refine (ME.out _ (UP.out _ b7.out)).mono ?_
                  rintro e w8 ⟨rfl, hb8⟩
                  have b8 : Hid (Below W2.heap.size W2 w8) := b7.out.trans (hb8.mono b7.out.size)
                  clear hb8
                  go_wp2_with fail
                  refine hK.out _ _ (b8.out) (fun hHeld2 => ?_)
                  clear hK K
                  refine takeH (i := 20) 46 (v := .bool false) rfl rfl (by kernel_rfl) (by kernel_rfl) (by kernel_rfl) (fun _ _ _ h => h) (Or.inl ⟨by rfl, ?_⟩) (by assumption) ?_
                  · intro w' hSw'
                    go_simp
                  simp only [Act.put, List.setIfInBounds_toArray, List.set_cons_zero, List.set_cons_succ]
                  refine takeH (i := 21) 47 (v := .bool false) rfl rfl (by kernel_rfl) (by kernel_rfl) (by kernel_rfl) (fun _ _ _ h => h) (Or.inl ⟨by rfl, ?_⟩) (by assumption) ?_
                  · intro w' hSw'
                    go_simp
                  simp only [Act.put, List.setIfInBounds_toArray, List.set_cons_zero, List.set_cons_succ]
                  refine wpAnyH_done (by kernel_rfl) ?_ _
                  go_wp2
                  go_roundw
                  case rel => exact ⟨j + 1 + 1, by omega, by go_num, BW.out _ b8.out, fun i hi => by
                    rcases Nat.lt_or_ge i (j + 1) with h | h
                    · exact hI.out.2 i h
                    · obtain rfl : i = j + 1 := by omega
                      exact OKJ.out⟩
                  case measure => simp [intOf]; omega
            · have dn : decide (next ≤ ynum) = true := decide_eq_true (by omega)
              have hle : next ≤ ynum := by omega
              have ZF := NN.out hkn (decide_eq_false hlt)
              subst ZF
              clear NO YES NK NN
              go_wp2_with fail
              refine wp_region_held_drew (S := fun w' => Below W2.heap.size W2 w') (by kernel_rfl) ((Below.refl _ _).drew) (fun hHeld => ?_)
              refine takeH (i := 0) 26 (v := .agg #[.int .i64 ynum, .int .i64 ylevel, .int .i64 ycount, .slice yfp yfirst.length yfc, .slice ylp ylast.length ylc]) rfl rfl (by kernel_rfl) (by kernel_rfl) (by kernel_rfl) (fun _ _ _ h => h) (Or.inl ⟨by rfl, ?_⟩) (by assumption) ?_
              · intro w' hSw'
                obtain ⟨d0, d1, d2, d3, d4⟩ := CF.out w' hSw'
                go_simp
              simp only [Act.put, List.setIfInBounds_toArray, List.set_cons_zero, List.set_cons_succ]
              refine wpAnyH_ready (rs := [1]) (by kernel_rfl) (by simp) ?_
              refine AllReadyH.cons rfl (fun K hK => ?_) AllReadyH.nil
              go_simp
              refine (MB.out _ (UP.out _ (Below.refl _ _).drew)).mono ?_
              rintro e w7 ⟨rfl, hb7⟩
              have b7 : Hid (Below W2.heap.size W2 w7) := ((Below.refl _ _).drew).trans (hb7.mono (Nat.le_refl _))
              clear hb7
              go_wp2_with fail
              refine hK.out _ _ (b7.out) (fun hHeld1 => ?_)
              clear hK K
              refine takeH (i := 2) 28 (v := .bool false) rfl rfl (by kernel_rfl) (by kernel_rfl) (by kernel_rfl) (fun _ _ _ h => h) (Or.inl ⟨by rfl, ?_⟩) (by assumption) ?_
              · intro w' hSw'
                go_simp
              simp only [Act.put, List.setIfInBounds_toArray, List.set_cons_zero, List.set_cons_succ]
              refine takeH (i := 3) 29 (v := .bool false) rfl rfl (by kernel_rfl) (by kernel_rfl) (by kernel_rfl) (fun _ _ _ h => h) (Or.inl ⟨by rfl, ?_⟩) (by assumption) ?_
              · intro w' hSw'
                go_simp
              simp only [Act.put, List.setIfInBounds_toArray, List.set_cons_zero, List.set_cons_succ]
              refine takeH (i := 4) 30 (v := .pointer (some ⟨wr.heap.size, 0, none⟩)) rfl rfl (by kernel_rfl) (by kernel_rfl) (by kernel_rfl) (fun _ _ _ h => h) (Or.inl ⟨by rfl, ?_⟩) (by assumption) ?_
              · intro w' hSw'
                go_simp
              simp only [Act.put, List.setIfInBounds_toArray, List.set_cons_zero, List.set_cons_succ]
              refine takeH (i := 5) 31 (v := .int .i64 ynum) rfl rfl (by kernel_rfl) (by kernel_rfl) (by kernel_rfl) (fun _ _ _ h => h) (Or.inl ⟨by rfl, ?_⟩) (by assumption) ?_
              · intro w' hSw'
                obtain ⟨d0, d1, d2, d3, d4⟩ := CF.out w' hSw'
                go_simp
              simp only [Act.put, List.setIfInBounds_toArray, List.set_cons_zero, List.set_cons_succ]
              refine takeH (i := 6) 32 (v := .int .i64 next) rfl rfl (by kernel_rfl) (by kernel_rfl) (by kernel_rfl) (fun _ _ _ h => h) (Or.inl ⟨by rfl, ?_⟩) (by assumption) ?_
              · intro w' hSw'
                go_simp
              simp only [Act.put, List.setIfInBounds_toArray, List.set_cons_zero, List.set_cons_succ]
              refine takeH (i := 7) 33 (v := .bool true) rfl rfl (by kernel_rfl) (by kernel_rfl) (by kernel_rfl) (fun _ _ _ h => h) (Or.inl ⟨by rfl, ?_⟩) (by assumption) ?_
              · intro w' hSw'
                go_simp
              simp only [Act.put, List.setIfInBounds_toArray, List.set_cons_zero, List.set_cons_succ]
              refine takeH (i := 8) 34 (v := .bool true) rfl rfl (by kernel_rfl) (by kernel_rfl) (by kernel_rfl) (fun _ _ _ h => h) (Or.inl ⟨by rfl, ?_⟩) (by assumption) ?_
              · intro w' hSw'
                go_simp
              simp only [Act.put, List.setIfInBounds_toArray, List.set_cons_zero, List.set_cons_succ]
              refine takeH (i := 9) 35 (v := .bool true) rfl rfl (by kernel_rfl) (by kernel_rfl) (by kernel_rfl) (fun _ _ _ h => h) (Or.inl ⟨by rfl, ?_⟩) (by assumption) ?_
              · intro w' hSw'
                go_simp
              simp only [Act.put, List.setIfInBounds_toArray, List.set_cons_zero, List.set_cons_succ]
              refine takeH (i := 10) 36 (v := undef) rfl rfl (by kernel_rfl) (by kernel_rfl) (by kernel_rfl) (fun _ _ _ h => h) (Or.inr ⟨by rfl, rfl⟩) (by assumption) ?_
              simp only [Act.put, List.setIfInBounds_toArray, List.set_cons_zero, List.set_cons_succ]
              refine takeH (i := 11) 37 (v := undef) rfl rfl (by kernel_rfl) (by kernel_rfl) (by kernel_rfl) (fun _ _ _ h => h) (Or.inr ⟨by rfl, rfl⟩) (by assumption) ?_
              simp only [Act.put, List.setIfInBounds_toArray, List.set_cons_zero, List.set_cons_succ]
              refine takeH (i := 12) 38 (v := undef) rfl rfl (by kernel_rfl) (by kernel_rfl) (by kernel_rfl) (fun _ _ _ h => h) (Or.inr ⟨by rfl, rfl⟩) (by assumption) ?_
              simp only [Act.put, List.setIfInBounds_toArray, List.set_cons_zero, List.set_cons_succ]
              refine takeH (i := 13) 39 (v := undef) rfl rfl (by kernel_rfl) (by kernel_rfl) (by kernel_rfl) (fun _ _ _ h => h) (Or.inr ⟨by rfl, rfl⟩) (by assumption) ?_
              simp only [Act.put, List.setIfInBounds_toArray, List.set_cons_zero, List.set_cons_succ]
              refine takeH (i := 14) 40 (v := undef) rfl rfl (by kernel_rfl) (by kernel_rfl) (by kernel_rfl) (fun _ _ _ h => h) (Or.inr ⟨by rfl, rfl⟩) (by assumption) ?_
              simp only [Act.put, List.setIfInBounds_toArray, List.set_cons_zero, List.set_cons_succ]
              refine takeH (i := 15) 41 (v := undef) rfl rfl (by kernel_rfl) (by kernel_rfl) (by kernel_rfl) (fun _ _ _ h => h) (Or.inr ⟨by rfl, rfl⟩) (by assumption) ?_
              simp only [Act.put, List.setIfInBounds_toArray, List.set_cons_zero, List.set_cons_succ]
              refine takeH (i := 16) 42 (v := undef) rfl rfl (by kernel_rfl) (by kernel_rfl) (by kernel_rfl) (fun _ _ _ h => h) (Or.inr ⟨by rfl, rfl⟩) (by assumption) ?_
              simp only [Act.put, List.setIfInBounds_toArray, List.set_cons_zero, List.set_cons_succ]
              refine takeH (i := 17) 43 (v := undef) rfl rfl (by kernel_rfl) (by kernel_rfl) (by kernel_rfl) (fun _ _ _ h => h) (Or.inr ⟨by rfl, rfl⟩) (by assumption) ?_
              simp only [Act.put, List.setIfInBounds_toArray, List.set_cons_zero, List.set_cons_succ]
              refine takeH (i := 18) 44 (v := undef) rfl rfl (by kernel_rfl) (by kernel_rfl) (by kernel_rfl) (fun _ _ _ h => h) (Or.inr ⟨by rfl, rfl⟩) (by assumption) ?_
              simp only [Act.put, List.setIfInBounds_toArray, List.set_cons_zero, List.set_cons_succ]
              refine takeH (i := 19) 45 (v := undef) rfl rfl (by kernel_rfl) (by kernel_rfl) (by kernel_rfl) (fun _ _ _ h => h) (Or.inr ⟨by rfl, rfl⟩) (by assumption) ?_
              simp only [Act.put, List.setIfInBounds_toArray, List.set_cons_zero, List.set_cons_succ]
              refine takeH (i := 20) 46 (v := undef) rfl rfl (by kernel_rfl) (by kernel_rfl) (by kernel_rfl) (fun _ _ _ h => h) (Or.inr ⟨by rfl, rfl⟩) (by assumption) ?_
              simp only [Act.put, List.setIfInBounds_toArray, List.set_cons_zero, List.set_cons_succ]
              refine takeH (i := 21) 47 (v := .bool true) rfl rfl (by kernel_rfl) (by kernel_rfl) (by kernel_rfl) (fun _ _ _ h => h) (Or.inl ⟨by rfl, ?_⟩) (by assumption) ?_
              · intro w' hSw'
                go_simp
              simp only [Act.put, List.setIfInBounds_toArray, List.set_cons_zero, List.set_cons_succ]
              refine wpAnyH_done (by kernel_rfl) ?_ _
              go_wp2
              go_ret
              exact ⟨rfl, BW.out _ b7.out⟩
        · obtain rfl : k = n := by omega
          have ZT := YES.out hI.out.2
          subst ZT
          clear NO YES
          go_wp2
          go_ret
          exact ⟨rfl, HB.out⟩

/-- A version as it lies. -/
structure VV where
  p : Option Addr
  n : Nat
  c : Nat
  gen : Int
  next : Int
  log : Int
  seq : Int
  es : List MV
def VV.v (x : VV) : Ed.Ver := ⟨x.gen, x.next, x.log, x.seq, x.es.map (·.m)⟩
def VV.val (x : VV) : Value := .agg #[.int .i64 x.gen, .int .i64 x.next, .int .i64 x.log, .int .i64 x.seq, .slice x.p x.n x.c]
def VV.held (w : World) (x : VV) : Prop := RSrc metaKind w x.p x.n x.c x.es
theorem VV.held.below {w w' : World} {x : VV} (h : VV.held w x) (hb : Below w.heap.size w w') : VV.held w' x := RSrc.below metaKind_ok h hb
def chkN (v : Ed.Ver) : Int := if Ed.chk v then 0 else 1
set_option maxHeartbeats 4000000 in
set_option maxRecDepth 100000 in
theorem vcheck_any (x : VV) (w : World) (hx : VV.held w x) :
    Calls Tryz.prog 30 #[x.val] w fun e w' => e = .returned (.int .i64 (chkN x.v)) ∧ Below w.heap.size w w' := by
  obtain ⟨p, n, c, gen, next, log, seq, es⟩ := x
  unfold VV.val
  simp only
  obtain ⟨W1, hW1⟩ : ∃ Wn, w.alloc (.cells #[.int .i64 gen, .int .i64 next, .int .i64 log, .int .i64 seq, .slice p n c] 50) = Wn := ⟨_, rfl⟩
  have b1 : Hid (Below w.heap.size w W1) := by rw [← hW1]; exact (Below.refl _ _).alloc (Nat.le_refl _) _
  have g1 : Hid (W1.heap[w.heap.size]? = some (.cells #[.int .i64 gen, .int .i64 next, .int .i64 log, .int .i64 seq, .slice p n c] 50)) := by rw [← hW1]; exact heap_alloc_new w _
  have c0 : W1.cell? ⟨w.heap.size, 0, none⟩ = some (.int .i64 gen) := cell_of_row _ _ _ _ _ _ g1.out
  have c1 : W1.cell? ⟨w.heap.size, 1, none⟩ = some (.int .i64 next) := cell_of_row _ _ _ _ _ _ g1.out
  have c2 : W1.cell? ⟨w.heap.size, 2, none⟩ = some (.int .i64 log) := cell_of_row _ _ _ _ _ _ g1.out
  have c3 : W1.cell? ⟨w.heap.size, 3, none⟩ = some (.int .i64 seq) := cell_of_row _ _ _ _ _ _ g1.out
  have c4 : W1.cell? ⟨w.heap.size, 4, none⟩ = some (.slice p n c) := cell_of_row _ _ _ _ _ _ g1.out
  have N1 := keep (isNum_any gen W1)
  have N2 := keep (isNum_any next W1)
  have N3 := keep (isNum_any log W1)
  have N4 := keep (isNum_any seq W1)
  have NO := keep (notes_any p n c next es W1 (RSrc.below metaKind_ok hx b1.out))
  have EQ : Hid (chkN (VV.v ⟨p, n, c, gen, next, log, seq, es⟩) = if (Ed.isNum gen && Ed.isNum next && Ed.isNum log && Ed.isNum seq && Ed.notesOk (es.map (·.m)) next) then 0 else 1) := rfl
  rw [EQ.out]
  clear EQ hx
  generalize Ed.isNum gen = q1 at N1 ⊢
  generalize Ed.isNum next = q2 at N2 ⊢
  generalize Ed.isNum log = q3 at N3 ⊢
  generalize Ed.isNum seq = q4 at N4 ⊢
  generalize Ed.notesOk (es.map (·.m)) next = q5 at NO ⊢
  cases q1 with
  | false =>
    go_enter Tryz.func30, Tryz.ntmps30
    go_wp2_with fail
    refine N1.out.mono ?_
    rintro e w1 ⟨rfl, rfl⟩
    go_wp2
    go_ret
    exact ⟨rfl, b1.out⟩
  | true =>
    cases q2 with
    | false =>
      go_enter Tryz.func30, Tryz.ntmps30
      go_wp2_with fail
      refine N1.out.mono ?_
      rintro e w1 ⟨rfl, rfl⟩
      go_wp2_with fail
      refine N2.out.mono ?_
      rintro e w1 ⟨rfl, rfl⟩
      go_wp2
      go_ret
      exact ⟨rfl, b1.out⟩
    | true =>
      cases q3 with
      | false =>
        go_enter Tryz.func30, Tryz.ntmps30
        go_wp2_with fail
        refine N1.out.mono ?_
        rintro e w1 ⟨rfl, rfl⟩
        go_wp2_with fail
        refine N2.out.mono ?_
        rintro e w1 ⟨rfl, rfl⟩
        go_wp2_with fail
        refine N3.out.mono ?_
        rintro e w1 ⟨rfl, rfl⟩
        go_wp2
        go_ret
        exact ⟨rfl, b1.out⟩
      | true =>
        cases q4 with
        | false =>
          go_enter Tryz.func30, Tryz.ntmps30
          go_wp2_with fail
          refine N1.out.mono ?_
          rintro e w1 ⟨rfl, rfl⟩
          go_wp2_with fail
          refine N2.out.mono ?_
          rintro e w1 ⟨rfl, rfl⟩
          go_wp2_with fail
          refine N3.out.mono ?_
          rintro e w1 ⟨rfl, rfl⟩
          go_wp2_with fail
          refine N4.out.mono ?_
          rintro e w1 ⟨rfl, rfl⟩
          go_wp2
          go_ret
          exact ⟨rfl, b1.out⟩
        | true =>
          cases q5 with
          | false =>
            go_enter Tryz.func30, Tryz.ntmps30
            go_wp2_with fail
            refine N1.out.mono ?_
            rintro e w1 ⟨rfl, rfl⟩
            go_wp2_with fail
            refine N2.out.mono ?_
            rintro e w1 ⟨rfl, rfl⟩
            go_wp2_with fail
            refine N3.out.mono ?_
            rintro e w1 ⟨rfl, rfl⟩
            go_wp2_with fail
            refine N4.out.mono ?_
            rintro e w1 ⟨rfl, rfl⟩
            go_wp2_with fail
            refine NO.out.mono ?_
            rintro e w2 ⟨rfl, hb⟩
            have B2 := keep (b1.out.trans (hb.mono b1.out.size))
            clear hb
            go_wp2
            go_ret
            exact ⟨rfl, B2.out⟩
          | true =>
            go_enter Tryz.func30, Tryz.ntmps30
            go_wp2_with fail
            refine N1.out.mono ?_
            rintro e w1 ⟨rfl, rfl⟩
            go_wp2_with fail
            refine N2.out.mono ?_
            rintro e w1 ⟨rfl, rfl⟩
            go_wp2_with fail
            refine N3.out.mono ?_
            rintro e w1 ⟨rfl, rfl⟩
            go_wp2_with fail
            refine N4.out.mono ?_
            rintro e w1 ⟨rfl, rfl⟩
            go_wp2_with fail
            refine NO.out.mono ?_
            rintro e w2 ⟨rfl, hb⟩
            have B2 := keep (b1.out.trans (hb.mono b1.out.size))
            clear hb
            go_wp2
            go_ret
            exact ⟨rfl, B2.out⟩
end Go.Proofs.YthnebhddakfadaaGreatDoor
