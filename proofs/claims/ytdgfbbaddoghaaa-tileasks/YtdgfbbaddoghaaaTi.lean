/- The walks of the law's rows, of the document's SameRow and Same where both are alike. -/
import Derived.Test.YtdgfbbaddoghaaaTg
namespace Go.Proofs.Ytdgfbbaddoghaaa
open Go.RowKit
open Mt (Pos)

set_option maxHeartbeats 400000 in
set_option maxRecDepth 100000 in
theorem rsamerow_yes (ao : Option Addr) (n c : Nat) (ps : List Pos) (ao2 : Option Addr) (c2 : Nat) (w : World) (hs : RSrc posKind w ao n c ps) (hs2 : RSrc posKind w ao2 n c2 ps) (hn : n ≤ 1000) :
    Calls Try.prog 8 #[.slice ao n c, .slice ao2 n c2] w fun e w' => e = .returned (.bool true) ∧ Below w.heap.size w w' := by
  have HS := keep hs
  have HS2 := keep hs2
  have HN := keep hs.len
  clear hs hs2
  go_enter Try.func8, Try.ntmps8
  go_wp2
  go_loopw [5] (fun i wr => ∃ k : Nat, k ≤ n ∧ i = .int .i64 (k : Int) ∧ Hid (Below w.heap.size w wr)) (fun i _ => n - (intOf i).toNat)
  case atStart => exact ⟨0, Nat.zero_le _, rfl, Below.refl _ _⟩
  case round =>
    obtain ⟨k, hk, rfl, hI⟩ := hrel
    by_cases hkn : k < n
    · obtain ⟨b, off, rfl, _, hcell⟩ := pos_at HS.out (by omega)
      obtain ⟨b2, off2, rfl, _, hcell2⟩ := pos_at HS2.out (by omega)
      obtain ⟨s, hsk⟩ : ∃ s, ps[k]? = some s := ⟨ps[k]'(by rw [HN.out]; exact hkn), List.getElem?_eq_getElem _⟩
      obtain ⟨ck0, ck1⟩ := hcell k s hsk
      obtain ⟨dk0, dk1⟩ := hcell2 k s hsk
      have ck0 := below_cell hI.out ck0
      have ck1 := below_cell hI.out ck1
      have dk0 := below_cell hI.out dk0
      have dk1 := below_cell hI.out dk1
      obtain ⟨sl, sx⟩ := s
      simp only at ck0 ck1 dk0 dk1
      have k0 : (0 : Int) ≤ (k : Int) := by omega
      have k1 : (k : Int) < (n : Int) := by omega
      clear hcell hcell2 hsk
      go_wp2_with fail
      go_region
      go_wp2
      go_roundw
      case rel => exact ⟨k + 1, by omega, by go_num, by repeat (first | exact hI.out | apply Below.drew)⟩
      case measure => simp [intOf]; omega
    · have k1 : ¬ (k : Int) < (n : Int) := by omega
      go_wp2
      go_ret
      exact ⟨rfl, hI.out⟩
theorem infoRow : (Try.prog.info? 27).map (fun i => (i.zero, i.size, i.bytes)) = some (some (.slice none 0 0), 1, 24) := by kernel_rfl
set_option maxHeartbeats 1000000 in
set_option maxRecDepth 100000 in
theorem rows_any (ao : Option Addr) (n c : Nat) (xs : List PV) (w : World) (hs : RSrc (rowKind 45) w ao n c xs) (hn : n ≤ 100) (hl : ∀ x ∈ xs, x.ps.length ≤ 41) :
    Calls Try.prog 17 #[.slice ao n c] w (RowsR 48 27 w (xs.map (·.ps))) := by
  obtain ⟨i0, hi0, hz0, hz1, hz2⟩ := info_partsS infoRow
  have HS := keep hs
  have HSL := keep hs.len
  have HL := keep hl
  obtain ⟨P, hP⟩ : ∃ P, xs.map (·.ps) = P := ⟨_, rfl⟩
  rw [hP]
  have HP := keep hP
  clear hs hl hP
  go_enter Try.func17, Try.ntmps17
  go_wp2
  go_loopw [3, 4] (fun v i wr => ∃ k : Nat, k ≤ n ∧ i = .int .i64 (k : Int) ∧ Hid (RowsV 48 27 wr w.heap.size v ((xs.take k).map (·.ps)) ∧ Below w.heap.size w wr)) (fun _ i _ => n - (intOf i).toNat)
  case atStart => exact ⟨0, Nat.zero_le _, rfl, RowsV.nil, Below.refl _ _⟩
  case round =>
    obtain ⟨k, hk, rfl, hI⟩ := hrel
    have R1 := keep hI.out.1
    have B1 := keep hI.out.2
    clear hI
    rcases Nat.lt_or_ge k n with hlt | hge
    · obtain ⟨b, off, rfl, hbw, hcell⟩ := rows_at (HS.out.below (rowKind_ok _) B1.out) (by omega)
      obtain ⟨x, hx⟩ : ∃ x, xs[k]? = some x := ⟨xs[k]'(by rw [HSL.out]; exact hlt), List.getElem?_eq_getElem _⟩
      obtain ⟨hc0, hrs⟩ := hcell k x hx
      have NXT : Hid ((xs.take (k + 1)).map (·.ps) = (xs.take k).map (·.ps) ++ [x.ps]) := by show _ = _; rw [List.take_add_one, hx, List.map_append]; rfl
      have RW := keep (row_any x.p x.ps.length x.c x.ps wr hrs (by have := HL.out x (List.mem_of_getElem? hx); omega))
      have PL : Hid (((xs.take k).map (·.ps)).length + 1 ≤ 1000) := by show _ ≤ _; rw [List.length_map, List.length_take]; omega
      have j0 : (0 : Int) ≤ (k : Int) := by omega
      have j1 : (k : Int) < (n : Int) := by omega
      obtain ⟨xp, xc, C⟩ := x
      obtain ⟨Q, hQ⟩ : ∃ Q, (xs.take k).map (·.ps) = Q := ⟨_, rfl⟩
      rw [hQ] at R1 NXT PL
      simp only at hc0 RW NXT
      obtain ⟨p2, c2, _, e5, _, _, _⟩ := R1.out.src
      subst e5
      clear hcell hx hQ hrs hbw
      go_wp2_with fail
      refine RW.out.mono ?_
      rintro e w3 ⟨v3, rfl, ho3, hb3⟩
      obtain ⟨p3, c3, rfl⟩ := own_is ho3
      have O3 := keep (PosR.held ho3)
      have B3 := keep hb3
      clear ho3 hb3 RW hc0
      have b13 := keep (B1.out.trans (B3.out.mono B1.out.size))
      have c4 : Hid ((w3.alloc (.cells #[.slice p3 C.length c3] 27)).cell? (Addr.add ⟨w3.heap.size, 0, none⟩ 0) = some (.slice p3 C.length c3)) := cell_of_row _ _ _ _ _ _ (heap_alloc_new w3 _)
      go_wp2_with (at_builtin; go_loud (refine wpList_append_row rfl _ _ 37 48 27 (by decide) rfl w.heap.size i0 Try.underlying37 hi0 hz0 hz1 hz2 w3 _ Q rfl (R1.out.next B3.out) ⟨p3, c3, C⟩ O3.out ((Below.refl _ _).alloc (Nat.le_refl _) _) _ rfl c4.out PL.out (le_alloc b13.out.size _) ?_); intro v7 w7 hr7 hb7; have R7 := keep hr7; have B7 := keep hb7; clear hr7 hb7)
      have b17 := keep ((b13.out.alloc b13.out.size (.cells #[.slice p3 C.length c3] 27)).trans B7.out)
      go_roundw
      case rel => exact ⟨k + 1, by omega, by first | rfl | go_num, by rw [NXT.out]; exact R7.out, b17.out⟩
      case measure => simp [intOf]; omega
    · obtain rfl : k = n := by omega
      have E : Hid ((xs.take k).map (·.ps) = P) := by show _ = _; rw [List.take_of_length_le (by have := HSL.out; omega)]; exact HP.out
      rw [E.out] at R1
      have R7 := keep R1.out
      obtain ⟨p7, c7, _, e7, _, _, _⟩ := R1.out.src
      subst e7
      clear R1
      go_wp2
      go_ret
      exact ⟨_, rfl, R7.out, B1.out⟩
set_option maxHeartbeats 1000000 in
set_option maxRecDepth 100000 in
theorem rsame_yes (ao : Option Addr) (n c : Nat) (xs : List PV) (ao2 : Option Addr) (c2 : Nat) (ys : List PV) (w : World) (hs : RSrc (rowKind 48) w ao n c xs) (hs2 : RSrc (rowKind 48) w ao2 n c2 ys) (he : xs.map (·.ps) = ys.map (·.ps)) (hn : n ≤ 100) (hl : ∀ x ∈ xs, x.ps.length ≤ 41) :
    Calls Try.prog 16 #[.slice ao n c, .slice ao2 n c2] w fun e w' => e = .returned (.bool true) ∧ Below w.heap.size w w' := by
  have HS := keep hs
  have HS2 := keep hs2
  have HN := keep hs.len
  have HN2 := keep hs2.len
  have HE := keep he
  have HL := keep hl
  clear hs hs2 he hl
  go_enter Try.func16, Try.ntmps16
  go_wp2
  go_loopw [5] (fun i wr => ∃ k : Nat, k ≤ n ∧ i = .int .i64 (k : Int) ∧ Hid (Below w.heap.size w wr)) (fun i _ => n - (intOf i).toNat)
  case atStart => exact ⟨0, Nat.zero_le _, rfl, Below.refl _ _⟩
  case round =>
    obtain ⟨k, hk, rfl, hI⟩ := hrel
    by_cases hkn : k < n
    · obtain ⟨b, off, rfl, _, hcell⟩ := rows_at HS.out (by omega)
      obtain ⟨b2, off2, rfl, _, hcell2⟩ := rows_at HS2.out (by omega)
      obtain ⟨x, hx⟩ : ∃ s, xs[k]? = some s := ⟨xs[k]'(by rw [HN.out]; exact hkn), List.getElem?_eq_getElem _⟩
      obtain ⟨y, hy⟩ : ∃ s, ys[k]? = some s := ⟨ys[k]'(by rw [HN2.out]; exact hkn), List.getElem?_eq_getElem _⟩
      have hxy : x.ps = y.ps := by
        have := congrArg (fun l => l[k]?) HE.out
        simp only [List.getElem?_map, hx, hy, Option.map_some, Option.some.injEq] at this
        exact this
      obtain ⟨ck, rk⟩ := hcell k x hx
      obtain ⟨dk, tk⟩ := hcell2 k y hy
      have hxl := HL.out x (List.mem_of_getElem? hx)
      obtain ⟨xp, xc, C⟩ := x
      obtain ⟨yp, yc, D⟩ := y
      simp only at hxy ck rk dk tk hxl
      subst hxy
      have CC : Hid (∀ w', Below w.heap.size w w' → w'.cell? ⟨b, off + k, none⟩ = some (.slice xp C.length xc) ∧ w'.cell? ⟨b2, off2 + k, none⟩ = some (.slice yp C.length yc)) := fun w' hb => ⟨below_cell hb ck, below_cell hb dk⟩
      have SR : Hid (∀ w', Below w.heap.size w w' → Calls Try.prog 8 #[.slice xp C.length xc, .slice yp C.length yc] w' fun e w'' => e = .returned (.bool true) ∧ Below w'.heap.size w' w'') := fun w' hb => rsamerow_yes xp C.length xc C yp yc w' (rk.below posKind_ok hb) (tk.below posKind_ok hb) (by omega)
      have k0 : (0 : Int) ≤ (k : Int) := by omega
      have k1 : (k : Int) < (n : Int) := by omega
      clear hcell hcell2 hx hy ck rk dk tk hxl
      go_wp2_with fail
      refine wp_region_held_drew (S := fun w' => Below w.heap.size w w') (by kernel_rfl) (hI.out.drew) (fun hHeld => ?_)
      refine takeH (i := 0) 17 (v := .slice (some ⟨b, off, none⟩) n c) rfl rfl (by kernel_rfl) (by kernel_rfl) (by kernel_rfl) (fun _ _ _ h => h) (Or.inl ⟨by rfl, ?_⟩) (by assumption) ?_
      · intro w' hSw'
        go_simp
      simp only [Act.put, List.setIfInBounds_toArray, List.set_cons_zero, List.set_cons_succ]
      refine takeH (i := 1) 18 (v := .int .i64 (k : Int)) rfl rfl (by kernel_rfl) (by kernel_rfl) (by kernel_rfl) (fun _ _ _ h => h) (Or.inl ⟨by rfl, ?_⟩) (by assumption) ?_
      · intro w' hSw'
        go_simp
      simp only [Act.put, List.setIfInBounds_toArray, List.set_cons_zero, List.set_cons_succ]
      refine takeH (i := 2) 19 (v := .pointer (some ⟨b, off + k, none⟩)) rfl rfl (by kernel_rfl) (by kernel_rfl) (by kernel_rfl) (fun _ _ _ h => h) (Or.inl ⟨by rfl, ?_⟩) (by assumption) ?_
      · intro w' hSw'
        go_simp
      simp only [Act.put, List.setIfInBounds_toArray, List.set_cons_zero, List.set_cons_succ]
      refine takeH (i := 3) 20 (v := .slice xp C.length xc) rfl rfl (by kernel_rfl) (by kernel_rfl) (by kernel_rfl) (fun _ _ _ h => h) (Or.inl ⟨by rfl, ?_⟩) (by assumption) ?_
      · intro w' hSw'
        obtain ⟨y0, y1⟩ := CC.out w' hSw'
        go_simp
      simp only [Act.put, List.setIfInBounds_toArray, List.set_cons_zero, List.set_cons_succ]
      refine takeH (i := 4) 21 (v := .slice (some ⟨b2, off2, none⟩) n c2) rfl rfl (by kernel_rfl) (by kernel_rfl) (by kernel_rfl) (fun _ _ _ h => h) (Or.inl ⟨by rfl, ?_⟩) (by assumption) ?_
      · intro w' hSw'
        go_simp
      simp only [Act.put, List.setIfInBounds_toArray, List.set_cons_zero, List.set_cons_succ]
      refine takeH (i := 5) 0x16 (v := .int .i64 (k : Int)) rfl rfl (by kernel_rfl) (by kernel_rfl) (by kernel_rfl) (fun _ _ _ h => h) (Or.inl ⟨by rfl, ?_⟩) (by assumption) ?_
      · intro w' hSw'
        go_simp
      simp only [Act.put, List.setIfInBounds_toArray, List.set_cons_zero, List.set_cons_succ]
      refine takeH (i := 6) 23 (v := .pointer (some ⟨b2, off2 + k, none⟩)) rfl rfl (by kernel_rfl) (by kernel_rfl) (by kernel_rfl) (fun _ _ _ h => h) (Or.inl ⟨by rfl, ?_⟩) (by assumption) ?_
      · intro w' hSw'
        go_simp
      simp only [Act.put, List.setIfInBounds_toArray, List.set_cons_zero, List.set_cons_succ]
      refine takeH (i := 7) 24 (v := .slice yp C.length yc) rfl rfl (by kernel_rfl) (by kernel_rfl) (by kernel_rfl) (fun _ _ _ h => h) (Or.inl ⟨by rfl, ?_⟩) (by assumption) ?_
      · intro w' hSw'
        obtain ⟨y0, y1⟩ := CC.out w' hSw'
        go_simp
      simp only [Act.put, List.setIfInBounds_toArray, List.set_cons_zero, List.set_cons_succ]
      refine wpAnyH_ready (rs := [8]) (by kernel_rfl) (by simp) ?_
      refine AllReadyH.cons rfl (fun K hK => ?_) AllReadyH.nil
      go_simp
      refine (SR.out _ (by assumption)).mono ?_
      rintro e w2 ⟨rfl, hb2⟩
      have b2w := keep (Below.trans (by assumption) (hb2.mono (Below.size (by assumption))))
      clear hb2
      go_wp2_with fail
      refine hK.out _ _ (b2w.out) (fun hHeld1 => ?_)
      clear hK K
      refine takeH (i := 9) 26 (v := .bool false) rfl rfl (by kernel_rfl) (by kernel_rfl) (by kernel_rfl) (fun _ _ _ h => h) (Or.inl ⟨by rfl, ?_⟩) (by assumption) ?_
      · intro w' hSw'
        go_simp
      simp only [Act.put, List.setIfInBounds_toArray, List.set_cons_zero, List.set_cons_succ]
      refine wpAnyH_done (by kernel_rfl) ?_ _
      go_wp2
      go_roundw
      case rel => exact ⟨k + 1, by omega, by go_num, b2w.out⟩
      case measure => simp [intOf]; omega
    · have k1 : ¬ (k : Int) < (n : Int) := by omega
      go_wp2
      go_ret
      exact ⟨rfl, hI.out⟩
end Go.Proofs.Ytdgfbbaddoghaaa
