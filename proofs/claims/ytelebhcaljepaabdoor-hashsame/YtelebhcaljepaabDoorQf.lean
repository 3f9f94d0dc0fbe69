/- The walk of HashSame. -/
import Derived.Test.YtelebhcaljepaabDoorQq
import Derived.Test.YtelebhcaljepaabDoorPp
namespace Go.Proofs.YtelebhcaljepaabDoor
open Go.RowKit

theorem own_some {w : World} {B t n : Nat} {v : Value} {xs : List Value} (h : w.ownsRow B t 1 v n xs) (hn : 0 < n) : ∃ g cap, v = .slice (some ⟨g, 0, none⟩) n cap := by
  rcases h.2 with ⟨_, h0⟩ | ⟨g, cap, _, e, _⟩
  · omega
  · exact ⟨g, cap, e⟩
/-- One text of a row of the call's own is turned. -/
theorem own_setS {w : World} {B n cap g i : Nat} {l : List (List UInt8)} (h : w.ownsRow B 9 1 (.slice (some ⟨g, 0, none⟩) n cap) n (rv strKind l)) (hi : i < n) (x : List UInt8) :
    (∃ v, w.cell? ⟨g, i, none⟩ = some v) ∧ w.frozen? ⟨g, i, none⟩ = false ∧ (w.setCell ⟨g, i, none⟩ (.string ⟨x.toArray⟩)).ownsRow B 9 1 (.slice (some ⟨g, 0, none⟩) n cap) n (rv strKind (l.set i x)) := by
  have hrv : ∀ ys : List (List UInt8), rv strKind ys = ys.map fun s => Value.string ⟨s.toArray⟩ := fun ys => by
    induction ys with
    | nil => rfl
    | cons a t ih =>
      have h1 : rv strKind (a :: t) = rv strKind [a] ++ rv strKind t := rv_append [a] t
      rw [h1, ih]
      rfl
  rw [hrv] at h
  rw [hrv]
  rcases h.2 with ⟨h0, _⟩ | ⟨g', cap', cur, e, h1, h2, h3, h4, h5, h6⟩
  · cases h0
  · cases e
    have hl := h.1
    rw [List.length_map] at hl
    have hcl : n ≤ cur.size := by
      have := congrArg List.length h6
      rw [List.length_map, List.length_take] at this
      simp at this
      omega
    refine ⟨⟨cur[i]'(by omega), by rw [cell_of_row _ _ _ _ _ _ h2]; exact Array.getElem?_eq_getElem (by omega)⟩, by simp [World.frozen?, h2], by rw [List.length_map, List.length_set]; exact hl, .inr ⟨g, cap, cur.setIfInBounds i (.string ⟨x.toArray⟩), rfl, h1, put_row h2 i _, h3, h4, by rw [Array.size_setIfInBounds]; exact h5, ?_⟩⟩
    rw [Array.toList_setIfInBounds, List.take_set, h6, List.map_set]
set_option maxHeartbeats 4000000 in
set_option maxRecDepth 100000 in
theorem hashSame_walk (ao : Option Addr) (m c : Nat) (es : List ByteE) (i : Int) (oo : Option Addr) (om oc : Nat) (ol : List UInt8) (w : World) (hL : Ld w) (hs : RSrc byteKind w ao m c es) (hm : m ≤ 5864062014634) (hg : ∀ e ∈ es, e.bytes.length ≤ 140737488351232) (ho : Src w oo om oc ol) (hom : om ≤ 140737488351232) :
    Calls Tryd.prog 6 #[.slice ao m c, .int .i64 i, .slice oo om oc] w fun e w' => e = .returned (.bool true) ∧ Below w.heap.size w w' := by
  have HLd := keep hL
  have HO := keep ho
  have HS := keep hs
  have HG := keep hg
  have HSL := keep hs.len
  have AW := keep (awake_any w hL)
  have LV : Hid (∀ w', Below w.heap.size w w' → Calls Tryd.prog 10 #[.slice ao m c] w' (RowR w' (leavesL es))) := fun w' h => leaves_any ao m c es w' (hs.below byteKind_ok h) (fun e he => by have := HG.out e he; omega) (by omega)
  have hlen := leaves_len es
  have H32 := keep (leaves_32 es)
  have HSH := keep (leaves_short es)
  have LAT := keep (fun k hk => leaves_at (es := es) (k := k) hk)
  rw [hs.len] at hlen
  obtain ⟨h, hh⟩ : ∃ h, leavesL es = h := ⟨_, rfl⟩
  rw [hh] at LV H32 HSH LAT hlen
  obtain ⟨H, hH⟩ : ∃ H, h.length = H := ⟨_, rfl⟩
  have HHL := keep hH
  rw [hH] at hlen LAT
  clear hL hs hg hh ho
  by_cases h0 : H = 0
  · go_enter Tryd.func6, Tryd.ntmps6
    go_wp2_with fail
    refine AW.out.mono ?_
    rintro e w1 ⟨rfl, hb1⟩
    have B1 := keep hb1
    clear hb1 AW
    go_wp2_with fail
    refine (LV.out w1 B1.out).mono ?_
    rintro e w2 ⟨v2, rfl, ho2, hb2⟩
    have B2 := keep (B1.out.trans (hb2.mono B1.out.size))
    rw [hH, h0] at ho2
    obtain ⟨a2, c2, rfl⟩ := own_is ho2
    clear ho2 hb2 LV h0 hH
    go_wp2
    go_ret
    exact ⟨rfl, B2.out⟩
  · obtain ⟨q, k, hq, hq1, hkm, hk⟩ := place_of i H (by omega)
    obtain ⟨x, _, hx2⟩ := LAT.out k hk
    clear LAT
    have n0 : ((H : Int) == 0) = false := by simp; omega
    have n1 : ¬ (H : Int) = 0 := by omega
    have n2 : (H : Int) ≠ 0 := n1
    go_enter Tryd.func6, Tryd.ntmps6
    go_wp2_with fail
    refine AW.out.mono ?_
    rintro e w1 ⟨rfl, hb1⟩
    have B1 := keep hb1
    clear hb1 AW
    go_wp2_with fail
    refine (LV.out w1 B1.out).mono ?_
    rintro e w2 ⟨v2, rfl, ho2, hb2⟩
    have B2 := keep (B1.out.trans (hb2.mono B1.out.size))
    rw [hH] at ho2
    obtain ⟨a2, c2, rfl, hr2, _⟩ := RSrc.own strKind_ok ho2 (fun _ _ => trivial)
    have R2 := keep hr2
    clear ho2 hb2 LV hr2 hH
    obtain ⟨hb, hoff, ha2, hbw, hcell⟩ := strs_at R2.out (by omega)
    subst ha2
    obtain ⟨X, hX⟩ : ∃ X, leafL x.bytes = X := ⟨_, rfl⟩
    obtain ⟨Y, hY⟩ : ∃ Y, leafL ol = Y := ⟨_, rfl⟩
    rw [hX] at hx2
    have CX := keep (hcell k X hx2)
    have G32 : Hid (all32 (h.set k Y)) := fun e he => by
      rcases List.mem_or_eq_of_mem_set he with h1 | h1
      · exact H32.out e h1
      · rw [h1, ← hY]; exact leafL_len _
    have GSH : Hid (∀ e ∈ h.set k Y, e.length ≤ 1099511627776) := fun e he => by rw [G32.out e he]; decide
    have GL : Hid ((h.set k Y).length = H) := by show _ = _; rw [List.length_set, HHL.out]
    have gk : (h.set k Y)[k]? = some Y := by rw [List.getElem?_set_self (by rw [HHL.out]; exact hk)]
    have PC1 := keep (path_check H32.out hx2 (by rw [HHL.out]; omega))
    have PC2 := keep (path_check G32.out gk (by rw [GL.out]; omega))
    rw [HHL.out] at PC1
    rw [GL.out] at PC2
    have SND : Hid (rootL (h.set k Y) = rootL h → ¬ X = Y → (collL (k : Int) (H : Int) X (pathL h k) Y (pathL (h.set k Y) k)).isSome = true) := fun e1 e2 => by
      have h2 := PC2.out
      rw [e1] at h2
      exact sound PC1.out h2 e2
    have LF : Hid (∀ w', Below w.heap.size w w' → Calls Tryd.prog 15 #[.slice oo om oc] w' fun e w'' => e = .returned (.string ⟨Y.toArray⟩) ∧ Below w'.heap.size w' w'') := fun w' hb => by rw [← hY]; exact leaf_any oo om oc ol w' (by omega) (HLd.out.below hb) (HO.out.below hb)
    have R2L := keep hbw
    obtain ⟨G, hG⟩ : ∃ G, h.set k Y = G := ⟨_, rfl⟩
    have HG2 := keep hG
    rw [hG] at GSH GL SND
    obtain ⟨W3, hW3⟩ : ∃ Wn, w2.alloc (.cells #[] 9) = Wn := ⟨_, rfl⟩
    have b3 : Hid (Below w2.heap.size w2 W3) := by rw [← hW3]; exact (Below.refl _ _).alloc (Nat.le_refl _) _
    have O3 : Hid (W3.ownsRow w2.heap.size 9 1 (.slice (some ⟨w2.heap.size, 0, none⟩) 0 0) 0 (rv strKind [])) := by rw [← hW3]; exact ⟨rfl, .inr ⟨_, _, _, rfl, Nat.le_refl _, heap_alloc_new w2 _, Nat.le_refl _, by decide, by simp, by simp [rv]⟩⟩
    have R3 := keep (R2.out.below strKind_ok b3.out)
    obtain ⟨i0, hi0, hz0, hz1, hz2⟩ := info_partsS infoS
    have k0 : (0 : Int) ≤ (k : Int) := by omega
    have k1 : (k : Int) < (H : Int) := by omega
    clear hcell hX hY hx2 gk PC1 PC2 hG hbw
    go_wp2_with (first | fail | (at_builtin; go_loud (refine wpList_append_recsS rfl _ _ 22 rfl w2.heap.size i0 _ Tryd.underlying22 hi0 hz0 hz1 hz2 rfl (.slice (some ⟨w2.heap.size, 0, none⟩) 0 0) 0 [] rfl O3.out (some ⟨hb, hoff, none⟩) H c2 h rfl R3.out (by omega) b3.out.size ?_); intro v4 w4 ho4 hg4; have O4 := keep ho4; have b4 := keep (b3.out.grown hg4 b3.out.size (fun j hj => (O3.out.lt j hj).1)); clear ho4 hg4; simp only [Nat.zero_add, List.nil_append] at O4; obtain ⟨gb, cap4, hv4⟩ := own_some O4.out (by omega); subst hv4))
    refine (LF.out w4 (B2.out.trans (b4.out.mono B2.out.size))).mono ?_
    rintro e w5 ⟨rfl, hb5⟩
    have b5 := keep (b4.out.trans (hb5.mono b4.out.size))
    have O5 := keep (own_next O4.out hb5)
    obtain ⟨⟨u5, q5⟩, f5, O6⟩ := own_setS O5.out hk Y
    have OG := keep O6
    have GE : Hid (w2.heap.size ≤ gb) := (O5.out.lt gb rfl).1
    have b6 : Hid (Below w2.heap.size w2 (w5.setCell ⟨gb, k, none⟩ (.string ⟨Y.toArray⟩))) := b5.out.setCell (p := ⟨gb, k, none⟩) GE.out _
    obtain ⟨w6, hw6⟩ : ∃ w6, w5.setCell ⟨gb, k, none⟩ (.string ⟨Y.toArray⟩) = w6 := ⟨_, rfl⟩
    rw [hw6] at OG b6
    rw [HG2.out] at OG
    clear hb5 O6 O4 LF hW3
    go_wp2_with fail
    clear hw6 q5 f5
    obtain ⟨ga, gc, hga, RG, _⟩ := RSrc.own strKind_ok OG.out (fun _ _ => trivial)
    obtain ⟨hga1, _, hga3⟩ := Value.slice.inj hga
    subst hga1
    subst hga3
    have GS := keep RG
    have CG : Hid (w6.cell? ⟨gb, k, none⟩ = some (.string ⟨Y.toArray⟩)) := by
      obtain ⟨b9, o9, e9, _, hc9⟩ := strs_at RG (by omega)
      cases e9
      have := hc9 k Y (by rw [← HG2.out]; exact List.getElem?_set_self (by rw [HHL.out]; exact hk))
      rwa [Nat.zero_add] at this
    have HS6 := keep (R2.out.below strKind_ok b6.out)
    have CX6 := keep (below_cell b6.out CX.out)
    have B6 := keep (B2.out.trans (b6.out.mono B2.out.size))
    have LD6 : Hid (∀ w', Below w6.heap.size w6 w' → Ld w') := fun w' hb => HLd.out.below (B6.out.trans (hb.mono B6.out.size))
    clear RG hga OG CX R2
    by_cases hXY : Y = X
    · subst hXY
      refine wp_region_held_drew (S := fun w' => Below w6.heap.size w6 w') (by kernel_rfl) ((Below.refl w6.heap.size w6).drew) (fun hZ => ?_)
      refine takeH (i := 0) 38 (v := .slice (some ⟨gb, 0, none⟩) H cap4) rfl rfl (by kernel_rfl) (by kernel_rfl) (by kernel_rfl) (fun _ _ _ h => h) (Or.inl ⟨by rfl, ?_⟩) (by assumption) ?_
      · intro w' hSw'
        go_simp
      simp only [Act.put, List.setIfInBounds_toArray, List.set_cons_zero, List.set_cons_succ]
      refine takeH (i := 1) 39 (v := .int .i64 (k : Int)) rfl rfl (by kernel_rfl) (by kernel_rfl) (by kernel_rfl) (fun _ _ _ h => h) (Or.inl ⟨by rfl, ?_⟩) (by assumption) ?_
      · intro w' hSw'
        go_simp
      simp only [Act.put, List.setIfInBounds_toArray, List.set_cons_zero, List.set_cons_succ]
      refine takeH (i := 2) 40 (v := .pointer (some ⟨gb, k, none⟩)) rfl rfl (by kernel_rfl) (by kernel_rfl) (by kernel_rfl) (fun _ _ _ h => h) (Or.inl ⟨by rfl, ?_⟩) (by assumption) ?_
      · intro w' hSw'
        go_simp
      simp only [Act.put, List.setIfInBounds_toArray, List.set_cons_zero, List.set_cons_succ]
      refine takeH (i := 3) 41 (v := .string ⟨Y.toArray⟩) rfl rfl (by kernel_rfl) (by kernel_rfl) (by kernel_rfl) (fun _ _ _ h => h) (Or.inl ⟨by rfl, ?_⟩) (by assumption) ?_
      · intro w' hSw'
        have z0 := below_cell hSw' CG.out
        go_simp
      simp only [Act.put, List.setIfInBounds_toArray, List.set_cons_zero, List.set_cons_succ]
      refine takeH (i := 4) 42 (v := .slice (some ⟨hb, hoff, none⟩) H c2) rfl rfl (by kernel_rfl) (by kernel_rfl) (by kernel_rfl) (fun _ _ _ h => h) (Or.inl ⟨by rfl, ?_⟩) (by assumption) ?_
      · intro w' hSw'
        go_simp
      simp only [Act.put, List.setIfInBounds_toArray, List.set_cons_zero, List.set_cons_succ]
      refine takeH (i := 5) 43 (v := .int .i64 (k : Int)) rfl rfl (by kernel_rfl) (by kernel_rfl) (by kernel_rfl) (fun _ _ _ h => h) (Or.inl ⟨by rfl, ?_⟩) (by assumption) ?_
      · intro w' hSw'
        go_simp
      simp only [Act.put, List.setIfInBounds_toArray, List.set_cons_zero, List.set_cons_succ]
      refine takeH (i := 6) 44 (v := .pointer (some ⟨hb, hoff + k, none⟩)) rfl rfl (by kernel_rfl) (by kernel_rfl) (by kernel_rfl) (fun _ _ _ h => h) (Or.inl ⟨by rfl, ?_⟩) (by assumption) ?_
      · intro w' hSw'
        go_simp
      simp only [Act.put, List.setIfInBounds_toArray, List.set_cons_zero, List.set_cons_succ]
      refine takeH (i := 7) 45 (v := .string ⟨Y.toArray⟩) rfl rfl (by kernel_rfl) (by kernel_rfl) (by kernel_rfl) (fun _ _ _ h => h) (Or.inl ⟨by rfl, ?_⟩) (by assumption) ?_
      · intro w' hSw'
        have z0 := below_cell hSw' CX6.out
        go_simp
      simp only [Act.put, List.setIfInBounds_toArray, List.set_cons_zero, List.set_cons_succ]
      refine takeH (i := 8) 46 (v := .bool true) rfl rfl (by kernel_rfl) (by kernel_rfl) (by kernel_rfl) (fun _ _ _ h => h) (Or.inl ⟨by rfl, ?_⟩) (by assumption) ?_
      · intro w' hSw'
        go_simp
      simp only [Act.put, List.setIfInBounds_toArray, List.set_cons_zero, List.set_cons_succ]
      refine takeH (i := 9) 47 (v := .bool true) rfl rfl (by kernel_rfl) (by kernel_rfl) (by kernel_rfl) (fun _ _ _ h => h) (Or.inl ⟨by rfl, ?_⟩) (by assumption) ?_
      · intro w' hSw'
        go_simp
      simp only [Act.put, List.setIfInBounds_toArray, List.set_cons_zero, List.set_cons_succ]
      refine takeH (i := 10) 48 (v := undef) rfl rfl (by kernel_rfl) (by kernel_rfl) (by kernel_rfl) (fun _ _ _ h => h) (Or.inr ⟨by rfl, rfl⟩) (by assumption) ?_
      simp only [Act.put, List.setIfInBounds_toArray, List.set_cons_zero, List.set_cons_succ]
      refine takeH (i := 11) 49 (v := undef) rfl rfl (by kernel_rfl) (by kernel_rfl) (by kernel_rfl) (fun _ _ _ h => h) (Or.inr ⟨by rfl, rfl⟩) (by assumption) ?_
      simp only [Act.put, List.setIfInBounds_toArray, List.set_cons_zero, List.set_cons_succ]
      refine takeH (i := 12) 50 (v := undef) rfl rfl (by kernel_rfl) (by kernel_rfl) (by kernel_rfl) (fun _ _ _ h => h) (Or.inr ⟨by rfl, rfl⟩) (by assumption) ?_
      simp only [Act.put, List.setIfInBounds_toArray, List.set_cons_zero, List.set_cons_succ]
      refine takeH (i := 13) 51 (v := undef) rfl rfl (by kernel_rfl) (by kernel_rfl) (by kernel_rfl) (fun _ _ _ h => h) (Or.inr ⟨by rfl, rfl⟩) (by assumption) ?_
      simp only [Act.put, List.setIfInBounds_toArray, List.set_cons_zero, List.set_cons_succ]
      refine takeH (i := 14) 52 (v := undef) rfl rfl (by kernel_rfl) (by kernel_rfl) (by kernel_rfl) (fun _ _ _ h => h) (Or.inr ⟨by rfl, rfl⟩) (by assumption) ?_
      simp only [Act.put, List.setIfInBounds_toArray, List.set_cons_zero, List.set_cons_succ]
      refine takeH (i := 15) 53 (v := .bool true) rfl rfl (by kernel_rfl) (by kernel_rfl) (by kernel_rfl) (fun _ _ _ h => h) (Or.inl ⟨by rfl, ?_⟩) (by assumption) ?_
      · intro w' hSw'
        go_simp
      simp only [Act.put, List.setIfInBounds_toArray, List.set_cons_zero, List.set_cons_succ]
      refine wpAnyH_done (by kernel_rfl) ?_ _
      go_wp2
      go_ret
      exact ⟨rfl, B6.out.drew⟩
    · have hne : (Y == X) = false := by simpa using hXY
      have RH : Hid (∀ w', Below w6.heap.size w6 w' → Calls Tryd.prog 11 #[.slice (some ⟨hb, hoff, none⟩) H c2] w' fun e w'' => e = .returned (.string ⟨(rootL h).toArray⟩) ∧ Below w'.heap.size w' w'') := fun w' hb => root_any H h HHL.out _ c2 w' (LD6.out w' hb) (HS6.out.below strKind_ok hb) HSH.out (by omega)
      have RGr : Hid (∀ w', Below w6.heap.size w6 w' → Calls Tryd.prog 11 #[.slice (some ⟨gb, 0, none⟩) H cap4] w' fun e w'' => e = .returned (.string ⟨(rootL G).toArray⟩) ∧ Below w'.heap.size w' w'') := fun w' hb => root_any H G GL.out _ cap4 w' (LD6.out w' hb) (GS.out.below strKind_ok hb) GSH.out (by omega)
      have PH : Hid (∀ w', Below w6.heap.size w6 w' → Calls Tryd.prog 13 #[.slice (some ⟨hb, hoff, none⟩) H c2, .int .i64 (k : Int)] w' (RowA w' (pathL h k))) := fun w' hb => path_any H h HHL.out k hk _ c2 w' (LD6.out w' hb) (HS6.out.below strKind_ok hb) HSH.out (by omega)
      have PG : Hid (∀ w', Below w6.heap.size w6 w' → Calls Tryd.prog 13 #[.slice (some ⟨gb, 0, none⟩) H cap4, .int .i64 (k : Int)] w' (RowA w' (pathL G k))) := fun w' hb => path_any H G GL.out k hk _ cap4 w' (LD6.out w' hb) (GS.out.below strKind_ok hb) GSH.out (by omega)
      have hpl1 : (pathL h k).length ≤ 40 := pathL_len (by rw [HHL.out]; exact hk) (by rw [HHL.out]; omega)
      have hpl2 : (pathL G k).length ≤ 40 := pathL_len (by rw [GL.out]; exact hk) (by rw [GL.out]; omega)
      obtain ⟨QH, hQH⟩ : ∃ Q, rootL h = Q := ⟨_, rfl⟩
      obtain ⟨QG, hQG⟩ : ∃ Q, rootL G = Q := ⟨_, rfl⟩
      rw [hQH] at RH SND
      rw [hQG] at RGr SND
      clear hQH hQG
      have SND2 : Hid (QG = QH → (collL (k : Int) (H : Int) X (pathL h k) Y (pathL G k)).isSome = true) := fun e => SND.out e (fun h => hXY h.symm)
      clear SND hXY
      by_cases hq : QG = QH
      · subst hq
        refine wp_region_held_drew (S := fun w' => Below w6.heap.size w6 w') (by kernel_rfl) ((Below.refl w6.heap.size w6).drew) (fun hZ => ?_)
        refine takeH (i := 0) 38 (v := .slice (some ⟨gb, 0, none⟩) H cap4) rfl rfl (by kernel_rfl) (by kernel_rfl) (by kernel_rfl) (fun _ _ _ h => h) (Or.inl ⟨by rfl, ?_⟩) (by assumption) ?_
        · intro w' hSw'
          go_simp
        simp only [Act.put, List.setIfInBounds_toArray, List.set_cons_zero, List.set_cons_succ]
        refine takeH (i := 1) 39 (v := .int .i64 (k : Int)) rfl rfl (by kernel_rfl) (by kernel_rfl) (by kernel_rfl) (fun _ _ _ h => h) (Or.inl ⟨by rfl, ?_⟩) (by assumption) ?_
        · intro w' hSw'
          go_simp
        simp only [Act.put, List.setIfInBounds_toArray, List.set_cons_zero, List.set_cons_succ]
        refine takeH (i := 2) 40 (v := .pointer (some ⟨gb, k, none⟩)) rfl rfl (by kernel_rfl) (by kernel_rfl) (by kernel_rfl) (fun _ _ _ h => h) (Or.inl ⟨by rfl, ?_⟩) (by assumption) ?_
        · intro w' hSw'
          go_simp
        simp only [Act.put, List.setIfInBounds_toArray, List.set_cons_zero, List.set_cons_succ]
        refine takeH (i := 3) 41 (v := .string ⟨Y.toArray⟩) rfl rfl (by kernel_rfl) (by kernel_rfl) (by kernel_rfl) (fun _ _ _ h => h) (Or.inl ⟨by rfl, ?_⟩) (by assumption) ?_
        · intro w' hSw'
          have z0 := below_cell hSw' CG.out
          go_simp
        simp only [Act.put, List.setIfInBounds_toArray, List.set_cons_zero, List.set_cons_succ]
        refine takeH (i := 4) 42 (v := .slice (some ⟨hb, hoff, none⟩) H c2) rfl rfl (by kernel_rfl) (by kernel_rfl) (by kernel_rfl) (fun _ _ _ h => h) (Or.inl ⟨by rfl, ?_⟩) (by assumption) ?_
        · intro w' hSw'
          go_simp
        simp only [Act.put, List.setIfInBounds_toArray, List.set_cons_zero, List.set_cons_succ]
        refine takeH (i := 5) 43 (v := .int .i64 (k : Int)) rfl rfl (by kernel_rfl) (by kernel_rfl) (by kernel_rfl) (fun _ _ _ h => h) (Or.inl ⟨by rfl, ?_⟩) (by assumption) ?_
        · intro w' hSw'
          go_simp
        simp only [Act.put, List.setIfInBounds_toArray, List.set_cons_zero, List.set_cons_succ]
        refine takeH (i := 6) 44 (v := .pointer (some ⟨hb, hoff + k, none⟩)) rfl rfl (by kernel_rfl) (by kernel_rfl) (by kernel_rfl) (fun _ _ _ h => h) (Or.inl ⟨by rfl, ?_⟩) (by assumption) ?_
        · intro w' hSw'
          go_simp
        simp only [Act.put, List.setIfInBounds_toArray, List.set_cons_zero, List.set_cons_succ]
        refine takeH (i := 7) 45 (v := .string ⟨X.toArray⟩) rfl rfl (by kernel_rfl) (by kernel_rfl) (by kernel_rfl) (fun _ _ _ h => h) (Or.inl ⟨by rfl, ?_⟩) (by assumption) ?_
        · intro w' hSw'
          have z0 := below_cell hSw' CX6.out
          go_simp
        simp only [Act.put, List.setIfInBounds_toArray, List.set_cons_zero, List.set_cons_succ]
        refine takeH (i := 8) 46 (v := .bool false) rfl rfl (by kernel_rfl) (by kernel_rfl) (by kernel_rfl) (fun _ _ _ h => h) (Or.inl ⟨by rfl, ?_⟩) (by assumption) ?_
        · intro w' hSw'
          go_simp
        simp only [Act.put, List.setIfInBounds_toArray, List.set_cons_zero, List.set_cons_succ]
        refine takeH (i := 9) 47 (v := .bool false) rfl rfl (by kernel_rfl) (by kernel_rfl) (by kernel_rfl) (fun _ _ _ h => h) (Or.inl ⟨by rfl, ?_⟩) (by assumption) ?_
        · intro w' hSw'
          go_simp
        simp only [Act.put, List.setIfInBounds_toArray, List.set_cons_zero, List.set_cons_succ]
        refine takeH (i := 10) 48 (v := .slice (some ⟨gb, 0, none⟩) H cap4) rfl rfl (by kernel_rfl) (by kernel_rfl) (by kernel_rfl) (fun _ _ _ h => h) (Or.inl ⟨by rfl, ?_⟩) (by assumption) ?_
        · intro w' hSw'
          go_simp
        simp only [Act.put, List.setIfInBounds_toArray, List.set_cons_zero, List.set_cons_succ]
        refine takeH (i := 12) 50 (v := .slice (some ⟨hb, hoff, none⟩) H c2) rfl rfl (by kernel_rfl) (by kernel_rfl) (by kernel_rfl) (fun _ _ _ h => h) (Or.inl ⟨by rfl, ?_⟩) (by assumption) ?_
        · intro w' hSw'
          go_simp
        simp only [Act.put, List.setIfInBounds_toArray, List.set_cons_zero, List.set_cons_succ]
        refine wpAnyH_ready (rs := [11]) (by kernel_rfl) (by simp) ?_
        refine AllReadyH.cons rfl (fun K hK => ?_) AllReadyH.nil
        go_simp
        refine (RGr.out _ (Below.refl w6.heap.size w6).drew).mono ?_
        rintro e w7 ⟨rfl, hb7⟩
        have b7 : Hid (Below w6.heap.size w6 w7) := (Below.refl w6.heap.size w6).drew.trans (hb7.mono (Below.refl w6.heap.size w6).drew.size)
        clear hb7
        go_wp2_with fail
        refine hK.out _ _ (b7.out) (fun hZ1 => ?_)
        clear hK K
        refine wpAnyH_ready (rs := [13]) (by kernel_rfl) (by simp) ?_
        refine AllReadyH.cons rfl (fun K hK => ?_) AllReadyH.nil
        go_simp
        refine (RH.out w7 b7.out).mono ?_
        rintro e w8 ⟨rfl, hb8⟩
        have b8 : Hid (Below w6.heap.size w6 w8) := b7.out.trans (hb8.mono b7.out.size)
        clear hb8
        go_wp2_with fail
        refine hK.out _ _ (b8.out) (fun hZ2 => ?_)
        clear hK K
        refine takeH (i := 14) 52 (v := .bool false) rfl rfl (by kernel_rfl) (by kernel_rfl) (by kernel_rfl) (fun _ _ _ h => h) (Or.inl ⟨by rfl, ?_⟩) (by assumption) ?_
        · intro w' hSw'
          go_simp
        simp only [Act.put, List.setIfInBounds_toArray, List.set_cons_zero, List.set_cons_succ]
        refine takeH (i := 15) 53 (v := .bool false) rfl rfl (by kernel_rfl) (by kernel_rfl) (by kernel_rfl) (fun _ _ _ h => h) (Or.inl ⟨by rfl, ?_⟩) (by assumption) ?_
        · intro w' hSw'
          go_simp
        simp only [Act.put, List.setIfInBounds_toArray, List.set_cons_zero, List.set_cons_succ]
        refine wpAnyH_done (by kernel_rfl) ?_ _
        go_wp2_with fail
        refine (PH.out w8 b8.out).mono ?_
        rintro e w9 ⟨v9, rfl, ho9, hb9⟩
        have b9 := keep (b8.out.trans (hb9.mono b8.out.size))
        obtain ⟨pp, pc, rfl, hr9, _⟩ := RSrc.own strKind_ok ho9 (fun _ _ => trivial)
        have RP := keep hr9
        clear ho9 hr9
        clear hb9 PH
        go_wp2_with fail
        refine (PG.out w9 b9.out).mono ?_
        rintro e wa ⟨va, rfl, hoa, hba⟩
        have ba := keep (b9.out.trans (hba.mono b9.out.size))
        have RP2 := keep (RP.out.below strKind_ok hba)
        obtain ⟨rp, rc, rfl, hra, _⟩ := RSrc.own strKind_ok hoa (fun _ _ => trivial)
        have RQ := keep hra
        clear hoa hra hba PG RP
        have hsome := SND2.out (by first | rfl | trivial)
        have CGa := keep (below_cell ba.out CG.out)
        have CXa := keep (below_cell ba.out CX6.out)
        have CO : Hid (∀ w', Below wa.heap.size wa w' → Calls Tryd.prog 8 #[.int .i64 (k : Int), .int .i64 (H : Int), .string ⟨X.toArray⟩, .slice pp (pathL h k).length pc, .string ⟨Y.toArray⟩, .slice rp (pathL G k).length rc] w' (ColB w' (collL (k : Int) (H : Int) X (pathL h k) Y (pathL G k)))) := fun w' hb => collide_any k H X pp _ pc (pathL h k) Y rp _ rc (pathL G k) w' (LD6.out w' (ba.out.trans (hb.mono ba.out.size))) (RP2.out.below strKind_ok hb) (RQ.out.below strKind_ok hb) (by omega) (by omega)
        obtain ⟨cr, hcr⟩ : ∃ cr, collL (k : Int) (H : Int) X (pathL h k) Y (pathL G k) = cr := ⟨_, rfl⟩
        rw [hcr] at CO hsome
        clear hcr
        obtain ⟨P1, hP1⟩ : ∃ P, (pathL h k).length = P := ⟨_, rfl⟩
        obtain ⟨P2, hP2⟩ : ∃ P, (pathL G k).length = P := ⟨_, rfl⟩
        rw [hP1, hP2] at CO
        rw [hP1, hP2]
        obtain ⟨⟨cl, cq⟩, rfl⟩ := Option.isSome_iff_exists.1 hsome
        have CO2 : Hid (∀ w', Below wa.heap.size wa w' → Calls Tryd.prog 8 #[.int .i64 (k : Int), .int .i64 (H : Int), .string ⟨X.toArray⟩, .slice pp P1 pc, .string ⟨Y.toArray⟩, .slice rp P2 rc] w' fun e w'' => (∃ a1 m1 c1 a2 m2 c2, e = .returned (.tuple #[.slice a1 m1 c1, .slice a2 m2 c2, .bool true])) ∧ Below w'.heap.size w' w'') := fun w' hb => by
          refine (CO.out w' hb).mono ?_
          rintro e w'' ⟨⟨a1, m1, c1, a2, m2, c2, he, _⟩, hb2⟩
          exact ⟨⟨a1, m1, c1, a2, m2, c2, he⟩, hb2⟩
        clear CO hP1 hP2 hsome SND2 hpl1 hpl2
        go_wp2_with fail
        refine wp_region_held_drew (S := fun w' => Below wa.heap.size wa w') (by kernel_rfl) ((Below.refl wa.heap.size wa).drew) (fun hY => ?_)
        refine takeH (i := 0) 68 (v := .int .i64 (k : Int)) rfl rfl (by kernel_rfl) (by kernel_rfl) (by kernel_rfl) (fun _ _ _ h => h) (Or.inl ⟨by rfl, ?_⟩) (by assumption) ?_
        · intro w' hSw'
          go_simp
        simp only [Act.put, List.setIfInBounds_toArray, List.set_cons_zero, List.set_cons_succ]
        refine takeH (i := 1) 69 (v := .slice (some ⟨hb, hoff, none⟩) H c2) rfl rfl (by kernel_rfl) (by kernel_rfl) (by kernel_rfl) (fun _ _ _ h => h) (Or.inl ⟨by rfl, ?_⟩) (by assumption) ?_
        · intro w' hSw'
          go_simp
        simp only [Act.put, List.setIfInBounds_toArray, List.set_cons_zero, List.set_cons_succ]
        refine takeH (i := 2) 70 (v := .int .i64 (H : Int)) rfl rfl (by kernel_rfl) (by kernel_rfl) (by kernel_rfl) (fun _ _ _ h => h) (Or.inl ⟨by rfl, ?_⟩) (by assumption) ?_
        · intro w' hSw'
          go_simp
        simp only [Act.put, List.setIfInBounds_toArray, List.set_cons_zero, List.set_cons_succ]
        refine takeH (i := 3) 71 (v := .slice (some ⟨hb, hoff, none⟩) H c2) rfl rfl (by kernel_rfl) (by kernel_rfl) (by kernel_rfl) (fun _ _ _ h => h) (Or.inl ⟨by rfl, ?_⟩) (by assumption) ?_
        · intro w' hSw'
          go_simp
        simp only [Act.put, List.setIfInBounds_toArray, List.set_cons_zero, List.set_cons_succ]
        refine takeH (i := 4) 72 (v := .int .i64 (k : Int)) rfl rfl (by kernel_rfl) (by kernel_rfl) (by kernel_rfl) (fun _ _ _ h => h) (Or.inl ⟨by rfl, ?_⟩) (by assumption) ?_
        · intro w' hSw'
          go_simp
        simp only [Act.put, List.setIfInBounds_toArray, List.set_cons_zero, List.set_cons_succ]
        refine takeH (i := 5) 73 (v := .pointer (some ⟨hb, hoff + k, none⟩)) rfl rfl (by kernel_rfl) (by kernel_rfl) (by kernel_rfl) (fun _ _ _ h => h) (Or.inl ⟨by rfl, ?_⟩) (by assumption) ?_
        · intro w' hSw'
          go_simp
        simp only [Act.put, List.setIfInBounds_toArray, List.set_cons_zero, List.set_cons_succ]
        refine takeH (i := 6) 74 (v := .string ⟨X.toArray⟩) rfl rfl (by kernel_rfl) (by kernel_rfl) (by kernel_rfl) (fun _ _ _ h => h) (Or.inl ⟨by rfl, ?_⟩) (by assumption) ?_
        · intro w' hSw'
          have z0 := below_cell hSw' CXa.out
          go_simp
        simp only [Act.put, List.setIfInBounds_toArray, List.set_cons_zero, List.set_cons_succ]
        refine takeH (i := 7) 75 (v := .slice pp P1 pc) rfl rfl (by kernel_rfl) (by kernel_rfl) (by kernel_rfl) (fun _ _ _ h => h) (Or.inl ⟨by rfl, ?_⟩) (by assumption) ?_
        · intro w' hSw'
          go_simp
        simp only [Act.put, List.setIfInBounds_toArray, List.set_cons_zero, List.set_cons_succ]
        refine takeH (i := 8) 76 (v := .slice (some ⟨gb, 0, none⟩) H cap4) rfl rfl (by kernel_rfl) (by kernel_rfl) (by kernel_rfl) (fun _ _ _ h => h) (Or.inl ⟨by rfl, ?_⟩) (by assumption) ?_
        · intro w' hSw'
          go_simp
        simp only [Act.put, List.setIfInBounds_toArray, List.set_cons_zero, List.set_cons_succ]
        refine takeH (i := 9) 77 (v := .int .i64 (k : Int)) rfl rfl (by kernel_rfl) (by kernel_rfl) (by kernel_rfl) (fun _ _ _ h => h) (Or.inl ⟨by rfl, ?_⟩) (by assumption) ?_
        · intro w' hSw'
          go_simp
        simp only [Act.put, List.setIfInBounds_toArray, List.set_cons_zero, List.set_cons_succ]
        refine takeH (i := 10) 78 (v := .pointer (some ⟨gb, k, none⟩)) rfl rfl (by kernel_rfl) (by kernel_rfl) (by kernel_rfl) (fun _ _ _ h => h) (Or.inl ⟨by rfl, ?_⟩) (by assumption) ?_
        · intro w' hSw'
          go_simp
        simp only [Act.put, List.setIfInBounds_toArray, List.set_cons_zero, List.set_cons_succ]
        refine takeH (i := 11) 79 (v := .string ⟨Y.toArray⟩) rfl rfl (by kernel_rfl) (by kernel_rfl) (by kernel_rfl) (fun _ _ _ h => h) (Or.inl ⟨by rfl, ?_⟩) (by assumption) ?_
        · intro w' hSw'
          have z0 := below_cell hSw' CGa.out
          go_simp
        simp only [Act.put, List.setIfInBounds_toArray, List.set_cons_zero, List.set_cons_succ]
        refine takeH (i := 12) 80 (v := .slice rp P2 rc) rfl rfl (by kernel_rfl) (by kernel_rfl) (by kernel_rfl) (fun _ _ _ h => h) (Or.inl ⟨by rfl, ?_⟩) (by assumption) ?_
        · intro w' hSw'
          go_simp
        simp only [Act.put, List.setIfInBounds_toArray, List.set_cons_zero, List.set_cons_succ]
        refine wpAnyH_ready (rs := [13]) (by kernel_rfl) (by simp) ?_
        refine AllReadyH.cons rfl (fun K hK => ?_) AllReadyH.nil
        go_simp
        refine (CO2.out _ (Below.refl wa.heap.size wa).drew).mono ?_
        rintro e wb ⟨⟨a1, m1, c1, a2, m2, c9, rfl⟩, hbb⟩
        have bb : Hid (Below wa.heap.size wa wb) := (Below.refl wa.heap.size wa).drew.trans (hbb.mono (Nat.le_refl _))
        clear hbb
        go_wp2_with fail
        refine hK.out _ _ (bb.out) (fun hY1 => ?_)
        clear hK K
        refine takeH (i := 14) 67 (v := .tuple #[.slice a1 m1 c1, .slice a2 m2 c9, .bool true]) rfl rfl (by kernel_rfl) (by kernel_rfl) (by kernel_rfl) (fun _ _ _ h => h) (Or.inl ⟨by rfl, ?_⟩) (by assumption) ?_
        · intro w' hSw'
          go_simp
        simp only [Act.put, List.setIfInBounds_toArray, List.set_cons_zero, List.set_cons_succ]
        refine takeH (i := 15) 82 (v := .slice a1 m1 c1) rfl rfl (by kernel_rfl) (by kernel_rfl) (by kernel_rfl) (fun _ _ _ h => h) (Or.inl ⟨by rfl, ?_⟩) (by assumption) ?_
        · intro w' hSw'
          go_simp
        simp only [Act.put, List.setIfInBounds_toArray, List.set_cons_zero, List.set_cons_succ]
        refine takeH (i := 16) 83 (v := .slice a2 m2 c9) rfl rfl (by kernel_rfl) (by kernel_rfl) (by kernel_rfl) (fun _ _ _ h => h) (Or.inl ⟨by rfl, ?_⟩) (by assumption) ?_
        · intro w' hSw'
          go_simp
        simp only [Act.put, List.setIfInBounds_toArray, List.set_cons_zero, List.set_cons_succ]
        refine takeH (i := 17) 84 (v := .bool true) rfl rfl (by kernel_rfl) (by kernel_rfl) (by kernel_rfl) (fun _ _ _ h => h) (Or.inl ⟨by rfl, ?_⟩) (by assumption) ?_
        · intro w' hSw'
          go_simp
        simp only [Act.put, List.setIfInBounds_toArray, List.set_cons_zero, List.set_cons_succ]
        refine takeH (i := 18) 15 (v := .slice a1 m1 c1) rfl rfl (by kernel_rfl) (by kernel_rfl) (by kernel_rfl) (fun _ _ _ h => h) (Or.inl ⟨by rfl, ?_⟩) (by assumption) ?_
        · intro w' hSw'
          go_simp
        simp only [Act.put, List.setIfInBounds_toArray, List.set_cons_zero, List.set_cons_succ]
        refine takeH (i := 19) 16 (v := .slice a2 m2 c9) rfl rfl (by kernel_rfl) (by kernel_rfl) (by kernel_rfl) (fun _ _ _ h => h) (Or.inl ⟨by rfl, ?_⟩) (by assumption) ?_
        · intro w' hSw'
          go_simp
        simp only [Act.put, List.setIfInBounds_toArray, List.set_cons_zero, List.set_cons_succ]
        refine takeH (i := 20) 17 (v := .bool true) rfl rfl (by kernel_rfl) (by kernel_rfl) (by kernel_rfl) (fun _ _ _ h => h) (Or.inl ⟨by rfl, ?_⟩) (by assumption) ?_
        · intro w' hSw'
          go_simp
        simp only [Act.put, List.setIfInBounds_toArray, List.set_cons_zero, List.set_cons_succ]
        refine wpAnyH_done (by kernel_rfl) ?_ _
        go_wp2
        go_ret
        exact ⟨rfl, B6.out.trans ((ba.out.trans (bb.out.mono ba.out.size)).mono B6.out.size)⟩
      · have hqn : (QG == QH) = false := by simpa using hq
        clear hq
        refine wp_region_held_drew (S := fun w' => Below w6.heap.size w6 w') (by kernel_rfl) ((Below.refl w6.heap.size w6).drew) (fun hZ => ?_)
        refine takeH (i := 0) 38 (v := .slice (some ⟨gb, 0, none⟩) H cap4) rfl rfl (by kernel_rfl) (by kernel_rfl) (by kernel_rfl) (fun _ _ _ h => h) (Or.inl ⟨by rfl, ?_⟩) (by assumption) ?_
        · intro w' hSw'
          go_simp
        simp only [Act.put, List.setIfInBounds_toArray, List.set_cons_zero, List.set_cons_succ]
        refine takeH (i := 1) 39 (v := .int .i64 (k : Int)) rfl rfl (by kernel_rfl) (by kernel_rfl) (by kernel_rfl) (fun _ _ _ h => h) (Or.inl ⟨by rfl, ?_⟩) (by assumption) ?_
        · intro w' hSw'
          go_simp
        simp only [Act.put, List.setIfInBounds_toArray, List.set_cons_zero, List.set_cons_succ]
        refine takeH (i := 2) 40 (v := .pointer (some ⟨gb, k, none⟩)) rfl rfl (by kernel_rfl) (by kernel_rfl) (by kernel_rfl) (fun _ _ _ h => h) (Or.inl ⟨by rfl, ?_⟩) (by assumption) ?_
        · intro w' hSw'
          go_simp
        simp only [Act.put, List.setIfInBounds_toArray, List.set_cons_zero, List.set_cons_succ]
        refine takeH (i := 3) 41 (v := .string ⟨Y.toArray⟩) rfl rfl (by kernel_rfl) (by kernel_rfl) (by kernel_rfl) (fun _ _ _ h => h) (Or.inl ⟨by rfl, ?_⟩) (by assumption) ?_
        · intro w' hSw'
          have z0 := below_cell hSw' CG.out
          go_simp
        simp only [Act.put, List.setIfInBounds_toArray, List.set_cons_zero, List.set_cons_succ]
        refine takeH (i := 4) 42 (v := .slice (some ⟨hb, hoff, none⟩) H c2) rfl rfl (by kernel_rfl) (by kernel_rfl) (by kernel_rfl) (fun _ _ _ h => h) (Or.inl ⟨by rfl, ?_⟩) (by assumption) ?_
        · intro w' hSw'
          go_simp
        simp only [Act.put, List.setIfInBounds_toArray, List.set_cons_zero, List.set_cons_succ]
        refine takeH (i := 5) 43 (v := .int .i64 (k : Int)) rfl rfl (by kernel_rfl) (by kernel_rfl) (by kernel_rfl) (fun _ _ _ h => h) (Or.inl ⟨by rfl, ?_⟩) (by assumption) ?_
        · intro w' hSw'
          go_simp
        simp only [Act.put, List.setIfInBounds_toArray, List.set_cons_zero, List.set_cons_succ]
        refine takeH (i := 6) 44 (v := .pointer (some ⟨hb, hoff + k, none⟩)) rfl rfl (by kernel_rfl) (by kernel_rfl) (by kernel_rfl) (fun _ _ _ h => h) (Or.inl ⟨by rfl, ?_⟩) (by assumption) ?_
        · intro w' hSw'
          go_simp
        simp only [Act.put, List.setIfInBounds_toArray, List.set_cons_zero, List.set_cons_succ]
        refine takeH (i := 7) 45 (v := .string ⟨X.toArray⟩) rfl rfl (by kernel_rfl) (by kernel_rfl) (by kernel_rfl) (fun _ _ _ h => h) (Or.inl ⟨by rfl, ?_⟩) (by assumption) ?_
        · intro w' hSw'
          have z0 := below_cell hSw' CX6.out
          go_simp
        simp only [Act.put, List.setIfInBounds_toArray, List.set_cons_zero, List.set_cons_succ]
        refine takeH (i := 8) 46 (v := .bool false) rfl rfl (by kernel_rfl) (by kernel_rfl) (by kernel_rfl) (fun _ _ _ h => h) (Or.inl ⟨by rfl, ?_⟩) (by assumption) ?_
        · intro w' hSw'
          go_simp
        simp only [Act.put, List.setIfInBounds_toArray, List.set_cons_zero, List.set_cons_succ]
        refine takeH (i := 9) 47 (v := .bool false) rfl rfl (by kernel_rfl) (by kernel_rfl) (by kernel_rfl) (fun _ _ _ h => h) (Or.inl ⟨by rfl, ?_⟩) (by assumption) ?_
        · intro w' hSw'
          go_simp
        simp only [Act.put, List.setIfInBounds_toArray, List.set_cons_zero, List.set_cons_succ]
        refine takeH (i := 10) 48 (v := .slice (some ⟨gb, 0, none⟩) H cap4) rfl rfl (by kernel_rfl) (by kernel_rfl) (by kernel_rfl) (fun _ _ _ h => h) (Or.inl ⟨by rfl, ?_⟩) (by assumption) ?_
        · intro w' hSw'
          go_simp
        simp only [Act.put, List.setIfInBounds_toArray, List.set_cons_zero, List.set_cons_succ]
        refine takeH (i := 12) 50 (v := .slice (some ⟨hb, hoff, none⟩) H c2) rfl rfl (by kernel_rfl) (by kernel_rfl) (by kernel_rfl) (fun _ _ _ h => h) (Or.inl ⟨by rfl, ?_⟩) (by assumption) ?_
        · intro w' hSw'
          go_simp
        simp only [Act.put, List.setIfInBounds_toArray, List.set_cons_zero, List.set_cons_succ]
        refine wpAnyH_ready (rs := [11]) (by kernel_rfl) (by simp) ?_
        refine AllReadyH.cons rfl (fun K hK => ?_) AllReadyH.nil
        go_simp
        refine (RGr.out _ (Below.refl w6.heap.size w6).drew).mono ?_
        rintro e w7 ⟨rfl, hb7⟩
        have b7 : Hid (Below w6.heap.size w6 w7) := (Below.refl w6.heap.size w6).drew.trans (hb7.mono (Below.refl w6.heap.size w6).drew.size)
        clear hb7
        go_wp2_with fail
        refine hK.out _ _ (b7.out) (fun hZ1 => ?_)
        clear hK K
        refine wpAnyH_ready (rs := [13]) (by kernel_rfl) (by simp) ?_
        refine AllReadyH.cons rfl (fun K hK => ?_) AllReadyH.nil
        go_simp
        refine (RH.out w7 b7.out).mono ?_
        rintro e w8 ⟨rfl, hb8⟩
        have b8 : Hid (Below w6.heap.size w6 w8) := b7.out.trans (hb8.mono b7.out.size)
        clear hb8
        go_wp2_with fail
        refine hK.out _ _ (b8.out) (fun hZ2 => ?_)
        clear hK K
        refine takeH (i := 14) 52 (v := .bool true) rfl rfl (by kernel_rfl) (by kernel_rfl) (by kernel_rfl) (fun _ _ _ h => h) (Or.inl ⟨by rfl, ?_⟩) (by assumption) ?_
        · intro w' hSw'
          go_simp
        simp only [Act.put, List.setIfInBounds_toArray, List.set_cons_zero, List.set_cons_succ]
        refine takeH (i := 15) 53 (v := .bool true) rfl rfl (by kernel_rfl) (by kernel_rfl) (by kernel_rfl) (fun _ _ _ h => h) (Or.inl ⟨by rfl, ?_⟩) (by assumption) ?_
        · intro w' hSw'
          go_simp
        simp only [Act.put, List.setIfInBounds_toArray, List.set_cons_zero, List.set_cons_succ]
        refine wpAnyH_done (by kernel_rfl) ?_ _
        go_wp2
        go_ret
        exact ⟨rfl, B6.out.trans (b8.out.mono B6.out.size)⟩
end Go.Proofs.YtelebhcaljepaabDoor
