/- RowsSigns' walk. -/
import Derived.Test.YtogphpejdnhnjaaGreatDoorJoinEeb
namespace Go.Proofs.YtogphpejdnhnjaaGreatDoor
open Go.RowKit Go.Maps

set_option maxHeartbeats 8000000 in
set_option maxRecDepth 100000 in
theorem signs_walk (i s q : Int) (nm key : List UInt8) (sz tk ep : Int) (rt sg : List UInt8) (na : Option Addr) (nn nc : Nat) (byv : Int) (pa : Option Addr) (pn pc : Nat) (eb : Addr) (w : World) (ht : Tab w) (hw : 0 < w.heap.size) (hg : ErrIs w eb) (hT : Sha.Tab w) (hF : Sha.Fst w) (hk : key.length ≤ 140737488351232) (hr : rt.length ≤ 140737488351232) :
    Calls Tryz.prog 3 #[.agg #[.int .i64 i, .int .i64 s, .int .i64 q, .string ⟨nm.toArray⟩, .string ⟨key.toArray⟩], .agg #[.int .i64 sz, .string ⟨rt.toArray⟩, .int .i64 tk, .int .i64 ep, .slice na nn nc, .string ⟨sg.toArray⟩], .int .i64 byv, .slice pa pn pc] w fun e w' => e = .returned (.bool true) ∧ Below w.heap.size w w' := by
  obtain ⟨W1, hW1⟩ : ∃ W1, w.alloc (.cells #[.int .i64 i, .int .i64 s, .int .i64 q, .string ⟨nm.toArray⟩, .string ⟨key.toArray⟩] 23) = W1 := ⟨_, rfl⟩
  have b1 : Hid (Below w.heap.size w W1) := by rw [← hW1]; exact (Below.refl _ _).alloc (Nat.le_refl _) _
  have s1 : W1.heap.size = w.heap.size + 1 := by rw [← hW1]; simp
  have g1 : Hid (W1.heap[w.heap.size]? = some (.cells #[.int .i64 i, .int .i64 s, .int .i64 q, .string ⟨nm.toArray⟩, .string ⟨key.toArray⟩] 23)) := by rw [← hW1]; exact heap_alloc_new w _
  obtain ⟨W2, hW2⟩ : ∃ W2, W1.alloc (.cells #[.int .i64 sz, .string ⟨rt.toArray⟩, .int .i64 tk, .int .i64 ep, .slice na nn nc, .string ⟨sg.toArray⟩] 26) = W2 := ⟨_, rfl⟩
  have b2 : Hid (Below w.heap.size w W2) := by rw [← hW2]; exact b1.out.alloc b1.out.size _
  have g2 : Hid (W2.heap[w.heap.size]? = some (.cells #[.int .i64 i, .int .i64 s, .int .i64 q, .string ⟨nm.toArray⟩, .string ⟨key.toArray⟩] 23)) := by rw [← hW2]; exact (Below.heap_alloc _ _ _ (Array.getElem?_eq_some_iff.1 g1.out).1).trans g1.out
  have h2 : Hid (W2.heap[w.heap.size + 1]? = some (.cells #[.int .i64 sz, .string ⟨rt.toArray⟩, .int .i64 tk, .int .i64 ep, .slice na nn nc, .string ⟨sg.toArray⟩] 26)) := by rw [← hW2, ← s1]; exact heap_alloc_new W1 _
  have AW := keep (awake_any eb W2 (ht.below b2.out hw) (Nat.lt_of_lt_of_le hw b2.out.size) (hg.below b2.out))
  have HT := keep (hT.below b2.out)
  have HF := keep (hF.below b2.out)
  obtain ⟨MK, hMK⟩ : ∃ MK, Sha.mac key (signedB i sz tk ep rt) = MK := ⟨_, rfl⟩
  have ML : Hid (MK.length = 32) := by show _ = _; rw [← hMK]; unfold Sha.mac; exact Sha.sum_length _
  have KB := keep hk
  have RB := keep hr
  have TR := keep (fun W => tree18_any i s q nm key W)
  have HD := keep (fun W => head18_any sz tk ep rt sg na nn nc W)
  have HK := keep (fun W => head18_any sz tk ep rt [97, 110, 111, 116, 104, 101, 114, 32, 111, 110, 101] pa pn pc W)
  have SG : Hid (∀ (i' s' q' : Int) (nm' : List UInt8) (sg' : List UInt8) (na' : Option Addr) (nn' nc' : Nat) (W : World), Below W2.heap.size W2 W → Calls Tryz.prog 5 #[.agg #[.int .i64 i, .int .i64 s', .int .i64 q', .string ⟨nm'.toArray⟩, .string ⟨key.toArray⟩], .agg #[.int .i64 sz, .string ⟨rt.toArray⟩, .int .i64 tk, .int .i64 ep, .slice na' nn' nc', .string ⟨sg'.toArray⟩]] W fun e w' => e = .returned (.string ⟨MK.toArray⟩) ∧ Below W.heap.size W w') := fun _ s' q' nm' sg' na' nn' nc' W hb => by
    have SH := Shat.below HT.out HF.out hb rfl
    have := sign_any i s' q' nm' key sz tk ep rt sg' na' nn' nc' W SH.1 SH.2 KB.out RB.out
    rw [hMK] at this
    exact this
  clear ht hw hg hT hF hMK hk hr
  go_enter Tryz.func3, Tryz.ntmps3
  go_wp2_with fail
  clear hW1 hW2
  refine AW.out.mono ?_
  rintro e w1 ⟨rfl, hb1⟩
  have B1 := keep hb1
  have B0 := keep (b2.out.trans (hb1.mono b2.out.size))
  have CT : Hid (∀ w', Below w1.heap.size w1 w' → w'.cell? ⟨w.heap.size, 0, none⟩ = some (.int .i64 i) ∧ w'.cell? ⟨w.heap.size, 1, none⟩ = some (.int .i64 s) ∧ w'.cell? ⟨w.heap.size, 2, none⟩ = some (.int .i64 q) ∧ w'.cell? ⟨w.heap.size, 3, none⟩ = some (.string ⟨nm.toArray⟩) ∧ w'.cell? ⟨w.heap.size, 4, none⟩ = some (.string ⟨key.toArray⟩)) := fun w' hb => ⟨below_cell (B1.out.trans (hb.mono B1.out.size)) (cell_of_row _ _ _ _ _ _ g2.out), below_cell (B1.out.trans (hb.mono B1.out.size)) (cell_of_row _ _ _ _ _ _ g2.out), below_cell (B1.out.trans (hb.mono B1.out.size)) (cell_of_row _ _ _ _ _ _ g2.out), below_cell (B1.out.trans (hb.mono B1.out.size)) (cell_of_row _ _ _ _ _ _ g2.out), below_cell (B1.out.trans (hb.mono B1.out.size)) (cell_of_row _ _ _ _ _ _ g2.out)⟩
  have CH : Hid (∀ w', Below w1.heap.size w1 w' → w'.cell? ⟨w.heap.size + 1, 0, none⟩ = some (.int .i64 sz) ∧ w'.cell? ⟨w.heap.size + 1, 1, none⟩ = some (.string ⟨rt.toArray⟩) ∧ w'.cell? ⟨w.heap.size + 1, 2, none⟩ = some (.int .i64 tk) ∧ w'.cell? ⟨w.heap.size + 1, 3, none⟩ = some (.int .i64 ep) ∧ w'.cell? ⟨w.heap.size + 1, 4, none⟩ = some (.slice na nn nc) ∧ w'.cell? ⟨w.heap.size + 1, 5, none⟩ = some (.string ⟨sg.toArray⟩)) := fun w' hb => ⟨below_cell (B1.out.trans (hb.mono B1.out.size)) (cell_of_row _ _ _ _ _ _ h2.out), below_cell (B1.out.trans (hb.mono B1.out.size)) (cell_of_row _ _ _ _ _ _ h2.out), below_cell (B1.out.trans (hb.mono B1.out.size)) (cell_of_row _ _ _ _ _ _ h2.out), below_cell (B1.out.trans (hb.mono B1.out.size)) (cell_of_row _ _ _ _ _ _ h2.out), below_cell (B1.out.trans (hb.mono B1.out.size)) (cell_of_row _ _ _ _ _ _ h2.out), below_cell (B1.out.trans (hb.mono B1.out.size)) (cell_of_row _ _ _ _ _ _ h2.out)⟩
  have SI : Hid (∀ W, Below w1.heap.size w1 W → _) := fun W hb => SG.out 0 s q nm sg na nn nc W (B1.out.trans (hb.mono B1.out.size))
  clear hb1 AW
  go_wp2_with fail
  refine wp_region_held_drew (S := fun w' => Below w1.heap.size w1 w') (by kernel_rfl) ((Below.refl _ _).drew) (fun hHeld => ?_)
  refine takeH (i := 0) 13 (v := .agg #[.int .i64 i, .int .i64 s, .int .i64 q, .string ⟨nm.toArray⟩, .string ⟨key.toArray⟩]) rfl rfl (by kernel_rfl) (by kernel_rfl) (by kernel_rfl) (fun _ _ _ h => h) (Or.inl ⟨by rfl, ?_⟩) (by assumption) ?_
  · intro w' hSw'
    obtain ⟨d0, d1, d2, d3, d4⟩ := CT.out w' hSw'
    go_simp
  simp only [Act.put, List.setIfInBounds_toArray, List.set_cons_zero, List.set_cons_succ]
  refine takeH (i := 2) 15 (v := .agg #[.int .i64 sz, .string ⟨rt.toArray⟩, .int .i64 tk, .int .i64 ep, .slice na nn nc, .string ⟨sg.toArray⟩]) rfl rfl (by kernel_rfl) (by kernel_rfl) (by kernel_rfl) (fun _ _ _ h => h) (Or.inl ⟨by rfl, ?_⟩) (by assumption) ?_
  · intro w' hSw'
    obtain ⟨d0, d1, d2, d3, d4, d5⟩ := CH.out w' hSw'
    go_simp
  simp only [Act.put, List.setIfInBounds_toArray, List.set_cons_zero, List.set_cons_succ]
  refine wpAnyH_ready (rs := [1]) (by kernel_rfl) (by simp) ?_
  refine AllReadyH.cons rfl (fun K hK => ?_) AllReadyH.nil
  go_simp
  refine (TR.out _).mono ?_
  rintro e w2 ⟨rfl, hb2⟩
  have b2 : Hid (Below w1.heap.size w1 w2) := ((Below.refl w1.heap.size w1).drew).trans (hb2.mono ((Below.refl w1.heap.size w1).drew).size)
  clear hb2
  go_wp2_with fail
  refine hK.out _ _ (b2.out) (fun hHeld1 => ?_)
  clear hK K
  refine wpAnyH_ready (rs := [3]) (by kernel_rfl) (by simp) ?_
  refine AllReadyH.cons rfl (fun K hK => ?_) AllReadyH.nil
  go_simp
  refine (HD.out _).mono ?_
  rintro e w3 ⟨rfl, hb3⟩
  have b3 : Hid (Below w1.heap.size w1 w3) := b2.out.trans (hb3.mono b2.out.size)
  clear hb3
  go_wp2_with fail
  refine hK.out _ _ (b3.out) (fun hHeld2 => ?_)
  clear hK K
  refine wpAnyH_ready (rs := [4]) (by kernel_rfl) (by simp) ?_
  refine AllReadyH.cons rfl (fun K hK => ?_) AllReadyH.nil
  go_simp
  refine ((SI.out _ b3.out)).mono ?_
  rintro e w4 ⟨rfl, hb4⟩
  have b4 : Hid (Below w1.heap.size w1 w4) := b3.out.trans (hb4.mono b3.out.size)
  clear hb4
  go_wp2_with fail
  refine hK.out _ _ (b4.out) (fun hHeld3 => ?_)
  clear hK K
  refine takeH (i := 5) 10 (v := .string ⟨MK.toArray⟩) rfl rfl (by kernel_rfl) (by kernel_rfl) (by kernel_rfl) (fun _ _ _ h => h) (Or.inl ⟨by rfl, ?_⟩) (by assumption) ?_
  · intro w' hSw'
    go_simp
  simp only [Act.put, List.setIfInBounds_toArray, List.set_cons_zero, List.set_cons_succ]
  refine wpAnyH_done (by kernel_rfl) ?_ _
  obtain ⟨W6, hW6⟩ : ∃ W6, w4.alloc (.cells #[.int .i64 sz, .string ⟨rt.toArray⟩, .int .i64 tk, .int .i64 ep, .slice na nn nc, .string ⟨sg.toArray⟩] 26) = W6 := ⟨_, rfl⟩
  have b6 : Hid (Below w4.heap.size w4 W6) := by rw [← hW6]; exact (Below.refl _ _).alloc (Nat.le_refl _) _
  have g6 : W6.heap[w4.heap.size]? = some (.cells #[.int .i64 sz, .string ⟨rt.toArray⟩, .int .i64 tk, .int .i64 ep, .slice na nn nc, .string ⟨sg.toArray⟩] 26) := by rw [← hW6]; exact heap_alloc_new w4 _
  obtain ⟨W7, hW7⟩ : ∃ W7, W6.setCell ⟨w4.heap.size, 4, none⟩ (.slice pa pn pc) = W7 := ⟨_, rfl⟩
  have b7 : Hid (Below w4.heap.size w4 W7) := by rw [← hW7]; exact b6.out.setCell (p := ⟨w4.heap.size, 4, none⟩) (Nat.le_refl _) _
  have g7 : W7.heap[w4.heap.size]? = some (.cells #[.int .i64 sz, .string ⟨rt.toArray⟩, .int .i64 tk, .int .i64 ep, .slice pa pn pc, .string ⟨sg.toArray⟩] 26) := by rw [← hW7]; exact set_row g6 4 _
  obtain ⟨W8, hW8⟩ : ∃ W8, W7.setCell ⟨w4.heap.size, 5, none⟩ (.string ⟨#[97, 110, 111, 116, 104, 101, 114, 32, 111, 110, 101]⟩) = W8 := ⟨_, rfl⟩
  have b8 : Hid (Below w4.heap.size w4 W8) := by rw [← hW8]; exact b7.out.setCell (p := ⟨w4.heap.size, 5, none⟩) (Nat.le_refl _) _
  have g8 : Hid (W8.heap[w4.heap.size]? = some (.cells #[.int .i64 sz, .string ⟨rt.toArray⟩, .int .i64 tk, .int .i64 ep, .slice pa pn pc, .string ⟨#[97, 110, 111, 116, 104, 101, 114, 32, 111, 110, 101]⟩] 26)) := by rw [← hW8]; exact set_row g7 5 _
  have f6 : W6.frozen? ⟨w4.heap.size, 4, none⟩ = false := by simp [World.frozen?, g6]
  have f7 : W7.frozen? ⟨w4.heap.size, 5, none⟩ = false := by simp [World.frozen?, g7]
  have m6 : W6.cell? ⟨w4.heap.size, 4, none⟩ = some (.slice na nn nc) := cell_of_row _ _ _ _ _ _ g6
  have m7 : W7.cell? ⟨w4.heap.size, 5, none⟩ = some (.string ⟨sg.toArray⟩) := cell_of_row _ _ _ _ _ _ g7
  have CK : Hid (∀ w', Below W8.heap.size W8 w' → w'.cell? ⟨w4.heap.size, 0, none⟩ = some (.int .i64 sz) ∧ w'.cell? ⟨w4.heap.size, 1, none⟩ = some (.string ⟨rt.toArray⟩) ∧ w'.cell? ⟨w4.heap.size, 2, none⟩ = some (.int .i64 tk) ∧ w'.cell? ⟨w4.heap.size, 3, none⟩ = some (.int .i64 ep) ∧ w'.cell? ⟨w4.heap.size, 4, none⟩ = some (.slice pa pn pc) ∧ w'.cell? ⟨w4.heap.size, 5, none⟩ = some (.string ⟨#[97, 110, 111, 116, 104, 101, 114, 32, 111, 110, 101]⟩)) := fun w' hb => ⟨below_cell hb (cell_of_row _ _ _ _ _ _ g8.out), below_cell hb (cell_of_row _ _ _ _ _ _ g8.out), below_cell hb (cell_of_row _ _ _ _ _ _ g8.out), below_cell hb (cell_of_row _ _ _ _ _ _ g8.out), below_cell hb (cell_of_row _ _ _ _ _ _ g8.out), below_cell hb (cell_of_row _ _ _ _ _ _ g8.out)⟩
  have UW : Hid (∀ w', Below W8.heap.size W8 w' → Below w1.heap.size w1 w') := fun w' hb => b4.out.trans ((b8.out.trans (hb.mono b8.out.size)).mono b4.out.size)
  have SK : Hid (∀ W, Below w1.heap.size w1 W → _) := fun W hb => SG.out 0 s q nm [97, 110, 111, 116, 104, 101, 114, 32, 111, 110, 101] pa pn pc W (B1.out.trans (hb.mono B1.out.size))
  have SN : Hid (∀ W, Below w1.heap.size w1 W → _) := fun W hb => SG.out 0 0 byv [97, 110, 111, 116, 104, 101, 114, 32, 111, 110, 101] sg na nn nc W (B1.out.trans (hb.mono B1.out.size))
  obtain ⟨d0, d1, d2, d3, d4, d5⟩ := CH.out w4 b4.out
  clear g6 g7
  go_wp2_with fail
  clear hW6 hW7 hW8 f6 f7 m6 m7 d0 d1 d2 d3 d4 d5
  refine wp_region_held_drew (S := fun w' => Below W8.heap.size W8 w') (by kernel_rfl) ((Below.refl _ _).drew) (fun hHeld => ?_)
  refine takeH (i := 0) 0x16 (v := .bool true) rfl rfl (by kernel_rfl) (by kernel_rfl) (by kernel_rfl) (fun _ _ _ h => h) (Or.inl ⟨by rfl, ?_⟩) (by assumption) ?_
  · intro w' hSw'
    go_simp
  simp only [Act.put, List.setIfInBounds_toArray, List.set_cons_zero, List.set_cons_succ]
  refine takeH (i := 1) 23 (v := .bool true) rfl rfl (by kernel_rfl) (by kernel_rfl) (by kernel_rfl) (fun _ _ _ h => h) (Or.inl ⟨by rfl, ?_⟩) (by assumption) ?_
  · intro w' hSw'
    go_simp
  simp only [Act.put, List.setIfInBounds_toArray, List.set_cons_zero, List.set_cons_succ]
  refine takeH (i := 2) 24 (v := .string ⟨MK.toArray⟩) rfl rfl (by kernel_rfl) (by kernel_rfl) (by kernel_rfl) (fun _ _ _ h => h) (Or.inl ⟨by rfl, ?_⟩) (by assumption) ?_
  · intro w' hSw'
    go_simp
  simp only [Act.put, List.setIfInBounds_toArray, List.set_cons_zero, List.set_cons_succ]
  refine takeH (i := 3) 25 (v := .int .i64 32) rfl rfl (by kernel_rfl) (by kernel_rfl) (by kernel_rfl) (fun _ _ _ h => h) (Or.inl ⟨by rfl, ?_⟩) (by assumption) ?_
  · intro w' hSw'
    have hml := ML.out
    go_simp
    all_goals (first | simp [hml] | simp_all)
  simp only [Act.put, List.setIfInBounds_toArray, List.set_cons_zero, List.set_cons_succ]
  refine takeH (i := 4) 26 (v := .bool true) rfl rfl (by kernel_rfl) (by kernel_rfl) (by kernel_rfl) (fun _ _ _ h => h) (Or.inl ⟨by rfl, ?_⟩) (by assumption) ?_
  · intro w' hSw'
    go_simp
    all_goals (first | simp | simp_all)
  simp only [Act.put, List.setIfInBounds_toArray, List.set_cons_zero, List.set_cons_succ]
  refine takeH (i := 5) 27 (v := .bool true) rfl rfl (by kernel_rfl) (by kernel_rfl) (by kernel_rfl) (fun _ _ _ h => h) (Or.inl ⟨by rfl, ?_⟩) (by assumption) ?_
  · intro w' hSw'
    go_simp
  simp only [Act.put, List.setIfInBounds_toArray, List.set_cons_zero, List.set_cons_succ]
  refine takeH (i := 6) 28 (v := .bool true) rfl rfl (by kernel_rfl) (by kernel_rfl) (by kernel_rfl) (fun _ _ _ h => h) (Or.inl ⟨by rfl, ?_⟩) (by assumption) ?_
  · intro w' hSw'
    go_simp
  simp only [Act.put, List.setIfInBounds_toArray, List.set_cons_zero, List.set_cons_succ]
  refine takeH (i := 7) 29 (v := .agg #[.int .i64 i, .int .i64 s, .int .i64 q, .string ⟨nm.toArray⟩, .string ⟨key.toArray⟩]) rfl rfl (by kernel_rfl) (by kernel_rfl) (by kernel_rfl) (fun _ _ _ h => h) (Or.inl ⟨by rfl, ?_⟩) (by assumption) ?_
  · intro w' hSw'
    obtain ⟨d0, d1, d2, d3, d4⟩ := CT.out w' (UW.out w' hSw')
    go_simp
  simp only [Act.put, List.setIfInBounds_toArray, List.set_cons_zero, List.set_cons_succ]
  refine takeH (i := 9) 31 (v := .agg #[.int .i64 sz, .string ⟨rt.toArray⟩, .int .i64 tk, .int .i64 ep, .slice pa pn pc, .string ⟨#[97, 110, 111, 116, 104, 101, 114, 32, 111, 110, 101]⟩]) rfl rfl (by kernel_rfl) (by kernel_rfl) (by kernel_rfl) (fun _ _ _ h => h) (Or.inl ⟨by rfl, ?_⟩) (by assumption) ?_
  · intro w' hSw'
    obtain ⟨k0, k1, k2, k3, k4, k5⟩ := CK.out w' hSw'
    go_simp
  simp only [Act.put, List.setIfInBounds_toArray, List.set_cons_zero, List.set_cons_succ]
  refine takeH (i := 12) 34 (v := .string ⟨MK.toArray⟩) rfl rfl (by kernel_rfl) (by kernel_rfl) (by kernel_rfl) (fun _ _ _ h => h) (Or.inl ⟨by rfl, ?_⟩) (by assumption) ?_
  · intro w' hSw'
    go_simp
  simp only [Act.put, List.setIfInBounds_toArray, List.set_cons_zero, List.set_cons_succ]
  refine wpAnyH_ready (rs := [8]) (by kernel_rfl) (by simp) ?_
  refine AllReadyH.cons rfl (fun K hK => ?_) AllReadyH.nil
  go_simp
  refine (TR.out _).mono ?_
  rintro e w10 ⟨rfl, hb10⟩
  have b10 : Hid (Below W8.heap.size W8 w10) := ((Below.refl W8.heap.size W8).drew).trans (hb10.mono ((Below.refl W8.heap.size W8).drew).size)
  clear hb10
  go_wp2_with fail
  refine hK.out _ _ (b10.out) (fun hHeld1 => ?_)
  clear hK K
  refine wpAnyH_ready (rs := [10]) (by kernel_rfl) (by simp) ?_
  refine AllReadyH.cons rfl (fun K hK => ?_) AllReadyH.nil
  go_simp
  refine (HK.out _).mono ?_
  rintro e w11 ⟨rfl, hb11⟩
  have b11 : Hid (Below W8.heap.size W8 w11) := b10.out.trans (hb11.mono b10.out.size)
  clear hb11
  go_wp2_with fail
  refine hK.out _ _ (b11.out) (fun hHeld2 => ?_)
  clear hK K
  refine wpAnyH_ready (rs := [11]) (by kernel_rfl) (by simp) ?_
  refine AllReadyH.cons rfl (fun K hK => ?_) AllReadyH.nil
  go_simp
  refine ((SK.out _ (UW.out _ b11.out))).mono ?_
  rintro e w12 ⟨rfl, hb12⟩
  have b12 : Hid (Below W8.heap.size W8 w12) := b11.out.trans (hb12.mono b11.out.size)
  clear hb12
  go_wp2_with fail
  refine hK.out _ _ (b12.out) (fun hHeld3 => ?_)
  clear hK K
  refine takeH (i := 13) 35 (v := .bool true) rfl rfl (by kernel_rfl) (by kernel_rfl) (by kernel_rfl) (fun _ _ _ h => h) (Or.inl ⟨by rfl, ?_⟩) (by assumption) ?_
  · intro w' hSw'
    go_simp
    all_goals (first | simp | simp_all)
  simp only [Act.put, List.setIfInBounds_toArray, List.set_cons_zero, List.set_cons_succ]
  refine takeH (i := 14) 36 (v := .bool true) rfl rfl (by kernel_rfl) (by kernel_rfl) (by kernel_rfl) (fun _ _ _ h => h) (Or.inl ⟨by rfl, ?_⟩) (by assumption) ?_
  · intro w' hSw'
    go_simp
  simp only [Act.put, List.setIfInBounds_toArray, List.set_cons_zero, List.set_cons_succ]
  refine takeH (i := 15) 37 (v := .bool true) rfl rfl (by kernel_rfl) (by kernel_rfl) (by kernel_rfl) (fun _ _ _ h => h) (Or.inl ⟨by rfl, ?_⟩) (by assumption) ?_
  · intro w' hSw'
    go_simp
  simp only [Act.put, List.setIfInBounds_toArray, List.set_cons_zero, List.set_cons_succ]
  refine takeH (i := 16) 38 (v := .pointer (some ⟨w.heap.size, 0, none⟩)) rfl rfl (by kernel_rfl) (by kernel_rfl) (by kernel_rfl) (fun _ _ _ h => h) (Or.inl ⟨by rfl, ?_⟩) (by assumption) ?_
  · intro w' hSw'
    go_simp
  simp only [Act.put, List.setIfInBounds_toArray, List.set_cons_zero, List.set_cons_succ]
  refine takeH (i := 17) 39 (v := .int .i64 i) rfl rfl (by kernel_rfl) (by kernel_rfl) (by kernel_rfl) (fun _ _ _ h => h) (Or.inl ⟨by rfl, ?_⟩) (by assumption) ?_
  · intro w' hSw'
    obtain ⟨d0, d1, d2, d3, d4⟩ := CT.out w' (UW.out w' hSw')
    go_simp
  simp only [Act.put, List.setIfInBounds_toArray, List.set_cons_zero, List.set_cons_succ]
  refine takeH (i := 18) 40 (v := .pointer (some ⟨w.heap.size, 4, none⟩)) rfl rfl (by kernel_rfl) (by kernel_rfl) (by kernel_rfl) (fun _ _ _ h => h) (Or.inl ⟨by rfl, ?_⟩) (by assumption) ?_
  · intro w' hSw'
    go_simp
  simp only [Act.put, List.setIfInBounds_toArray, List.set_cons_zero, List.set_cons_succ]
  refine takeH (i := 19) 41 (v := .string ⟨key.toArray⟩) rfl rfl (by kernel_rfl) (by kernel_rfl) (by kernel_rfl) (fun _ _ _ h => h) (Or.inl ⟨by rfl, ?_⟩) (by assumption) ?_
  · intro w' hSw'
    obtain ⟨d0, d1, d2, d3, d4⟩ := CT.out w' (UW.out w' hSw')
    go_simp
  simp only [Act.put, List.setIfInBounds_toArray, List.set_cons_zero, List.set_cons_succ]
  refine takeH (i := 20) 42 (v := .int .i64 byv) rfl rfl (by kernel_rfl) (by kernel_rfl) (by kernel_rfl) (fun _ _ _ h => h) (Or.inl ⟨by rfl, ?_⟩) (by assumption) ?_
  · intro w' hSw'
    go_simp
  simp only [Act.put, List.setIfInBounds_toArray, List.set_cons_zero, List.set_cons_succ]
  refine takeH (i := 21) 43 (v := .agg #[.int .i64 i, .int .i64 0, .int .i64 byv, .string ⟨#[97, 110, 111, 116, 104, 101, 114, 32, 111, 110, 101]⟩, .string ⟨key.toArray⟩]) rfl rfl (by kernel_rfl) (by kernel_rfl) (by kernel_rfl) (fun _ _ _ h => h) (Or.inl ⟨by rfl, ?_⟩) (by assumption) ?_
  · intro w' hSw'
    go_simp
  simp only [Act.put, List.setIfInBounds_toArray, List.set_cons_zero, List.set_cons_succ]
  refine takeH (i := 0x16) 44 (v := .agg #[.int .i64 sz, .string ⟨rt.toArray⟩, .int .i64 tk, .int .i64 ep, .slice na nn nc, .string ⟨sg.toArray⟩]) rfl rfl (by kernel_rfl) (by kernel_rfl) (by kernel_rfl) (fun _ _ _ h => h) (Or.inl ⟨by rfl, ?_⟩) (by assumption) ?_
  · intro w' hSw'
    obtain ⟨d0, d1, d2, d3, d4, d5⟩ := CH.out w' (UW.out w' hSw')
    go_simp
  simp only [Act.put, List.setIfInBounds_toArray, List.set_cons_zero, List.set_cons_succ]
  refine takeH (i := 25) 47 (v := .string ⟨MK.toArray⟩) rfl rfl (by kernel_rfl) (by kernel_rfl) (by kernel_rfl) (fun _ _ _ h => h) (Or.inl ⟨by rfl, ?_⟩) (by assumption) ?_
  · intro w' hSw'
    go_simp
  simp only [Act.put, List.setIfInBounds_toArray, List.set_cons_zero, List.set_cons_succ]
  refine wpAnyH_ready (rs := [23]) (by kernel_rfl) (by simp) ?_
  refine AllReadyH.cons rfl (fun K hK => ?_) AllReadyH.nil
  go_simp
  refine (HD.out _).mono ?_
  rintro e w13 ⟨rfl, hb13⟩
  have b13 : Hid (Below W8.heap.size W8 w13) := b12.out.trans (hb13.mono b12.out.size)
  clear hb13
  go_wp2_with fail
  refine hK.out _ _ (b13.out) (fun hHeld4 => ?_)
  clear hK K
  refine wpAnyH_ready (rs := [24]) (by kernel_rfl) (by simp) ?_
  refine AllReadyH.cons rfl (fun K hK => ?_) AllReadyH.nil
  go_simp
  refine ((SN.out _ (UW.out _ b13.out))).mono ?_
  rintro e w14 ⟨rfl, hb14⟩
  have b14 : Hid (Below W8.heap.size W8 w14) := b13.out.trans (hb14.mono b13.out.size)
  clear hb14
  go_wp2_with fail
  refine hK.out _ _ (b14.out) (fun hHeld5 => ?_)
  clear hK K
  refine takeH (i := 26) 48 (v := .bool true) rfl rfl (by kernel_rfl) (by kernel_rfl) (by kernel_rfl) (fun _ _ _ h => h) (Or.inl ⟨by rfl, ?_⟩) (by assumption) ?_
  · intro w' hSw'
    go_simp
    all_goals (first | simp | simp_all)
  simp only [Act.put, List.setIfInBounds_toArray, List.set_cons_zero, List.set_cons_succ]
  refine takeH (i := 27) 49 (v := .bool true) rfl rfl (by kernel_rfl) (by kernel_rfl) (by kernel_rfl) (fun _ _ _ h => h) (Or.inl ⟨by rfl, ?_⟩) (by assumption) ?_
  · intro w' hSw'
    go_simp
  simp only [Act.put, List.setIfInBounds_toArray, List.set_cons_zero, List.set_cons_succ]
  refine takeH (i := 28) 8 (v := .bool true) rfl rfl (by kernel_rfl) (by kernel_rfl) (by kernel_rfl) (fun _ _ _ h => h) (Or.inl ⟨by rfl, ?_⟩) (by assumption) ?_
  · intro w' hSw'
    go_simp
  simp only [Act.put, List.setIfInBounds_toArray, List.set_cons_zero, List.set_cons_succ]
  refine wpAnyH_done (by kernel_rfl) ?_ _
  have B9 := keep (B0.out.trans ((UW.out _ b14.out).mono B0.out.size))
  go_wp2
  go_ret
  exact ⟨rfl, B9.out⟩
end Go.Proofs.YtogphpejdnhnjaaGreatDoor
