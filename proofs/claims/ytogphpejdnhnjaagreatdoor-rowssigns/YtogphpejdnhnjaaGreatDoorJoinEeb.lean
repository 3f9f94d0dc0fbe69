/- What rows' Sign is to be walked with: a source of bytes as package sha's; the length of four numbers; no walk. -/
/- The walks of rows' Sign, of the law's tree and head. -/
import Derived.Test.YtogphpejdnhnjaaGreatDoorJoinEcm
import Derived.Test.YtogphpejdnhnjaaGreatDoorTx
import Derived.Test.YtogphpejdnhnjaaGreatDoorJoinSxH
import Derived.Test.YtogphpejdnhnjaaGreatDoorJoinHk
namespace Go.Proofs.YtogphpejdnhnjaaGreatDoor
open Go.RowKit Go.Maps

theorem Src.sha {w : World} {ao : Option Addr} {m c : Nat} {l : List UInt8} (h : Src w ao m c l) : Sha.Src w ao m c l := ⟨h.len, h.cap, h.nil, h.cells⟩
theorem Shat.below {w w' : World} {n : Nat} (ht : Sha.Tab w) (hf : Sha.Fst w) (hb : Below n w w') (hn : n = w.heap.size) : Sha.Tab w' ∧ Sha.Fst w' := by
  subst hn
  exact ⟨ht.below hb, hf.below hb⟩
theorem numsB4 (a b c d : Int) : (numsB [a, b, c, d]).length ≤ 36 := by
  unfold numsB
  have h1 := num9 a
  have h2 := num9 b
  have h3 := num9 c
  have h4 := num9 d
  simp only [List.flatMap_cons, List.flatMap_nil, List.length_append, List.length_nil]
  omega
end Go.Proofs.YtogphpejdnhnjaaGreatDoor
namespace Go.Proofs.YtogphpejdnhnjaaGreatDoor
open Go.RowKit Go.Maps

/-- What is signed. -/
def signedB (i sz tk ep : Int) (rt : List UInt8) : List UInt8 := numsB [i, sz, tk, ep] ++ (num rt.length ++ rt)
set_option maxHeartbeats 4000000 in
set_option maxRecDepth 100000 in
theorem sign_any (i s q : Int) (nm key : List UInt8) (sz tk ep : Int) (rt sg : List UInt8) (na : Option Addr) (nn nc : Nat) (w : World) (hT : Sha.Tab w) (hF : Sha.Fst w) (hk : key.length ≤ 140737488351232) (hr : rt.length ≤ 140737488351232) :
    Calls Tryz.prog 5 #[.agg #[.int .i64 i, .int .i64 s, .int .i64 q, .string ⟨nm.toArray⟩, .string ⟨key.toArray⟩], .agg #[.int .i64 sz, .string ⟨rt.toArray⟩, .int .i64 tk, .int .i64 ep, .slice na nn nc, .string ⟨sg.toArray⟩]] w fun e w' => e = .returned (.string ⟨(Sha.mac key (signedB i sz tk ep rt)).toArray⟩) ∧ Below w.heap.size w w' := by
  obtain ⟨W1, hW1⟩ : ∃ W1, w.alloc (.cells #[.int .i64 i, .int .i64 s, .int .i64 q, .string ⟨nm.toArray⟩, .string ⟨key.toArray⟩] 29) = W1 := ⟨_, rfl⟩
  have b1 : Hid (Below w.heap.size w W1) := by rw [← hW1]; exact (Below.refl _ _).alloc (Nat.le_refl _) _
  have s1 : W1.heap.size = w.heap.size + 1 := by rw [← hW1]; simp
  have g1 : Hid (W1.heap[w.heap.size]? = some (.cells #[.int .i64 i, .int .i64 s, .int .i64 q, .string ⟨nm.toArray⟩, .string ⟨key.toArray⟩] 29)) := by rw [← hW1]; exact heap_alloc_new w _
  obtain ⟨W2, hW2⟩ : ∃ W2, W1.alloc (.cells #[.int .i64 sz, .string ⟨rt.toArray⟩, .int .i64 tk, .int .i64 ep, .slice na nn nc, .string ⟨sg.toArray⟩] 31) = W2 := ⟨_, rfl⟩
  have b2 : Hid (Below w.heap.size w W2) := by rw [← hW2]; exact b1.out.alloc b1.out.size _
  have g2 : Hid (W2.heap[w.heap.size]? = some (.cells #[.int .i64 i, .int .i64 s, .int .i64 q, .string ⟨nm.toArray⟩, .string ⟨key.toArray⟩] 29)) := by rw [← hW2]; exact (Below.heap_alloc _ _ _ (Array.getElem?_eq_some_iff.1 g1.out).1).trans g1.out
  have h2 : Hid (W2.heap[w.heap.size + 1]? = some (.cells #[.int .i64 sz, .string ⟨rt.toArray⟩, .int .i64 tk, .int .i64 ep, .slice na nn nc, .string ⟨sg.toArray⟩] 31)) := by rw [← hW2, ← s1]; exact heap_alloc_new W1 _
  have CT : Hid (∀ w', Below W2.heap.size W2 w' → w'.cell? ⟨w.heap.size, 0, none⟩ = some (.int .i64 i) ∧ w'.cell? ⟨w.heap.size, 1, none⟩ = some (.int .i64 s) ∧ w'.cell? ⟨w.heap.size, 2, none⟩ = some (.int .i64 q) ∧ w'.cell? ⟨w.heap.size, 3, none⟩ = some (.string ⟨nm.toArray⟩) ∧ w'.cell? ⟨w.heap.size, 4, none⟩ = some (.string ⟨key.toArray⟩)) := fun w' hb => ⟨below_cell hb (cell_of_row _ _ _ _ _ _ g2.out), below_cell hb (cell_of_row _ _ _ _ _ _ g2.out), below_cell hb (cell_of_row _ _ _ _ _ _ g2.out), below_cell hb (cell_of_row _ _ _ _ _ _ g2.out), below_cell hb (cell_of_row _ _ _ _ _ _ g2.out)⟩
  have CH : Hid (∀ w', Below W2.heap.size W2 w' → w'.cell? ⟨w.heap.size + 1, 0, none⟩ = some (.int .i64 sz) ∧ w'.cell? ⟨w.heap.size + 1, 1, none⟩ = some (.string ⟨rt.toArray⟩) ∧ w'.cell? ⟨w.heap.size + 1, 2, none⟩ = some (.int .i64 tk) ∧ w'.cell? ⟨w.heap.size + 1, 3, none⟩ = some (.int .i64 ep) ∧ w'.cell? ⟨w.heap.size + 1, 4, none⟩ = some (.slice na nn nc) ∧ w'.cell? ⟨w.heap.size + 1, 5, none⟩ = some (.string ⟨sg.toArray⟩)) := fun w' hb => ⟨below_cell hb (cell_of_row _ _ _ _ _ _ h2.out), below_cell hb (cell_of_row _ _ _ _ _ _ h2.out), below_cell hb (cell_of_row _ _ _ _ _ _ h2.out), below_cell hb (cell_of_row _ _ _ _ _ _ h2.out), below_cell hb (cell_of_row _ _ _ _ _ _ h2.out), below_cell hb (cell_of_row _ _ _ _ _ _ h2.out)⟩
  have NB := keep (numBytes_any (some ⟨W2.heap.size, 0, none⟩) 4 4 [i, sz, tk, ep] _ (nsrc_new W2.drew [i, sz, tk, ep] 3) (by omega))
  have b3 : Hid (Below W2.heap.size W2 (W2.drew.alloc (.cells ([i, sz, tk, ep].map (Value.int .i64)).toArray 3))) := ((Below.refl W2.heap.size W2).drew).alloc (Nat.le_refl _) _
  have H4 := numsB4 i sz tk ep
  have SG : Hid (signedB i sz tk ep rt = numsB [i, sz, tk, ep] ++ (num rt.length ++ rt)) := rfl
  obtain ⟨L, hL⟩ : ∃ L, numsB [i, sz, tk, ep] = L := ⟨_, rfl⟩
  rw [hL] at NB H4 SG
  have n9 := num_le' rt.length (by omega)
  have HT := keep hT
  have HF := keep hF
  clear hT hF hL
  go_enter Tryz.func5, Tryz.ntmps5
  go_wp2_with fail
  clear hW1 hW2
  refine wp_region_held_drew (S := fun w' => Below W2.heap.size W2 w') (by kernel_rfl) ((Below.refl _ _).drew) (fun hHeld => ?_)
  refine takeH (i := 0) 6 (v := .pointer (some ⟨w.heap.size, 0, none⟩)) rfl rfl (by kernel_rfl) (by kernel_rfl) (by kernel_rfl) (fun _ _ _ h => h) (Or.inl ⟨by rfl, ?_⟩) (by assumption) ?_
  · intro w' hSw'
    go_simp
  simp only [Act.put, List.setIfInBounds_toArray, List.set_cons_zero, List.set_cons_succ]
  refine takeH (i := 1) 7 (v := .int .i64 i) rfl rfl (by kernel_rfl) (by kernel_rfl) (by kernel_rfl) (fun _ _ _ h => h) (Or.inl ⟨by rfl, ?_⟩) (by assumption) ?_
  · intro w' hSw'
    obtain ⟨d0, d1, d2, d3, d4⟩ := CT.out w' hSw'
    go_simp
  simp only [Act.put, List.setIfInBounds_toArray, List.set_cons_zero, List.set_cons_succ]
  refine takeH (i := 2) 8 (v := .pointer (some ⟨w.heap.size + 1, 0, none⟩)) rfl rfl (by kernel_rfl) (by kernel_rfl) (by kernel_rfl) (fun _ _ _ h => h) (Or.inl ⟨by rfl, ?_⟩) (by assumption) ?_
  · intro w' hSw'
    go_simp
  simp only [Act.put, List.setIfInBounds_toArray, List.set_cons_zero, List.set_cons_succ]
  refine takeH (i := 3) 9 (v := .int .i64 sz) rfl rfl (by kernel_rfl) (by kernel_rfl) (by kernel_rfl) (fun _ _ _ h => h) (Or.inl ⟨by rfl, ?_⟩) (by assumption) ?_
  · intro w' hSw'
    obtain ⟨d0, d1, d2, d3, d4, d5⟩ := CH.out w' hSw'
    go_simp
  simp only [Act.put, List.setIfInBounds_toArray, List.set_cons_zero, List.set_cons_succ]
  refine takeH (i := 4) 10 (v := .pointer (some ⟨w.heap.size + 1, 2, none⟩)) rfl rfl (by kernel_rfl) (by kernel_rfl) (by kernel_rfl) (fun _ _ _ h => h) (Or.inl ⟨by rfl, ?_⟩) (by assumption) ?_
  · intro w' hSw'
    go_simp
  simp only [Act.put, List.setIfInBounds_toArray, List.set_cons_zero, List.set_cons_succ]
  refine takeH (i := 5) 11 (v := .int .i64 tk) rfl rfl (by kernel_rfl) (by kernel_rfl) (by kernel_rfl) (fun _ _ _ h => h) (Or.inl ⟨by rfl, ?_⟩) (by assumption) ?_
  · intro w' hSw'
    obtain ⟨d0, d1, d2, d3, d4, d5⟩ := CH.out w' hSw'
    go_simp
  simp only [Act.put, List.setIfInBounds_toArray, List.set_cons_zero, List.set_cons_succ]
  refine takeH (i := 6) 12 (v := .pointer (some ⟨w.heap.size + 1, 3, none⟩)) rfl rfl (by kernel_rfl) (by kernel_rfl) (by kernel_rfl) (fun _ _ _ h => h) (Or.inl ⟨by rfl, ?_⟩) (by assumption) ?_
  · intro w' hSw'
    go_simp
  simp only [Act.put, List.setIfInBounds_toArray, List.set_cons_zero, List.set_cons_succ]
  refine takeH (i := 7) 13 (v := .int .i64 ep) rfl rfl (by kernel_rfl) (by kernel_rfl) (by kernel_rfl) (fun _ _ _ h => h) (Or.inl ⟨by rfl, ?_⟩) (by assumption) ?_
  · intro w' hSw'
    obtain ⟨d0, d1, d2, d3, d4, d5⟩ := CH.out w' hSw'
    go_simp
  simp only [Act.put, List.setIfInBounds_toArray, List.set_cons_zero, List.set_cons_succ]
  refine takeH (i := 10) 16 (v := .pointer (some ⟨w.heap.size + 1, 1, none⟩)) rfl rfl (by kernel_rfl) (by kernel_rfl) (by kernel_rfl) (fun _ _ _ h => h) (Or.inl ⟨by rfl, ?_⟩) (by assumption) ?_
  · intro w' hSw'
    go_simp
  simp only [Act.put, List.setIfInBounds_toArray, List.set_cons_zero, List.set_cons_succ]
  refine takeH (i := 11) 17 (v := .string ⟨rt.toArray⟩) rfl rfl (by kernel_rfl) (by kernel_rfl) (by kernel_rfl) (fun _ _ _ h => h) (Or.inl ⟨by rfl, ?_⟩) (by assumption) ?_
  · intro w' hSw'
    obtain ⟨d0, d1, d2, d3, d4, d5⟩ := CH.out w' hSw'
    go_simp
  simp only [Act.put, List.setIfInBounds_toArray, List.set_cons_zero, List.set_cons_succ]
  refine wpAnyH_ready (rs := [8]) (by kernel_rfl) (by simp) ?_
  refine AllReadyH.cons rfl (fun K hK => ?_) AllReadyH.nil
  go_simp
  refine hK.out _ _ (((Below.refl _ _).alloc (Nat.le_refl _) _).drew) (fun hHeld1 => ?_)
  clear hK K
  refine wpAnyH_ready (rs := [9]) (by kernel_rfl) (by simp) ?_
  refine AllReadyH.cons rfl (fun K hK => ?_) AllReadyH.nil
  go_simp
  refine (NB.out).mono ?_
  rintro e w3 ⟨v3, rfl, hn3⟩
  obtain ⟨p3, c3, rfl, hs3, _⟩ := hn3.src
  have b3' : Hid (Below W2.heap.size W2 w3) := b3.out.trans (hn3.2.mono b3.out.size)
  have PT := keep (putText_any p3 L.length c3 L ⟨rt.toArray⟩ rt.length rt w3 rfl rfl (by omega) hs3)
  clear hn3 hs3
  go_wp2_with fail
  refine hK.out _ _ (b3'.out) (fun hHeld2 => ?_)
  clear hK K
  refine wpAnyH_ready (rs := [12]) (by kernel_rfl) (by simp) ?_
  refine AllReadyH.cons rfl (fun K hK => ?_) AllReadyH.nil
  go_simp
  refine (PT.out).mono ?_
  rintro e w4 ⟨v4, rfl, hn4⟩
  obtain ⟨p4, c4, rfl, hs4, hc4⟩ := hn4.src
  have b4 : Hid (Below W2.heap.size W2 w4) := b3'.out.trans (hn4.2.mono b3'.out.size)
  have S4 := keep hs4
  clear hn4 hs4
  go_wp2_with fail
  refine hK.out _ _ (b4.out) (fun hHeld3 => ?_)
  clear hK K
  refine takeH (i := 13) 5 (v := .slice p4 (L.length + ((num rt.length).length + rt.length)) c4) rfl rfl (by kernel_rfl) (by kernel_rfl) (by kernel_rfl) (fun _ _ _ h => h) (Or.inl ⟨by rfl, ?_⟩) (by assumption) ?_
  · intro w' hSw'
    go_simp
  simp only [Act.put, List.setIfInBounds_toArray, List.set_cons_zero, List.set_cons_succ]
  refine wpAnyH_done (by kernel_rfl) ?_ _
  obtain ⟨K, hK⟩ : ∃ K, key.length = K := ⟨_, rfl⟩
  obtain ⟨M, hM⟩ : ∃ M, L.length + ((num rt.length).length + rt.length) = M := ⟨_, rfl⟩
  have MB : Hid (M ≤ 140737488355200) := by show _ ≤ _; omega
  have KB : Hid (K ≤ 140737488351232) := by show _ ≤ _; omega
  rw [hM] at S4 ⊢
  obtain ⟨d0, d1, d2, d3, d4⟩ := CT.out w4 b4.out
  have v5 := conv_str key K hK w4
  obtain ⟨W5, hW5⟩ : ∃ W5, Lib.bytesWorld w4 5 ⟨key.toArray⟩ = W5 := ⟨_, rfl⟩
  rw [hW5] at v5
  have b5 : Hid (Below w4.heap.size w4 W5) := by rw [← hW5]; exact below_bytesWorld _ _
  have x5 : Hid (Src W5 (some ⟨w4.heap.size, 0, none⟩) K (grownCap w4 K 0 5) key) := by rw [← hW5]; exact Src.converted w4 key K hK
  have gc : Hid (grownCap w4 K 0 5 ≤ maxLen) := grownCap_le_maxLen _ _ _ _ (by have := KB.out; unfold maxLen; omega)
  obtain ⟨C5, hC5⟩ : ∃ C, grownCap w4 K 0 5 = C := ⟨_, rfl⟩
  rw [hC5] at v5 x5 gc
  have B5 : Hid (Below w.heap.size w W5) := b2.out.trans ((b4.out.trans (b5.out.mono b4.out.size)).mono b2.out.size)
  have SH := keep (Shat.below HT.out HF.out B5.out rfl)
  have MC := keep (Sha.mac_any _ K C5 key p4 M c4 (signedB i sz tk ep rt) W5 (by have := KB.out; omega) gc.out MB.out SH.out.1 SH.out.2 (Src.sha x5.out) (Src.sha (by rw [SG.out]; exact S4.out.below b5.out)))
  clear hK hM hW5 hC5
  go_wp2_with fail
  refine MC.out.mono ?_
  rintro e w6 ⟨rfl, hb6⟩
  have B6 := keep (B5.out.trans (hb6.mono B5.out.size))
  clear hb6
  go_wp2
  go_ret
  exact ⟨rfl, B6.out⟩
theorem results_cellE {fn : Func} {p : Tmp} {ty : TypeId} (h : fn.results = #[.cell p ty]) (tmps : Array Value) (P : Program) (w : World) :
    (results fn tmps).run P w = ((asAddr (tmps.getD p undef)).run P w).andThen fun a w₁ => (loadVar ty a).run P w₁ := by
  simp only [results, h]
  simp [Sem.run_bind, Result.andThen]
set_option maxHeartbeats 1000000 in
set_option maxRecDepth 100000 in
theorem tree18_any (i s q : Int) (nm key : List UInt8) (w : World) :
    Calls Tryz.prog 6 #[.agg #[.int .i64 i, .int .i64 s, .int .i64 q, .string ⟨nm.toArray⟩, .string ⟨key.toArray⟩]] w fun e w' => e = .returned (.agg #[.int .i64 i, .int .i64 s, .int .i64 q, .string ⟨nm.toArray⟩, .string ⟨key.toArray⟩]) ∧ Below w.heap.size w w' := by
  go_enter Tryz.func6, Tryz.ntmps6
  go_wp2
  refine ⟨rfl, .agg #[.int .i64 i, .int .i64 s, .int .i64 q, .string ⟨nm.toArray⟩, .string ⟨key.toArray⟩], ?_, rfl, ?_⟩
  · rw [results_cellE (p := 2) (ty := 29) rfl]
    go_simp
  · exact ((Below.refl _ _).alloc (Nat.le_refl _) _).alloc (le_alloc (Nat.le_refl _) _) _
set_option maxHeartbeats 1000000 in
set_option maxRecDepth 100000 in
theorem head18_any (sz tk ep : Int) (rt sg : List UInt8) (na : Option Addr) (nn nc : Nat) (w : World) :
    Calls Tryz.prog 7 #[.agg #[.int .i64 sz, .string ⟨rt.toArray⟩, .int .i64 tk, .int .i64 ep, .slice na nn nc, .string ⟨sg.toArray⟩]] w fun e w' => e = .returned (.agg #[.int .i64 sz, .string ⟨rt.toArray⟩, .int .i64 tk, .int .i64 ep, .slice na nn nc, .string ⟨sg.toArray⟩]) ∧ Below w.heap.size w w' := by
  go_enter Tryz.func7, Tryz.ntmps7
  go_wp2
  refine ⟨rfl, .agg #[.int .i64 sz, .string ⟨rt.toArray⟩, .int .i64 tk, .int .i64 ep, .slice na nn nc, .string ⟨sg.toArray⟩], ?_, rfl, ?_⟩
  · rw [results_cellE (p := 2) (ty := 31) rfl]
    go_simp
  · exact ((Below.refl _ _).alloc (Nat.le_refl _) _).alloc (le_alloc (Nat.le_refl _) _) _
end Go.Proofs.YtogphpejdnhnjaaGreatDoor
