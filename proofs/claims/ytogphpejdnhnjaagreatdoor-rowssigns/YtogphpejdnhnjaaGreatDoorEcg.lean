/- The walks of txn's hasRoom, write, Put. -/
import Derived.Test.YtogphpejdnhnjaaGreatDoorJoinEcf
import Derived.Test.YtogphpejdnhnjaaGreatDoorJoinXn
namespace Go.Proofs.YtogphpejdnhnjaaGreatDoor
open Go.RowKit Go.Maps

theorem writes_len {w : World} {wm : Nat} {l : List Named} (h : MapIs Tryz.prog 9 w wm l) (ty : TypeId) : (Builtin.len_ #[208] ty #[.map (some wm)]).run Tryz.prog w = .ok (.int .i64 (l.length : Int)) w := by
  have := h.2.len Tryz.underlying208 ty
  rw [told_size] at this
  exact this
theorem Src.mapped {w w' : World} {m : Nat} {p : Option Addr} {n c : Nat} {q : List UInt8} (hs : Src w p n c q) (hk : Kept (At m) w w') (hm : ∀ c t f, w.heap[m]? ≠ some (.cells c t f)) : Src w' p n c q := by
  refine ⟨hs.len, hs.cap, hs.nil, fun ad had j u hu => ?_⟩
  have hc := hs.cells ad had j u hu
  rw [hk.cell (World.block_lt_of_cell? w _ hc) (fun e => ?_)]
  · exact hc
  · have e2 : (ad.add j).block = m := e
    unfold World.cell? at hc
    rw [e2] at hc
    cases hx : w.heap[m]? with
    | none => rw [hx] at hc; cases hc
    | some o =>
      cases o with
      | cells c t f => exact hm c t f hx
      | _ => rw [hx] at hc; cases hc
theorem lay_len (l : List Named) (n : List UInt8) (v : Value) : (lay l n v).length ≤ l.length + 1 := by
  induction l with
  | nil => simp [lay]
  | cons x t ih =>
    simp only [lay]
    split
    · simp only [List.length_cons]; omega
    · split <;> simp
set_option maxHeartbeats 1000000 in
set_option maxRecDepth 100000 in
theorem iskey_yes (kp : Option Addr) (kn kc : Nat) (w : World) (h1 : 1 ≤ kn) (h2 : kn ≤ 64) :
    Calls Tryz.prog 182 #[.slice kp kn kc] w fun e w' => e = .returned (.bool true) ∧ w' = w := by
  have e1 : (1 : Int) ≤ (kn : Int) := by omega
  have e2 : (kn : Int) ≤ 64 := by omega
  go_enter Tryz.func182, Tryz.ntmps182
  go_wp2
  go_ret
  exact ⟨rfl, rfl⟩
set_option maxHeartbeats 2000000 in
set_option maxRecDepth 100000 in
theorem room_yes (wm : Nat) (l : List Named) (kp : Option Addr) (kc : Nat) (key : List UInt8) (w : World) (h : MapIs Tryz.prog 9 w wm l) (hk : Src w kp key.length kc key) (hkl : key.length ≤ maxLen) (hv : ∀ v, seek l key = some v → ∃ val, Chg w v val) (hl : l.length < 256) :
    Calls Tryz.prog 183 #[.map (some wm), .slice kp key.length kc] w fun e w' => e = .returned (.bool true) ∧ Below w.heap.size w w' := by
  have LK := keep (writes_look h key hkl)
  have cs := conv_src hk
  have hl2 : (l.length : Int) < 256 := by omega
  cases hx : seek l key with
  | none =>
    rw [hx] at LK
    have b1 := keep ((Below.refl w.heap.size w).alloc (Nat.le_refl _) (.cells #[.slice none 0 0, .bool false, .slice none 0 0] 218))
    have LN := keep (writes_len (h.kept (World.grownBy_alloc w (.cells #[.slice none 0 0, .bool false, .slice none 0 0] 218) none) (by simp)))
    have ln := LN.out
    unfold chgZ at LK
    simp only [Option.getD_none, Option.isSome_none] at LK
    clear h hk hv LN
    go_enter Tryz.func183, Tryz.ntmps183
    go_wp2_with (first | (at_lookup; refine wpList_look rfl _ _ _ _ rfl _ _ _ rfl rfl LK.out ?_) | go_in)
    go_ret
    exact ⟨rfl, b1.out⟩
  | some v =>
    obtain ⟨val, ckp, ckn, ckc, cvp, cvc, rfl, _⟩ := hv v hx
    rw [hx] at LK
    have b1 := keep ((Below.refl w.heap.size w).alloc (Nat.le_refl _) (.cells #[.slice ckp ckn ckc, .bool false, .slice cvp val.length cvc] 218))
    simp only [Option.getD_some, Option.isSome_some] at LK
    clear h hk hv
    go_enter Tryz.func183, Tryz.ntmps183
    go_wp2_with (first | (at_lookup; refine wpList_look rfl _ _ _ _ rfl _ _ _ rfl rfl LK.out ?_) | go_in)
    go_ret
    exact ⟨rfl, b1.out⟩
set_option maxHeartbeats 8000000 in
set_option maxRecDepth 100000 in
theorem write_ok (tb eb wm gm : Nat) (seq : Int) (l : List Named) (kp : Option Addr) (kc : Nat) (key : List UInt8) (vp : Option Addr) (vc : Nat) (val : List UInt8) (w : World) (h : TxnAt w tb eb wm gm seq l) (hk : Src w kp key.length kc key) (hv : Src w vp val.length vc val) (hk1 : 1 ≤ key.length) (hk2 : key.length ≤ 64) (hv2 : val.length ≤ 1024) (hx : ∀ v, seek l key = some v → ∃ val, Chg w v val) (hl : l.length < 256) :
    Calls Tryz.prog 117 #[.pointer (some ⟨tb, 0, none⟩), .agg #[.slice kp key.length kc, .bool false, .slice vp val.length vc]] w fun e w' => e = .returned (.int .i64 0) ∧ ∃ v', TxnAt w' tb eb wm gm seq (lay l key v') ∧ Chg w' v' val ∧ Kept (At wm) w w' := by
  obtain ⟨W1, hW1⟩ : ∃ W1, w.alloc (.cells #[.slice kp key.length kc, .bool false, .slice vp val.length vc] 218) = W1 := ⟨_, rfl⟩
  obtain ⟨cb, hcb⟩ : ∃ cb, w.heap.size = cb := ⟨_, rfl⟩
  have b1 : Hid (Below w.heap.size w W1) := by rw [← hW1]; exact (Below.refl _ _).alloc (Nat.le_refl _) _
  have g1 : Hid (W1.heap[cb]? = some (.cells #[.slice kp key.length kc, .bool false, .slice vp val.length vc] 218)) := by rw [← hW1, ← hcb]; exact heap_alloc_new w _
  have s1 : Hid (cb < W1.heap.size) := by rw [← hW1, ← hcb]; simp; trivial
  have HCB := keep hcb
  have H1 := keep (h.below b1.out)
  have HK1 := keep (hk.below b1.out)
  have HV1 := keep (hv.below b1.out)
  have HX := keep hx
  have HL := keep hl
  have hkm : Hid (key.length ≤ maxLen) := by show _ ≤ _; unfold maxLen; omega
  have nv : ¬ (1024 : Int) < (val.length : Int) := by omega
  have HN := keep h
  have CX : Hid (∀ w', Below w.heap.size w w' → ∀ v, seek l key = some v → ∃ val, Chg w' v val) := by
    intro w' hb v hs
    obtain ⟨val, hc⟩ := hx v hs
    exact ⟨val, hc.kept (Kept.of_below hb) h.nocell⟩
  have hkB : key.length ≤ 64 := hk2
  have IK := keep (fun w' => iskey_yes kp key.length kc w' hk1 hk2)
  have RY := keep (fun w' hb => room_yes wm l kp kc key w' (H1.out.below hb).map (HK1.out.below hb) hkm.out (CX.out w' (b1.out.trans (hb.mono b1.out.size))) hl)
  clear h hk hv hx hk1 hk2 hl
  go_enter Tryz.func117, Tryz.ntmps117
  go_wp2_with fail
  clear hW1 hcb
  refine (tready tb eb wm gm seq l W1 H1.out).mono ?_
  rintro e w1 ⟨rfl, rfl⟩
  go_wp2_with fail
  refine wp_region_held_drew (S := fun w' => Below w1.heap.size w1 w') (by kernel_rfl) ((Below.refl _ _).drew) (fun hHeld => ?_)
  refine takeH (i := 0) 11 (v := .pointer (some ⟨cb, 0, none⟩)) rfl rfl (by kernel_rfl) (by kernel_rfl) (by kernel_rfl) (fun _ _ _ h => h) (Or.inl ⟨by rfl, ?_⟩) (by assumption) ?_
  · intro w' hSw'
    go_simp
  simp only [Act.put, List.setIfInBounds_toArray, List.set_cons_zero, List.set_cons_succ]
  refine takeH (i := 1) 12 (v := .slice kp key.length kc) rfl rfl (by kernel_rfl) (by kernel_rfl) (by kernel_rfl) (fun _ _ _ h => h) (Or.inl ⟨by rfl, ?_⟩) (by assumption) ?_
  · intro w' hSw'
    have cc := (hSw'.block cb s1.out).trans g1.out
    have c0 : w'.cell? ⟨cb, 0, none⟩ = some (.slice kp key.length kc) := cell_of_row _ _ _ _ _ _ cc
    have c2 : w'.cell? ⟨cb, 2, none⟩ = some (.slice vp val.length vc) := cell_of_row _ _ _ _ _ _ cc
    go_simp
  simp only [Act.put, List.setIfInBounds_toArray, List.set_cons_zero, List.set_cons_succ]
  refine wpAnyH_ready (rs := [2]) (by kernel_rfl) (by simp) ?_
  refine AllReadyH.cons rfl (fun K hK => ?_) AllReadyH.nil
  go_simp
  refine (IK.out _).mono ?_
  rintro e w3 ⟨rfl, rfl⟩
  go_wp2_with fail
  refine hK.out _ _ (by assumption) (fun hHeld1 => ?_)
  clear hK K
  refine takeH (i := 3) 14 (v := .bool false) rfl rfl (by kernel_rfl) (by kernel_rfl) (by kernel_rfl) (fun _ _ _ h => h) (Or.inl ⟨by rfl, ?_⟩) (by assumption) ?_
  · intro w' hSw'
    go_simp
  simp only [Act.put, List.setIfInBounds_toArray, List.set_cons_zero, List.set_cons_succ]
  refine takeH (i := 4) 15 (v := .bool false) rfl rfl (by kernel_rfl) (by kernel_rfl) (by kernel_rfl) (fun _ _ _ h => h) (Or.inl ⟨by rfl, ?_⟩) (by assumption) ?_
  · intro w' hSw'
    go_simp
  simp only [Act.put, List.setIfInBounds_toArray, List.set_cons_zero, List.set_cons_succ]
  refine takeH (i := 5) 16 (v := .pointer (some ⟨cb, 2, none⟩)) rfl rfl (by kernel_rfl) (by kernel_rfl) (by kernel_rfl) (fun _ _ _ h => h) (Or.inl ⟨by rfl, ?_⟩) (by assumption) ?_
  · intro w' hSw'
    go_simp
  simp only [Act.put, List.setIfInBounds_toArray, List.set_cons_zero, List.set_cons_succ]
  refine takeH (i := 6) 17 (v := .slice vp val.length vc) rfl rfl (by kernel_rfl) (by kernel_rfl) (by kernel_rfl) (fun _ _ _ h => h) (Or.inl ⟨by rfl, ?_⟩) (by assumption) ?_
  · intro w' hSw'
    have cc := (hSw'.block cb s1.out).trans g1.out
    have c0 : w'.cell? ⟨cb, 0, none⟩ = some (.slice kp key.length kc) := cell_of_row _ _ _ _ _ _ cc
    have c2 : w'.cell? ⟨cb, 2, none⟩ = some (.slice vp val.length vc) := cell_of_row _ _ _ _ _ _ cc
    go_simp
  simp only [Act.put, List.setIfInBounds_toArray, List.set_cons_zero, List.set_cons_succ]
  refine takeH (i := 7) 18 (v := .int .i64 (val.length : Int)) rfl rfl (by kernel_rfl) (by kernel_rfl) (by kernel_rfl) (fun _ _ _ h => h) (Or.inl ⟨by rfl, ?_⟩) (by assumption) ?_
  · intro w' hSw'
    go_simp
  simp only [Act.put, List.setIfInBounds_toArray, List.set_cons_zero, List.set_cons_succ]
  refine takeH (i := 8) 19 (v := .bool false) rfl rfl (by kernel_rfl) (by kernel_rfl) (by kernel_rfl) (fun _ _ _ h => h) (Or.inl ⟨by rfl, ?_⟩) (by assumption) ?_
  · intro w' hSw'
    go_simp
  simp only [Act.put, List.setIfInBounds_toArray, List.set_cons_zero, List.set_cons_succ]
  refine takeH (i := 9) 20 (v := .bool false) rfl rfl (by kernel_rfl) (by kernel_rfl) (by kernel_rfl) (fun _ _ _ h => h) (Or.inl ⟨by rfl, ?_⟩) (by assumption) ?_
  · intro w' hSw'
    go_simp
  simp only [Act.put, List.setIfInBounds_toArray, List.set_cons_zero, List.set_cons_succ]
  refine takeH (i := 10) 21 (v := .bool false) rfl rfl (by kernel_rfl) (by kernel_rfl) (by kernel_rfl) (fun _ _ _ h => h) (Or.inl ⟨by rfl, ?_⟩) (by assumption) ?_
  · intro w' hSw'
    go_simp
  simp only [Act.put, List.setIfInBounds_toArray, List.set_cons_zero, List.set_cons_succ]
  refine takeH (i := 11) 0x16 (v := .pointer (some ⟨tb, 0, none⟩)) rfl rfl (by kernel_rfl) (by kernel_rfl) (by kernel_rfl) (fun _ _ _ h => h) (Or.inl ⟨by rfl, ?_⟩) (by assumption) ?_
  · intro w' hSw'
    go_simp
  simp only [Act.put, List.setIfInBounds_toArray, List.set_cons_zero, List.set_cons_succ]
  refine takeH (i := 12) 23 (v := .pointer (some ⟨tb, 0, none⟩)) rfl rfl (by kernel_rfl) (by kernel_rfl) (by kernel_rfl) (fun _ _ _ h => h) (Or.inl ⟨by rfl, ?_⟩) (by assumption) ?_
  · intro w' hSw'
    go_simp
  simp only [Act.put, List.setIfInBounds_toArray, List.set_cons_zero, List.set_cons_succ]
  refine takeH (i := 13) 24 (v := .pointer (some ⟨tb, 3, none⟩)) rfl rfl (by kernel_rfl) (by kernel_rfl) (by kernel_rfl) (fun _ _ _ h => h) (Or.inl ⟨by rfl, ?_⟩) (by assumption) ?_
  · intro w' hSw'
    go_simp
  simp only [Act.put, List.setIfInBounds_toArray, List.set_cons_zero, List.set_cons_succ]
  refine takeH (i := 14) 25 (v := .map (some wm)) rfl rfl (by kernel_rfl) (by kernel_rfl) (by kernel_rfl) (fun _ _ _ h => h) (Or.inl ⟨by rfl, ?_⟩) (by assumption) ?_
  · intro w' hSw'
    have TT := H1.out.below hSw'
    have d3 := TT.t3
    go_simp
  simp only [Act.put, List.setIfInBounds_toArray, List.set_cons_zero, List.set_cons_succ]
  refine takeH (i := 15) 26 (v := .pointer (some ⟨cb, 0, none⟩)) rfl rfl (by kernel_rfl) (by kernel_rfl) (by kernel_rfl) (fun _ _ _ h => h) (Or.inl ⟨by rfl, ?_⟩) (by assumption) ?_
  · intro w' hSw'
    go_simp
  simp only [Act.put, List.setIfInBounds_toArray, List.set_cons_zero, List.set_cons_succ]
  refine takeH (i := 16) 27 (v := .slice kp key.length kc) rfl rfl (by kernel_rfl) (by kernel_rfl) (by kernel_rfl) (fun _ _ _ h => h) (Or.inl ⟨by rfl, ?_⟩) (by assumption) ?_
  · intro w' hSw'
    have cc := (hSw'.block cb s1.out).trans g1.out
    have c0 : w'.cell? ⟨cb, 0, none⟩ = some (.slice kp key.length kc) := cell_of_row _ _ _ _ _ _ cc
    have c2 : w'.cell? ⟨cb, 2, none⟩ = some (.slice vp val.length vc) := cell_of_row _ _ _ _ _ _ cc
    go_simp
  simp only [Act.put, List.setIfInBounds_toArray, List.set_cons_zero, List.set_cons_succ]
  refine wpAnyH_ready (rs := [17]) (by kernel_rfl) (by simp) ?_
  refine AllReadyH.cons rfl (fun K hK => ?_) AllReadyH.nil
  go_simp
  refine (RY.out _ (by assumption)).mono ?_
  rintro e w3 ⟨rfl, hb3⟩
  have b3 : Hid (Below w1.heap.size w1 w3) := ((Below.refl _ _).drew).trans (hb3.mono (Nat.le_refl _))
  clear hb3
  go_wp2_with fail
  refine hK.out _ _ (b3.out) (fun hHeld2 => ?_)
  clear hK K
  refine takeH (i := 18) 29 (v := .bool false) rfl rfl (by kernel_rfl) (by kernel_rfl) (by kernel_rfl) (fun _ _ _ h => h) (Or.inl ⟨by rfl, ?_⟩) (by assumption) ?_
  · intro w' hSw'
    go_simp
  simp only [Act.put, List.setIfInBounds_toArray, List.set_cons_zero, List.set_cons_succ]
  refine takeH (i := 19) 30 (v := .bool false) rfl rfl (by kernel_rfl) (by kernel_rfl) (by kernel_rfl) (fun _ _ _ h => h) (Or.inl ⟨by rfl, ?_⟩) (by assumption) ?_
  · intro w' hSw'
    go_simp
  simp only [Act.put, List.setIfInBounds_toArray, List.set_cons_zero, List.set_cons_succ]
  refine wpAnyH_done (by kernel_rfl) ?_ _
  have G3 := keep ((b3.out.block cb s1.out).trans g1.out)
  have x2 : w3.cell? ⟨cb, 2, none⟩ = some (.slice vp val.length vc) := cell_of_row _ _ _ _ _ _ G3.out
  have B3 := keep (b1.out.trans (b3.out.mono b1.out.size))
  clear IK RY
  go_wp2_with fail
  refine wp_region_parted (fun w' => w'.cell? ⟨cb, 2, none⟩ = some (.slice vp val.length vc)) 9 _ (by kernel_rfl) rfl rfl rfl (by kernel_rfl) (by kernel_rfl) (by exact x2) (fun hHeld => ?_)
  simp only [List.setIfInBounds_toArray, List.set_cons_succ, List.set_cons_zero, mute]
  refine takeH (i := 0) 31 (v := .pointer (some ⟨cb, 0, none⟩)) rfl rfl (by kernel_rfl) (by kernel_rfl) (by kernel_rfl) (fun _ _ _ h => h) (Or.inl ⟨by rfl, ?_⟩) (by assumption) ?_
  · intro w' hSw'
    go_simp
  simp only [Act.put, List.setIfInBounds_toArray, List.set_cons_zero, List.set_cons_succ]
  refine takeH (i := 3) 34 (v := .pointer (some ⟨cb, 2, none⟩)) rfl rfl (by kernel_rfl) (by kernel_rfl) (by kernel_rfl) (fun _ _ _ h => h) (Or.inl ⟨by rfl, ?_⟩) (by assumption) ?_
  · intro w' hSw'
    go_simp
  simp only [Act.put, List.setIfInBounds_toArray, List.set_cons_zero, List.set_cons_succ]
  refine takeH (i := 4) 35 (v := .slice vp val.length vc) rfl rfl (by kernel_rfl) (by kernel_rfl) (by kernel_rfl) (fun _ _ _ h => h) (Or.inl ⟨by rfl, ?_⟩) (by assumption) ?_
  · intro w' hSw'
    go_simp
  simp only [Act.put, List.setIfInBounds_toArray, List.set_cons_zero, List.set_cons_succ]
  refine wpAnyH_ready (rs := [1]) (by kernel_rfl) (by simp) ?_
  refine AllReadyH.cons rfl (fun K hK => ?_) AllReadyH.nil
  have y0 : w3.drew.cell? ⟨cb, 0, none⟩ = some (.slice kp key.length kc) := cell_of_row _ _ _ _ _ _ G3.out
  go_simp
  refine hK.out _ _ (by exact x2) (fun hA1 => ?_)
  clear hK K y0
  refine wpAnyH_ready (rs := [2]) (by kernel_rfl) (by simp) ?_
  refine AllReadyH.cons rfl (fun K hK => ?_) AllReadyH.nil
  go_simp
  refine (clone_any kp key.length kc key w3.drew (by omega) ((HK1.out.below b3.out).below (Below.refl _ _).drew)).mono ?_
  rintro e w5 ⟨v5, rfl, hn5⟩
  have O5 := keep hn5.1
  obtain ⟨ap, ac, hap, hs5, _⟩ := hn5.src
  subst hap
  have LE5 : Hid (w3.heap.size ≤ w3.drew.heap.size) := Nat.le_refl _
  have b5 : Hid (Below w3.heap.size w3 w5) := ((Below.refl _ _).drew).trans (hn5.2.mono (Nat.le_refl _))
  have G5 := keep ((b5.out.block cb (Array.getElem?_eq_some_iff.1 G3.out).1).trans G3.out)
  have x5 : w5.cell? ⟨cb, 2, none⟩ = some (.slice vp val.length vc) := cell_of_row _ _ _ _ _ _ G5.out
  clear hn5 hs5
  go_wp2_with fail
  refine hK.out _ _ (x5) (fun hA2 => ?_)
  clear hK K
  refine takeH (i := 6) 37 (v := .pointer (some ⟨cb, 0, none⟩)) rfl rfl (by kernel_rfl) (by kernel_rfl) (by kernel_rfl) (fun _ _ _ h => h) (Or.inl ⟨by rfl, ?_⟩) (by assumption) ?_
  · intro w' hSw'
    go_simp
  simp only [Act.put, List.setIfInBounds_toArray, List.set_cons_zero, List.set_cons_succ]
  refine wpAnyH_ready (rs := [5]) (by kernel_rfl) (by simp) ?_
  refine AllReadyH.cons rfl (fun K hK => ?_) AllReadyH.nil
  go_simp
  refine (clone_any vp val.length vc val w5 (by omega) ((HV1.out.below b3.out).below b5.out)).mono ?_
  rintro e w6 ⟨v6, rfl, hn6⟩
  have O6 := keep hn6.1
  obtain ⟨bp, bc, hbp, hs6, _⟩ := hn6.src
  subst hbp
  have b6 := keep hn6.2
  have G6 := keep ((b6.out.block cb (Array.getElem?_eq_some_iff.1 G5.out).1).trans G5.out)
  have x6 : w6.cell? ⟨cb, 2, none⟩ = some (.slice vp val.length vc) := cell_of_row _ _ _ _ _ _ G6.out
  clear hn6 hs6
  go_wp2_with fail
  refine hK.out _ _ (x6) (fun hA3 => ?_)
  clear hK K
  have y0 : w6.cell? ⟨cb, 0, none⟩ = some (.slice kp key.length kc) := cell_of_row _ _ _ _ _ _ G6.out
  have f0 : w6.frozen? ⟨cb, 0, none⟩ = false := by simp [World.frozen?, G6.out]
  have f2 : w6.frozen? ⟨cb, 2, none⟩ = false := by simp [World.frozen?, G6.out]
  have G7 := keep (set_row G6.out 0 (.slice ap key.length ac))
  have G8 := keep (set_row G7.out 2 (.slice bp val.length bc))
  have x7 : (w6.setCell ⟨cb, 0, none⟩ (.slice ap key.length ac)).cell? ⟨cb, 2, none⟩ = some (.slice vp val.length vc) := cell_of_row _ _ _ _ _ _ G7.out
  have f7 : (w6.setCell ⟨cb, 0, none⟩ (.slice ap key.length ac)).frozen? ⟨cb, 2, none⟩ = false := by simp [World.frozen?, G7.out]
  refine wpAnyH_ready (rs := [7]) (by kernel_rfl) (by simp) ?_
  refine AllReadyH.cons rfl (fun K hK => ?_) AllReadyH.nil
  go_simp
  refine hK.out _ _ (x7) (fun hA4 => ?_)
  clear hK K
  refine takeH (i := 8) 38 (v := .pointer (some ⟨cb, 2, none⟩)) rfl rfl (by kernel_rfl) (by kernel_rfl) (by kernel_rfl) (fun _ _ _ h => h) (Or.inl ⟨by rfl, ?_⟩) (by assumption) ?_
  · intro w' hSw'
    go_simp
  simp only [Act.put, List.setIfInBounds_toArray, List.set_cons_zero, List.set_cons_succ]
  refine wpAnyH_ready (rs := [9]) (by kernel_rfl) (by simp) ?_
  refine AllReadyH.cons rfl (fun K hK => ?_) AllReadyH.nil
  go_simp
  refine hK.out _ _ (x7) (fun hA5 => ?_)
  clear hK K
  refine wpAnyH_done (by kernel_rfl) ?_ _
  unfold LastQ
  go_simp
  obtain ⟨w8, hw8⟩ : ∃ w8, ((w6.setCell ⟨cb, 0, none⟩ (.slice ap key.length ac)).setCell ⟨cb, 2, none⟩ (.slice bp val.length bc)) = w8 := ⟨_, rfl⟩
  have hG8 : Hid (w8.heap[cb]? = some (.cells #[.slice ap key.length ac, .bool false, .slice bp val.length bc] 218 (0, 0))) := by
    rw [← hw8]
    have h := G8.out
    simp only [List.setIfInBounds_toArray, List.set_cons_zero, List.set_cons_succ] at h
    exact h
  have K8 : Hid (Kept (At cb) w6 w8) := by rw [← hw8]; exact ((Kept.refl _ _).at_set _ _).at_set _ _
  have hne8 : ∀ g, g ≠ cb → w8.heap[g]? = w6.heap[g]? := fun g hg => by
    rw [← hw8]
    exact (Below.heap_setCell _ ⟨cb, 2, none⟩ _ g hg).trans (Below.heap_setCell _ ⟨cb, 0, none⟩ _ g hg)
  have l3 : cb < w3.heap.size := (Array.getElem?_eq_some_iff.1 G3.out).1
  have A8 : Hid (w8.ownsRow w3.heap.size 5 1 (.slice ap key.length ac) key.length (bv key)) := own_block O5.out (fun g hg => (hne8 g (by
    have h1 := (O5.out.lt g hg).1
    have h2 : w3.heap.size ≤ g := h1
    omega)).trans (b6.out.block g (own_size O5.out hg)))
  have V8 : Hid (w8.ownsRow w5.heap.size 5 1 (.slice bp val.length bc) val.length (bv val)) := own_block O6.out (fun g hg => hne8 g (by
    have h1 := (O6.out.lt g hg).1
    have h2 := b5.out.size
    omega))
  have KS : Hid (Src w8 ap key.length ac key) := by
    obtain ⟨_, _, he, hs, _⟩ := Src.of_own A8.out
    cases he
    exact hs
  have VS : Hid (Src w8 bp val.length bc val) := by
    obtain ⟨_, _, he, hs, _⟩ := Src.of_own V8.out
    cases he
    exact hs
  have B6 : Hid (Below w.heap.size w w6) := B3.out.trans ((b5.out.trans (b6.out.mono b5.out.size)).mono B3.out.size)
  have T8 : Hid (TxnAt w8 tb eb wm gm seq l) := by
    have h6 := HN.out.below B6.out
    have l0 := HN.out.lt
    have hc := HCB.out
    exact ⟨(hne8 tb (by omega)).trans h6.box, h6.map.same (hne8 wm (by omega)), h6.few⟩
  have KW : Hid (Kept (At wm) w w8) := (Kept.of_below B6.out).trans' (V := At cb) K8.out (fun g hg e => by have e2 : g = cb := e; have := HCB.out; omega)
  rw [hw8]
  clear hw8 G8 G7 G6 G5 x5 x6 x7 y0 f0 f2 f7 A8 V8 O5 O6 K8 B6 B3 b5 b6 b3 hne8 G3 x2 LE5
  have NC := keep T8.out.nocell
  have CB : Hid (∀ w', Kept (At wm) w8 w' → w'.cell? ⟨cb, 0, none⟩ = some (.slice ap key.length ac) ∧ w'.cell? ⟨cb, 1, none⟩ = some (.bool false) ∧ w'.cell? ⟨cb, 2, none⟩ = some (.slice bp val.length bc) ∧ w'.cell? ⟨tb, 3, none⟩ = some (.map (some wm))) := by
    intro w' hk
    have h1 : w'.heap[cb]? = _ := (hk.block cb (Array.getElem?_eq_some_iff.1 hG8.out).1 (fun e => by have e2 : cb = wm := e; exact NC.out _ _ _ (by rw [← e2]; exact hG8.out))).trans hG8.out
    have h2 : w'.heap[tb]? = _ := (hk.block tb (Array.getElem?_eq_some_iff.1 T8.out.box).1 (fun e => by have e2 : tb = wm := e; exact NC.out _ _ _ (by rw [← e2]; exact T8.out.box))).trans T8.out.box
    exact ⟨cell_of_row _ _ _ _ _ _ h1, cell_of_row _ _ _ _ _ _ h1, cell_of_row _ _ _ _ _ _ h1, cell_of_row _ _ _ _ _ _ h2⟩
  go_wp2_with fail
  refine wp_region_held_drew (S := fun w' => Kept (At wm) w8 w') (by kernel_rfl) ((Kept.refl _ _).drew) (fun hH7_ => ?_)
  refine takeH (i := 0) 39 (v := .pointer (some ⟨tb, 0, none⟩)) rfl rfl (by kernel_rfl) (by kernel_rfl) (by kernel_rfl) (fun _ _ _ h => h) (Or.inl ⟨by rfl, ?_⟩) (by assumption) ?_
  · intro w' hSw'
    go_simp
  simp only [Act.put, List.setIfInBounds_toArray, List.set_cons_zero, List.set_cons_succ]
  refine takeH (i := 1) 40 (v := .pointer (some ⟨tb, 0, none⟩)) rfl rfl (by kernel_rfl) (by kernel_rfl) (by kernel_rfl) (fun _ _ _ h => h) (Or.inl ⟨by rfl, ?_⟩) (by assumption) ?_
  · intro w' hSw'
    go_simp
  simp only [Act.put, List.setIfInBounds_toArray, List.set_cons_zero, List.set_cons_succ]
  refine takeH (i := 2) 41 (v := .pointer (some ⟨tb, 3, none⟩)) rfl rfl (by kernel_rfl) (by kernel_rfl) (by kernel_rfl) (fun _ _ _ h => h) (Or.inl ⟨by rfl, ?_⟩) (by assumption) ?_
  · intro w' hSw'
    go_simp
  simp only [Act.put, List.setIfInBounds_toArray, List.set_cons_zero, List.set_cons_succ]
  refine takeH (i := 3) 42 (v := .map (some wm)) rfl rfl (by kernel_rfl) (by kernel_rfl) (by kernel_rfl) (fun _ _ _ h => h) (Or.inl ⟨by rfl, ?_⟩) (by assumption) ?_
  · intro w' hSw'
    obtain ⟨d0, d1, d2, d3⟩ := CB.out w' hSw'
    go_simp
  simp only [Act.put, List.setIfInBounds_toArray, List.set_cons_zero, List.set_cons_succ]
  refine takeH (i := 4) 43 (v := .pointer (some ⟨cb, 0, none⟩)) rfl rfl (by kernel_rfl) (by kernel_rfl) (by kernel_rfl) (fun _ _ _ h => h) (Or.inl ⟨by rfl, ?_⟩) (by assumption) ?_
  · intro w' hSw'
    go_simp
  simp only [Act.put, List.setIfInBounds_toArray, List.set_cons_zero, List.set_cons_succ]
  refine takeH (i := 5) 44 (v := .slice ap key.length ac) rfl rfl (by kernel_rfl) (by kernel_rfl) (by kernel_rfl) (fun _ _ _ h => h) (Or.inl ⟨by rfl, ?_⟩) (by assumption) ?_
  · intro w' hSw'
    obtain ⟨d0, d1, d2, d3⟩ := CB.out w' hSw'
    go_simp
  simp only [Act.put, List.setIfInBounds_toArray, List.set_cons_zero, List.set_cons_succ]
  refine takeH (i := 6) 45 (v := .string ⟨key.toArray⟩) rfl rfl (by kernel_rfl) (by kernel_rfl) (by kernel_rfl) (fun _ _ _ h => h) (Or.inl ⟨by rfl, ?_⟩) (by assumption) ?_
  · intro w' hSw'
    have cs := conv_src (Src.mapped KS.out hSw' NC.out)
    go_simp
  simp only [Act.put, List.setIfInBounds_toArray, List.set_cons_zero, List.set_cons_succ]
  refine takeH (i := 7) 46 (v := .agg #[.slice ap key.length ac, .bool false, .slice bp val.length bc]) rfl rfl (by kernel_rfl) (by kernel_rfl) (by kernel_rfl) (fun _ _ _ h => h) (Or.inl ⟨by rfl, ?_⟩) (by assumption) ?_
  · intro w' hSw'
    obtain ⟨d0, d1, d2, d3⟩ := CB.out w' hSw'
    go_simp
  simp only [Act.put, List.setIfInBounds_toArray, List.set_cons_zero, List.set_cons_succ]
  refine wpAnyH_ready (rs := [8]) (by kernel_rfl) (by simp) ?_
  refine AllReadyH.cons rfl (fun K hK => ?_) AllReadyH.nil
  obtain ⟨w9, hrun, hm9, hg9⟩ := (show MapIs Tryz.prog 9 w8.drew wm l from T8.out.map).store Tryz.underlying9 Tryz.underlying208 key hkm.out (by have := HL.out; unfold maxLen; omega) (.agg #[.slice ap key.length ac, .bool false, .slice bp val.length bc])
  have K9 : Hid (Kept (At wm) w8 w9) := ((Kept.refl _ _).drew).grown hg9 (fun k e => by cases e; exact .inl rfl)
  have M9 := keep hm9
  go_simp
  refine hK.out _ _ (K9.out) (fun hB2 => ?_)
  clear hK K hrun hm9 hg9
  refine wpAnyH_done (by kernel_rfl) ?_ _
  go_wp2
  go_ret
  exact ⟨rfl, _, ⟨(K9.out.block tb (Array.getElem?_eq_some_iff.1 T8.out.box).1 (fun e => by have e2 : tb = wm := e; exact NC.out _ _ _ (by rw [← e2]; exact T8.out.box))).trans T8.out.box, M9.out, Nat.le_trans (lay_len _ _ _) (by have := HL.out; omega)⟩, ⟨_, _, _, _, _, rfl, VS.out.mapped K9.out NC.out⟩, KW.out.trans K9.out⟩
set_option maxHeartbeats 1000000 in
set_option maxRecDepth 100000 in
theorem put_ok (tb eb wm gm : Nat) (seq : Int) (l : List Named) (kp : Option Addr) (kc : Nat) (key : List UInt8) (vp : Option Addr) (vc : Nat) (val : List UInt8) (w : World) (h : TxnAt w tb eb wm gm seq l) (hk : Src w kp key.length kc key) (hv : Src w vp val.length vc val) (hk1 : 1 ≤ key.length) (hk2 : key.length ≤ 64) (hv2 : val.length ≤ 1024) (hx : ∀ v, seek l key = some v → ∃ val, Chg w v val) (hl : l.length < 256) :
    Calls Tryz.prog 54 #[.pointer (some ⟨tb, 0, none⟩), .slice kp key.length kc, .slice vp val.length vc] w fun e w' => e = .returned (.int .i64 0) ∧ ∃ v', TxnAt w' tb eb wm gm seq (lay l key v') ∧ Chg w' v' val ∧ Kept (At wm) w w' := by
  have WO := keep (write_ok tb eb wm gm seq l kp kc key vp vc val w h hk hv hk1 hk2 hv2 hx hl)
  clear h hk hv hk1 hk2 hv2 hx hl
  go_enter Tryz.func54, Tryz.ntmps54
  go_wp2_with fail
  refine WO.out.mono ?_
  rintro e w1 ⟨rfl, v', ht, hc, hkp⟩
  have T1 := keep ht
  have C1 := keep hc
  have K1 := keep hkp
  clear ht hc hkp WO
  go_wp2
  go_ret
  exact ⟨rfl, v', T1.out, C1.out, K1.out⟩
end Go.Proofs.YtogphpejdnhnjaaGreatDoor
