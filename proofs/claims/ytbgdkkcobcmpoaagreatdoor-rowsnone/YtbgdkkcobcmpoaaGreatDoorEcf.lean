/- The walks of txn's Begin, ready, Get over an engine that has nothing. -/
import Derived.Test.YtbgdkkcobcmpoaaGreatDoorEce
import Derived.Test.YtbgdkkcobcmpoaaGreatDoorCl
namespace Go.Proofs.YtbgdkkcobcmpoaaGreatDoor
open Go.RowKit Go.Maps

/-- A change as a transaction keeps it. -/
def Chg (w : World) (v : Value) (val : List UInt8) : Prop := ∃ kp kn kc vp vc, v = .agg #[.slice kp kn kc, .bool false, .slice vp val.length vc] ∧ Src w vp val.length vc val
theorem Chg.kept {w w' : World} {v : Value} {val : List UInt8} {m : Nat} (h : Chg w v val) (hk : Kept (At m) w w') (hm : ∀ c t f, w.heap[m]? ≠ some (.cells c t f)) : Chg w' v val := by
  obtain ⟨kp, kn, kc, vp, vc, rfl, hs⟩ := h
  refine ⟨kp, kn, kc, vp, vc, rfl, hs.len, hs.cap, hs.nil, fun ad had j u hu => ?_⟩
  have hc := hs.cells ad had j u hu
  rw [hk.cell (World.block_lt_of_cell? w _ hc) (fun e => ?_)]
  · exact hc
  · have e2 : (ad.add j).block = m := e
    unfold World.cell? at hc
    rw [e2] at hc
    cases hx : w.heap[m]? with
    | none => rw [hx] at hc; cases hc
    | some o =>
      cases o with
      | cells c t f => exact hm c t f hx
      | _ => rw [hx] at hc; cases hc
/-- A transaction that has begun: its engine, its number, what it writes. -/
structure TxnAt (w : World) (tb eb wm gm : Nat) (seq : Int) (l : List Named) : Prop where
  box : w.heap[tb]? = some (.cells #[.int .i64 1, .pointer (some ⟨eb, 0, none⟩), .int .i64 seq, .map (some wm), .map (some gm)] 223 (0, 0))
  map : MapIs Tryz.prog 9 w wm l
  few : l.length ≤ 256
section
variable {w w' : World} {tb eb wm gm : Nat} {seq : Int} {l : List Named}
theorem TxnAt.t0 (h : TxnAt w tb eb wm gm seq l) : w.cell? ⟨tb, 0, none⟩ = some (.int .i64 1) := cell_of_row _ _ _ _ _ _ h.box
theorem TxnAt.t1 (h : TxnAt w tb eb wm gm seq l) : w.cell? ⟨tb, 1, none⟩ = some (.pointer (some ⟨eb, 0, none⟩)) := cell_of_row _ _ _ _ _ _ h.box
theorem TxnAt.t2 (h : TxnAt w tb eb wm gm seq l) : w.cell? ⟨tb, 2, none⟩ = some (.int .i64 seq) := cell_of_row _ _ _ _ _ _ h.box
theorem TxnAt.t3 (h : TxnAt w tb eb wm gm seq l) : w.cell? ⟨tb, 3, none⟩ = some (.map (some wm)) := cell_of_row _ _ _ _ _ _ h.box
theorem TxnAt.lt (h : TxnAt w tb eb wm gm seq l) : tb < w.heap.size ∧ wm < w.heap.size := ⟨(Array.getElem?_eq_some_iff.1 h.box).1, h.map.lt⟩
theorem TxnAt.below (h : TxnAt w tb eb wm gm seq l) (hb : Below w.heap.size w w') : TxnAt w' tb eb wm gm seq l := ⟨(hb.block _ h.lt.1).trans h.box, h.map.same (hb.block _ h.lt.2), h.few⟩
theorem TxnAt.nocell (h : TxnAt w tb eb wm gm seq l) : ∀ c t f, w.heap[wm]? ≠ some (.cells c t f) := by
  obtain ⟨_, es, clock, hb, _⟩ := h.map
  intro c t f e
  rw [hb] at e
  cases e
end
def chgZ : Value := .agg #[.slice none 0 0, .bool false, .slice none 0 0]
theorem zero_chg (w : World) : (zeroValue 230).run Tryz.prog w = .ok chgZ w := by
  simp [zeroValue, chgZ]
  kernel_rfl
theorem writes_look {w : World} {wm : Nat} {l : List Named} (h : MapIs Tryz.prog 9 w wm l) (n : List UInt8) (hn : n.length ≤ maxLen) :
    (Instr.lookup 220 (.map (some wm)) (.string ⟨n.toArray⟩) true).run Tryz.prog w = .ok (.tuple #[(seek l n).getD chgZ, .bool (seek l n).isSome]) w :=
  h.look_ok Tryz.underlying9 Tryz.underlying220 (zero_chg w) n hn
set_option maxHeartbeats 1000000 in
set_option maxRecDepth 100000 in
theorem tready (tb eb wm gm : Nat) (seq : Int) (l : List Named) (w : World) (h : TxnAt w tb eb wm gm seq l) :
    Calls Tryz.prog 130 #[.pointer (some ⟨tb, 0, none⟩)] w fun e w' => e = .returned (.int .i64 0) ∧ w' = w := by
  have t0 := h.t0
  clear h
  go_enter Tryz.func130, Tryz.ntmps130
  go_wp2
  go_ret
  exact ⟨rfl, rfl⟩
set_option maxHeartbeats 1000000 in
set_option maxRecDepth 100000 in
theorem begin_none (eb db pm tm sk : Nat) (seq : Int) (w : World) (h : EngAt w eb db pm tm sk seq) (hp : w.heap[pm]? = some (.map #[] 0)) (hs : (Lit.int .i64 seq).wf = true) :
    Calls Tryz.prog 47 #[.pointer (some ⟨eb, 0, none⟩)] w fun e w' => ∃ tb wm gm, e = .returned (.tuple #[.pointer (some ⟨tb, 0, none⟩), .int .i64 0]) ∧ TxnAt w' tb eb wm gm seq [] ∧ w.heap.size ≤ tb ∧ w.heap.size ≤ wm ∧ Kept (At pm) w w' := by
  have PN := keep (pin_none eb db pm tm sk seq w h hp hs)
  have hmm := @run_makeMap Tryz.prog
  clear h hp hs
  go_enter Tryz.func47, Tryz.ntmps47
  go_wp2_with fail
  refine PN.out.mono ?_
  rintro e w1 ⟨rfl, hk1⟩
  have K1 := keep hk1
  clear hk1 PN
  go_wp2
  go_ret2
  have s3 : ((w1.alloc (.map #[] 0)).alloc (.map #[] 0)).heap.size = w1.heap.size + 2 := by simp
  refine ⟨_, w1.heap.size, w1.heap.size + 1, rfl, ⟨?_, ?_, by decide⟩, ?_, K1.out.size, ((K1.out.alloc _).alloc _).alloc _⟩
  · have := heap_alloc_new ((w1.alloc (.map #[] 0)).alloc (.map #[] 0)) (.cells #[.int .i64 1, .pointer (some ⟨eb, 0, none⟩), .int .i64 seq, .map (some w1.heap.size), .map (some (w1.heap.size + 1))] 223)
    rw [s3] at this
    exact this
  · exact (((MapIs.made Tryz.prog 9 w1).kept (World.grownBy_alloc _ _ none) (by simp)).kept (World.grownBy_alloc _ _ none) (by simp))
  · have := K1.out.size; omega
set_option maxHeartbeats 4000000 in
set_option maxRecDepth 100000 in
theorem tget_none (tb eb wm gm db pm tm sk : Nat) (seq : Int) (l : List Named) (kp : Option Addr) (kc : Nat) (key : List UInt8) (w : World) (h : TxnAt w tb eb wm gm seq l) (he : EngAt w eb db pm tm sk seq) (hk : Src w kp key.length kc key) (hkl : key.length ≤ maxLen) (hx : seek l key = none) :
    Calls Tryz.prog 60 #[.pointer (some ⟨tb, 0, none⟩), .slice kp key.length kc] w fun e w' => e = .returned (.tuple #[.slice none 0 0, .int .i64 6]) ∧ Below w.heap.size w w' := by
  have H := keep h
  have HE := keep he
  have HK := keep hk
  have HL : Hid (∀ w', Below w.heap.size w w' → (Instr.lookup 220 (.map (some wm)) (.string ⟨key.toArray⟩) true).run Tryz.prog w' = .ok (.tuple #[.agg #[.slice none 0 0, .bool false, .slice none 0 0], .bool false]) w') := by
    intro w' hb
    have := writes_look (h.below hb).map key hkl
    rw [hx] at this
    exact this
  clear h he hk hx
  go_enter Tryz.func60, Tryz.ntmps60
  go_wp2_with fail
  refine (tready tb eb wm gm seq l w H.out).mono ?_
  rintro e w1 ⟨rfl, rfl⟩
  go_wp2_with fail
  refine wp_region_held_drew (S := fun w' => Below w1.heap.size w1 w') (by kernel_rfl) ((Below.refl _ _).drew) (fun hHeld => ?_)
  refine takeH (i := 0) 15 (v := .pointer (some ⟨tb, 0, none⟩)) rfl rfl (by kernel_rfl) (by kernel_rfl) (by kernel_rfl) (fun _ _ _ h => h) (Or.inl ⟨by rfl, ?_⟩) (by assumption) ?_
  · intro w' hSw'
    go_simp
  simp only [Act.put, List.setIfInBounds_toArray, List.set_cons_zero, List.set_cons_succ]
  refine takeH (i := 1) 16 (v := .pointer (some ⟨tb, 0, none⟩)) rfl rfl (by kernel_rfl) (by kernel_rfl) (by kernel_rfl) (fun _ _ _ h => h) (Or.inl ⟨by rfl, ?_⟩) (by assumption) ?_
  · intro w' hSw'
    go_simp
  simp only [Act.put, List.setIfInBounds_toArray, List.set_cons_zero, List.set_cons_succ]
  refine takeH (i := 2) 17 (v := .pointer (some ⟨tb, 3, none⟩)) rfl rfl (by kernel_rfl) (by kernel_rfl) (by kernel_rfl) (fun _ _ _ h => h) (Or.inl ⟨by rfl, ?_⟩) (by assumption) ?_
  · intro w' hSw'
    go_simp
  simp only [Act.put, List.setIfInBounds_toArray, List.set_cons_zero, List.set_cons_succ]
  refine takeH (i := 3) 18 (v := .map (some wm)) rfl rfl (by kernel_rfl) (by kernel_rfl) (by kernel_rfl) (fun _ _ _ h => h) (Or.inl ⟨by rfl, ?_⟩) (by assumption) ?_
  · intro w' hSw'
    have TT := H.out.below hSw'
    have d1 := TT.t1
    have d2 := TT.t2
    have d3 := TT.t3
    go_simp
  simp only [Act.put, List.setIfInBounds_toArray, List.set_cons_zero, List.set_cons_succ]
  refine takeH (i := 4) 19 (v := .slice kp key.length kc) rfl rfl (by kernel_rfl) (by kernel_rfl) (by kernel_rfl) (fun _ _ _ h => h) (Or.inl ⟨by rfl, ?_⟩) (by assumption) ?_
  · intro w' hSw'
    go_simp
  simp only [Act.put, List.setIfInBounds_toArray, List.set_cons_zero, List.set_cons_succ]
  refine takeH (i := 5) 20 (v := .string ⟨key.toArray⟩) rfl rfl (by kernel_rfl) (by kernel_rfl) (by kernel_rfl) (fun _ _ _ h => h) (Or.inl ⟨by rfl, ?_⟩) (by assumption) ?_
  · intro w' hSw'
    have cs := conv_src (HK.out.below hSw')
    go_simp
  simp only [Act.put, List.setIfInBounds_toArray, List.set_cons_zero, List.set_cons_succ]
  refine takeH (i := 6) 21 (v := .tuple #[.agg #[.slice none 0 0, .bool false, .slice none 0 0], .bool false]) rfl rfl (by kernel_rfl) (by kernel_rfl) (by kernel_rfl) (fun _ _ _ h => h) (Or.inl ⟨by rfl, ?_⟩) (by assumption) ?_
  · intro w' hSw'
    have hl := HL.out w' hSw'
    go_simp
  simp only [Act.put, List.setIfInBounds_toArray, List.set_cons_zero, List.set_cons_succ]
  refine takeH (i := 7) 14 (v := .tuple #[.agg #[.slice none 0 0, .bool false, .slice none 0 0], .bool false]) rfl rfl (by kernel_rfl) (by kernel_rfl) (by kernel_rfl) (fun _ _ _ h => h) (Or.inl ⟨by rfl, ?_⟩) (by assumption) ?_
  · intro w' hSw'
    go_simp
  simp only [Act.put, List.setIfInBounds_toArray, List.set_cons_zero, List.set_cons_succ]
  refine takeH (i := 8) 0x16 (v := .agg #[.slice none 0 0, .bool false, .slice none 0 0]) rfl rfl (by kernel_rfl) (by kernel_rfl) (by kernel_rfl) (fun _ _ _ h => h) (Or.inl ⟨by rfl, ?_⟩) (by assumption) ?_
  · intro w' hSw'
    go_simp
  simp only [Act.put, List.setIfInBounds_toArray, List.set_cons_zero, List.set_cons_succ]
  refine takeH (i := 9) 23 (v := .bool false) rfl rfl (by kernel_rfl) (by kernel_rfl) (by kernel_rfl) (fun _ _ _ h => h) (Or.inl ⟨by rfl, ?_⟩) (by assumption) ?_
  · intro w' hSw'
    go_simp
  simp only [Act.put, List.setIfInBounds_toArray, List.set_cons_zero, List.set_cons_succ]
  refine wpAnyH_ready (rs := [10]) (by kernel_rfl) (by simp) ?_
  refine AllReadyH.cons rfl (fun K hK => ?_) AllReadyH.nil
  go_simp
  have b5 : Hid (Below w1.heap.size w1 (w1.drew.alloc (.cells #[.slice none 0 0, .bool false, .slice none 0 0] 230))) := ((Below.refl _ _).drew).alloc (Nat.le_refl _) _
  refine hK.out _ _ (b5.out) (fun hA2 => ?_)
  clear hK K
  refine wpAnyH_ready (rs := [11]) (by kernel_rfl) (by simp) ?_
  refine AllReadyH.cons rfl (fun K hK => ?_) AllReadyH.nil
  go_simp
  refine hK.out _ _ (((Below.refl _ _).drew).alloc (Nat.le_refl _) _) (fun hA3 => ?_)
  clear hK K
  refine takeH (i := 12) 8 (v := .bool false) rfl rfl (by kernel_rfl) (by kernel_rfl) (by kernel_rfl) (fun _ _ _ h => h) (Or.inl ⟨by rfl, ?_⟩) (by assumption) ?_
  · intro w' hSw'
    go_simp
  simp only [Act.put, List.setIfInBounds_toArray, List.set_cons_zero, List.set_cons_succ]
  refine wpAnyH_done (by kernel_rfl) ?_ _
  obtain ⟨w5, hw5⟩ : ∃ w5, (w1.alloc (.cells #[.slice none 0 0, .bool false, .slice none 0 0] 230)).drew = w5 := ⟨_, rfl⟩
  have B5 : Hid (Below w1.heap.size w1 w5) := by rw [← hw5]; exact ((Below.refl _ _).alloc (Nat.le_refl _) _).drew
  rw [hw5]
  clear hw5
  go_wp2_with fail
  refine wp_region_held_drew (S := fun w' => Below w5.heap.size w5 w') (by kernel_rfl) ((Below.refl _ _).drew) (fun hH6_ => ?_)
  refine takeH (i := 0) 27 (v := .pointer (some ⟨tb, 0, none⟩)) rfl rfl (by kernel_rfl) (by kernel_rfl) (by kernel_rfl) (fun _ _ _ h => h) (Or.inl ⟨by rfl, ?_⟩) (by assumption) ?_
  · intro w' hSw'
    go_simp
  simp only [Act.put, List.setIfInBounds_toArray, List.set_cons_zero, List.set_cons_succ]
  refine takeH (i := 1) 28 (v := .pointer (some ⟨tb, 0, none⟩)) rfl rfl (by kernel_rfl) (by kernel_rfl) (by kernel_rfl) (fun _ _ _ h => h) (Or.inl ⟨by rfl, ?_⟩) (by assumption) ?_
  · intro w' hSw'
    go_simp
  simp only [Act.put, List.setIfInBounds_toArray, List.set_cons_zero, List.set_cons_succ]
  refine takeH (i := 2) 29 (v := .pointer (some ⟨tb, 1, none⟩)) rfl rfl (by kernel_rfl) (by kernel_rfl) (by kernel_rfl) (fun _ _ _ h => h) (Or.inl ⟨by rfl, ?_⟩) (by assumption) ?_
  · intro w' hSw'
    go_simp
  simp only [Act.put, List.setIfInBounds_toArray, List.set_cons_zero, List.set_cons_succ]
  refine takeH (i := 3) 30 (v := .pointer (some ⟨eb, 0, none⟩)) rfl rfl (by kernel_rfl) (by kernel_rfl) (by kernel_rfl) (fun _ _ _ h => h) (Or.inl ⟨by rfl, ?_⟩) (by assumption) ?_
  · intro w' hSw'
    have TT := H.out.below (B5.out.trans (hSw'.mono B5.out.size))
    have d1 := TT.t1
    have d2 := TT.t2
    have d3 := TT.t3
    go_simp
  simp only [Act.put, List.setIfInBounds_toArray, List.set_cons_zero, List.set_cons_succ]
  refine takeH (i := 4) 31 (v := .slice kp key.length kc) rfl rfl (by kernel_rfl) (by kernel_rfl) (by kernel_rfl) (fun _ _ _ h => h) (Or.inl ⟨by rfl, ?_⟩) (by assumption) ?_
  · intro w' hSw'
    go_simp
  simp only [Act.put, List.setIfInBounds_toArray, List.set_cons_zero, List.set_cons_succ]
  refine takeH (i := 5) 32 (v := .pointer (some ⟨tb, 0, none⟩)) rfl rfl (by kernel_rfl) (by kernel_rfl) (by kernel_rfl) (fun _ _ _ h => h) (Or.inl ⟨by rfl, ?_⟩) (by assumption) ?_
  · intro w' hSw'
    go_simp
  simp only [Act.put, List.setIfInBounds_toArray, List.set_cons_zero, List.set_cons_succ]
  refine takeH (i := 6) 33 (v := .pointer (some ⟨tb, 0, none⟩)) rfl rfl (by kernel_rfl) (by kernel_rfl) (by kernel_rfl) (fun _ _ _ h => h) (Or.inl ⟨by rfl, ?_⟩) (by assumption) ?_
  · intro w' hSw'
    go_simp
  simp only [Act.put, List.setIfInBounds_toArray, List.set_cons_zero, List.set_cons_succ]
  refine takeH (i := 7) 34 (v := .pointer (some ⟨tb, 2, none⟩)) rfl rfl (by kernel_rfl) (by kernel_rfl) (by kernel_rfl) (fun _ _ _ h => h) (Or.inl ⟨by rfl, ?_⟩) (by assumption) ?_
  · intro w' hSw'
    go_simp
  simp only [Act.put, List.setIfInBounds_toArray, List.set_cons_zero, List.set_cons_succ]
  refine takeH (i := 8) 35 (v := .int .i64 seq) rfl rfl (by kernel_rfl) (by kernel_rfl) (by kernel_rfl) (fun _ _ _ h => h) (Or.inl ⟨by rfl, ?_⟩) (by assumption) ?_
  · intro w' hSw'
    have TT := H.out.below (B5.out.trans (hSw'.mono B5.out.size))
    have d1 := TT.t1
    have d2 := TT.t2
    have d3 := TT.t3
    go_simp
  simp only [Act.put, List.setIfInBounds_toArray, List.set_cons_zero, List.set_cons_succ]
  refine wpAnyH_ready (rs := [9]) (by kernel_rfl) (by simp) ?_
  refine AllReadyH.cons rfl (fun K hK => ?_) AllReadyH.nil
  go_simp
  refine (eget_none eb db pm tm sk seq kp kc key seq _ (HE.out.below (B5.out.trans (Below.mono (by assumption) B5.out.size))) (HK.out.below (B5.out.trans (Below.mono (by assumption) B5.out.size)))).mono ?_
  rintro e w6 ⟨rfl, hb6⟩
  have B6 : Hid (Below w5.heap.size w5 w6) := ((Below.refl _ _).drew).trans (hb6.mono (Nat.le_refl _))
  clear hb6
  go_wp2_with fail
  refine hK.out _ _ (B6.out) (fun hH6_1 => ?_)
  clear hK K
  refine takeH (i := 10) 37 (v := .slice none 0 0) rfl rfl (by kernel_rfl) (by kernel_rfl) (by kernel_rfl) (fun _ _ _ h => h) (Or.inl ⟨by rfl, ?_⟩) (by assumption) ?_
  · intro w' hSw'
    go_simp
  simp only [Act.put, List.setIfInBounds_toArray, List.set_cons_zero, List.set_cons_succ]
  refine takeH (i := 11) 38 (v := .int .i64 6) rfl rfl (by kernel_rfl) (by kernel_rfl) (by kernel_rfl) (fun _ _ _ h => h) (Or.inl ⟨by rfl, ?_⟩) (by assumption) ?_
  · intro w' hSw'
    go_simp
  simp only [Act.put, List.setIfInBounds_toArray, List.set_cons_zero, List.set_cons_succ]
  refine takeH (i := 12) 4 (v := .slice none 0 0) rfl rfl (by kernel_rfl) (by kernel_rfl) (by kernel_rfl) (fun _ _ _ h => h) (Or.inl ⟨by rfl, ?_⟩) (by assumption) ?_
  · intro w' hSw'
    go_simp
  simp only [Act.put, List.setIfInBounds_toArray, List.set_cons_zero, List.set_cons_succ]
  refine takeH (i := 13) 5 (v := .int .i64 6) rfl rfl (by kernel_rfl) (by kernel_rfl) (by kernel_rfl) (fun _ _ _ h => h) (Or.inl ⟨by rfl, ?_⟩) (by assumption) ?_
  · intro w' hSw'
    go_simp
  simp only [Act.put, List.setIfInBounds_toArray, List.set_cons_zero, List.set_cons_succ]
  refine wpAnyH_done (by kernel_rfl) ?_ _
  go_wp2
  go_ret2
  exact ⟨rfl, B5.out.trans (B6.out.mono B5.out.size)⟩
set_option maxHeartbeats 4000000 in
set_option maxRecDepth 100000 in
theorem tget_some (tb eb wm gm : Nat) (seq : Int) (l : List Named) (kp : Option Addr) (kc : Nat) (key : List UInt8) (w : World) (h : TxnAt w tb eb wm gm seq l) (hk : Src w kp key.length kc key) (hkl : key.length ≤ maxLen) (v : Value) (val : List UInt8) (hx : seek l key = some v) (hc : Chg w v val) (hvl : val.length ≤ 140737488355328) :
    Calls Tryz.prog 60 #[.pointer (some ⟨tb, 0, none⟩), .slice kp key.length kc] w fun e w' => ∃ v', e = .returned (.tuple #[v', .int .i64 0]) ∧ New w w' v' val.length val := by
  obtain ⟨ckp, ckn, ckc, cvp, cvc, rfl, hv⟩ := hc
  have H := keep h
  have HK := keep hk
  have HV := keep hv
  have HL : Hid (∀ w', Below w.heap.size w w' → (Instr.lookup 220 (.map (some wm)) (.string ⟨key.toArray⟩) true).run Tryz.prog w' = .ok (.tuple #[.agg #[.slice ckp ckn ckc, .bool false, .slice cvp val.length cvc], .bool true]) w') := by
    intro w' hb
    have := writes_look (h.below hb).map key hkl
    rw [hx] at this
    exact this
  clear h hk hx hv
  go_enter Tryz.func60, Tryz.ntmps60
  go_wp2_with fail
  refine (tready tb eb wm gm seq l w H.out).mono ?_
  rintro e w1 ⟨rfl, rfl⟩
  go_wp2_with fail
  refine wp_region_held_drew (S := fun w' => Below w1.heap.size w1 w') (by kernel_rfl) ((Below.refl _ _).drew) (fun hHeld => ?_)
  refine takeH (i := 0) 15 (v := .pointer (some ⟨tb, 0, none⟩)) rfl rfl (by kernel_rfl) (by kernel_rfl) (by kernel_rfl) (fun _ _ _ h => h) (Or.inl ⟨by rfl, ?_⟩) (by assumption) ?_
  · intro w' hSw'
    go_simp
  simp only [Act.put, List.setIfInBounds_toArray, List.set_cons_zero, List.set_cons_succ]
  refine takeH (i := 1) 16 (v := .pointer (some ⟨tb, 0, none⟩)) rfl rfl (by kernel_rfl) (by kernel_rfl) (by kernel_rfl) (fun _ _ _ h => h) (Or.inl ⟨by rfl, ?_⟩) (by assumption) ?_
  · intro w' hSw'
    go_simp
  simp only [Act.put, List.setIfInBounds_toArray, List.set_cons_zero, List.set_cons_succ]
  refine takeH (i := 2) 17 (v := .pointer (some ⟨tb, 3, none⟩)) rfl rfl (by kernel_rfl) (by kernel_rfl) (by kernel_rfl) (fun _ _ _ h => h) (Or.inl ⟨by rfl, ?_⟩) (by assumption) ?_
  · intro w' hSw'
    go_simp
  simp only [Act.put, List.setIfInBounds_toArray, List.set_cons_zero, List.set_cons_succ]
  refine takeH (i := 3) 18 (v := .map (some wm)) rfl rfl (by kernel_rfl) (by kernel_rfl) (by kernel_rfl) (fun _ _ _ h => h) (Or.inl ⟨by rfl, ?_⟩) (by assumption) ?_
  · intro w' hSw'
    have TT := H.out.below hSw'
    have d1 := TT.t1
    have d2 := TT.t2
    have d3 := TT.t3
    go_simp
  simp only [Act.put, List.setIfInBounds_toArray, List.set_cons_zero, List.set_cons_succ]
  refine takeH (i := 4) 19 (v := .slice kp key.length kc) rfl rfl (by kernel_rfl) (by kernel_rfl) (by kernel_rfl) (fun _ _ _ h => h) (Or.inl ⟨by rfl, ?_⟩) (by assumption) ?_
  · intro w' hSw'
    go_simp
  simp only [Act.put, List.setIfInBounds_toArray, List.set_cons_zero, List.set_cons_succ]
  refine takeH (i := 5) 20 (v := .string ⟨key.toArray⟩) rfl rfl (by kernel_rfl) (by kernel_rfl) (by kernel_rfl) (fun _ _ _ h => h) (Or.inl ⟨by rfl, ?_⟩) (by assumption) ?_
  · intro w' hSw'
    have cs := conv_src (HK.out.below hSw')
    go_simp
  simp only [Act.put, List.setIfInBounds_toArray, List.set_cons_zero, List.set_cons_succ]
  refine takeH (i := 6) 21 (v := .tuple #[.agg #[.slice ckp ckn ckc, .bool false, .slice cvp val.length cvc], .bool true]) rfl rfl (by kernel_rfl) (by kernel_rfl) (by kernel_rfl) (fun _ _ _ h => h) (Or.inl ⟨by rfl, ?_⟩) (by assumption) ?_
  · intro w' hSw'
    have hl := HL.out w' hSw'
    go_simp
  simp only [Act.put, List.setIfInBounds_toArray, List.set_cons_zero, List.set_cons_succ]
  refine takeH (i := 7) 14 (v := .tuple #[.agg #[.slice ckp ckn ckc, .bool false, .slice cvp val.length cvc], .bool true]) rfl rfl (by kernel_rfl) (by kernel_rfl) (by kernel_rfl) (fun _ _ _ h => h) (Or.inl ⟨by rfl, ?_⟩) (by assumption) ?_
  · intro w' hSw'
    go_simp
  simp only [Act.put, List.setIfInBounds_toArray, List.set_cons_zero, List.set_cons_succ]
  refine takeH (i := 8) 0x16 (v := .agg #[.slice ckp ckn ckc, .bool false, .slice cvp val.length cvc]) rfl rfl (by kernel_rfl) (by kernel_rfl) (by kernel_rfl) (fun _ _ _ h => h) (Or.inl ⟨by rfl, ?_⟩) (by assumption) ?_
  · intro w' hSw'
    go_simp
  simp only [Act.put, List.setIfInBounds_toArray, List.set_cons_zero, List.set_cons_succ]
  refine takeH (i := 9) 23 (v := .bool true) rfl rfl (by kernel_rfl) (by kernel_rfl) (by kernel_rfl) (fun _ _ _ h => h) (Or.inl ⟨by rfl, ?_⟩) (by assumption) ?_
  · intro w' hSw'
    go_simp
  simp only [Act.put, List.setIfInBounds_toArray, List.set_cons_zero, List.set_cons_succ]
  refine wpAnyH_ready (rs := [10]) (by kernel_rfl) (by simp) ?_
  refine AllReadyH.cons rfl (fun K hK => ?_) AllReadyH.nil
  go_simp
  have b5 : Hid (Below w1.heap.size w1 (w1.drew.alloc (.cells #[.slice none 0 0, .bool false, .slice none 0 0] 230))) := ((Below.refl _ _).drew).alloc (Nat.le_refl _) _
  refine hK.out _ _ (b5.out) (fun hA2 => ?_)
  clear hK K
  refine wpAnyH_ready (rs := [11]) (by kernel_rfl) (by simp) ?_
  refine AllReadyH.cons rfl (fun K hK => ?_) AllReadyH.nil
  go_simp
  refine hK.out _ _ (((Below.refl _ _).drew).alloc (Nat.le_refl _) _) (fun hA3 => ?_)
  clear hK K
  refine takeH (i := 12) 8 (v := .bool true) rfl rfl (by kernel_rfl) (by kernel_rfl) (by kernel_rfl) (fun _ _ _ h => h) (Or.inl ⟨by rfl, ?_⟩) (by assumption) ?_
  · intro w' hSw'
    go_simp
  simp only [Act.put, List.setIfInBounds_toArray, List.set_cons_zero, List.set_cons_succ]
  refine wpAnyH_done (by kernel_rfl) ?_ _
  obtain ⟨w5, hw5⟩ : ∃ w5, (w1.alloc (.cells #[.slice ckp ckn ckc, .bool false, .slice cvp val.length cvc] 230)).drew = w5 := ⟨_, rfl⟩
  have B5 : Hid (Below w1.heap.size w1 w5) := by rw [← hw5]; exact ((Below.refl _ _).alloc (Nat.le_refl _) _).drew
  have G5 : Hid (w5.heap[w1.heap.size]? = some (.cells #[.slice ckp ckn ckc, .bool false, .slice cvp val.length cvc] 230)) := by rw [← hw5]; exact heap_alloc_new w1 _
  have x1 : w5.cell? ⟨w1.heap.size, 1, none⟩ = some (.bool false) := cell_of_row _ _ _ _ _ _ G5.out
  have x2 : w5.cell? ⟨w1.heap.size, 2, none⟩ = some (.slice cvp val.length cvc) := cell_of_row _ _ _ _ _ _ G5.out
  rw [hw5]
  clear hw5
  go_wp2_with fail
  refine (clone_any cvp val.length cvc val _ hvl (HV.out.below B5.out)).mono ?_
  rintro e w6 ⟨v6, rfl, hn6⟩
  have N6 := keep (New.after B5.out hn6)
  clear hn6
  go_wp2
  go_ret2
  exact ⟨_, rfl, N6.out⟩
end Go.Proofs.YtbgdkkcobcmpoaaGreatDoor
