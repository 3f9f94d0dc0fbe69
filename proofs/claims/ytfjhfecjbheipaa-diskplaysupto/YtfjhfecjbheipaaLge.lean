/- DiskPlays' walk. -/
import Derived.Test.YtfjhfecjbheipaaLgb
import Derived.Test.YtfjhfecjbheipaaLgc
import Derived.Test.YtfjhfecjbheipaaLgd
import Derived.Test.YtfjhfecjbheipaaLgo
import Derived.Test.YtfjhfecjbheipaaRd4
import Derived.Test.YtfjhfecjbheipaaSy
namespace Go.Proofs.Ytfjhfecjbheipaa
open Go.RowKit
open Dk (File Disk)

/-- A walk under a narrower condition is one under a wider. -/
theorem wpAnyH_narrow {P : Program} {md : Region.Mode} {ops : Array Oper} {Q : Exit → Act → World → Prop} {S1 S2 : World → Prop} (h12 : ∀ w, S2 w → S1 w) : ∀ (fuel : Nat) (listed : Array Bool) (a : Act) (w : World), wpAnyH P md ops Q S2 fuel listed a w → wpAnyH P md ops Q S1 fuel listed a w
  | 0, _, _, _, h => h
  | fuel + 1, _, _, _, h => ⟨h.1, fun i hi => wpOp_mono (fun a' w' h' => ⟨h12 w' h'.1, wpAnyH_narrow h12 fuel _ a' w' h'.2⟩) (h.2 i hi)⟩
theorem cap_of {cap : Int} {es : List Ent} {d : Disk} (h : ldOf cap es = .inr d) : d.done = 0 := by
  obtain ⟨_, _, fs, _, rfl, _⟩ := ldOf_good h
  rfl
set_option maxHeartbeats 8000000 in
set_option maxRecDepth 100000 in
theorem diskPlays_walk (cap : Int) (ao : Option Addr) (n c : Nat) (es : List Ent) (pa : Option Addr) (m mc : Nat) (os : List OpE) (w : World) (hs : RSrc fileKind w ao n c es) (hn : n ≤ 1073741824) (hb : bulk es ≤ 1152921504606846976) (hby : ∀ e ∈ es, e.bytes.length ≤ 140737488355328) (hnl : ∀ e ∈ es, e.name.length ≤ maxLen) (hp : RSrc opKind w pa m mc os) (hpc : mc ≤ maxLen) (hf : ∀ e ∈ os, Fine e) :
    Calls Try.prog 3 #[.int .i64 cap, .slice ao n c, .slice pa m mc] w fun e w' => e = .returned (.bool true) ∧ Below w.heap.size w w' := by
  have AW := keep (awake_any w)
  have HS := keep hs
  have HB := keep hb
  have HBY := keep hby
  have HNL := keep hnl
  have HP := keep hp
  have HPC := keep hpc
  have HF := keep hf
  clear hs hb hby hnl hp hpc hf
  go_enter Try.func3, Try.ntmps3
  go_wp2_with fail
  refine AW.out.mono ?_
  rintro e w1 ⟨rfl, hb1⟩
  have B1 := keep hb1
  have MI := keep (minef_any ao n c es w1 (HS.out.below fileKind_ok hb1) (by omega))
  clear hb1 AW
  go_wp2_with fail
  refine MI.out.mono ?_
  rintro e w2 ⟨ao2, c2, rfl, hs2, hb2⟩
  have B2 := keep (B1.out.trans (hb2.mono B1.out.size))
  have LD := keep (load_any cap ao2 n c2 es w2 hs2 hn HB.out HBY.out HNL.out)
  clear hb2 hs2 MI
  go_wp2_with fail
  refine LD.out.mono ?_
  rintro e w3 ⟨hb3, hr⟩
  have B3 := keep (B2.out.trans (hb3.mono B2.out.size))
  have S3 := keep (HS.out.below fileKind_ok B3.out)
  rcases hr with ⟨z, hz, rfl⟩ | ⟨S, b, d, hd, rfl, hm, hn3, hb0⟩
  · have HZ := keep hz
    have RL := keep (rload_any (fun _ => False) cap ao n c es w3 (fun g hg => hg.elim) S3.out hn HB.out HBY.out)
    clear hb3 hz LD
    go_wp2_with fail
    refine RL.out.mono ?_
    rintro e w4 ⟨hb4, hr⟩
    have B4 := keep (B3.out.trans (hb4.mono B3.out.size))
    obtain ⟨z2, hz2, rfl⟩ : ∃ z2 : Nat, ldOf cap es = .inl z2 ∧ e = .returned (.tuple #[.pointer none, .int .i64 (z2 : Int)]) := by
      rcases hr with h | ⟨d, q, h, _⟩
      · exact h
      · rw [HZ.out] at h; cases h
    obtain rfl : z = z2 := by rw [HZ.out] at hz2; cases hz2; rfl
    clear hb4 hr hz2 RL
    go_wp2_with fail
    go_loopw [12] (fun i wr => wr = w4 ∧ i = .int .i64 0) (fun i _ => 0)
    case atStart => exact ⟨rfl, rfl⟩
    case round =>
      obtain ⟨rfl, rfl⟩ := hrel
      go_wp2
      go_ret
      exact ⟨rfl, B4.out⟩
  · have HD := keep hd
    have I3 : Hid (Own w S w3 b d) := ⟨hm, fun g hg => Nat.le_trans B2.out.size (hn3 g hg), Nat.le_trans B2.out.size hb0, B3.out⟩
    have RL := keep (rload_any (Go.Proofs.Ytfjhfecjbheipaa.mine S b) cap ao n c es w3 (fun g hg => (I3.out.mines g hg).2) S3.out hn HB.out HBY.out)
    clear hb3 hd LD hm hn3 hb0
    go_wp2_with fail
    refine RL.out.mono ?_
    rintro e w4 ⟨hb4, hr⟩
    obtain ⟨q, rfl, hq, hlq⟩ : ∃ q, e = .returned (.tuple #[.pointer (some ⟨q, 0, none⟩), .int .i64 0]) ∧ Ref (Go.Proofs.Ytfjhfecjbheipaa.mine S b) w4 q d ∧ w3.heap.size ≤ q := by
      rcases hr with ⟨z, h, _⟩ | ⟨d2, q, h, h1, h2, h3⟩
      · rw [HD.out] at h; cases h
      · rw [HD.out] at h; cases h; exact ⟨q, h1, h2, h3⟩
    have B4 : Hid (Both (fun _ => True) w S w4 b q d d ∧ d.done ≤ 0) := ⟨⟨I3.out.next hb4, hq, Nat.le_trans B3.out.size hlq, fun _ _ => trivial⟩, Nat.le_of_eq (cap_of HD.out)⟩
    clear hb4 hr hq hlq RL
    go_wp2_with fail
    go_loopw [12] (fun i wr => ∃ (t : Nat) (S : Nat → Prop) (D : Disk), t ≤ m ∧ t ≤ 100 ∧ i = .int .i64 (t : Int) ∧ Hid (Both (fun _ => True) w S wr b q D D ∧ D.done ≤ t)) (fun i _ => 100 - (intOf i).toNat)
    case atStart => exact ⟨0, S, d, Nat.zero_le _, by omega, rfl, B4.out⟩
    case round =>
      obtain ⟨t, S1, D, ht, ht2, rfl, HI⟩ := hrel
      clear B4 I3
      have j0 : (0 : Int) ≤ (t : Int) := by omega
      rcases Nat.lt_or_ge t m with hlt | hge
      · have j1 : (t : Int) < (m : Int) := by omega
        rcases Nat.lt_or_ge t 100 with hl | hg
        · have j2 : (t : Int) < 100 := by omega
          obtain ⟨o, ho⟩ : ∃ o, os[t]? = some o := ⟨os[t]'(by rw [HP.out.len]; exact hlt), List.getElem?_eq_getElem _⟩
          obtain ⟨bb, off, rfl, _, hat⟩ := HP.out.form opKind_ok (by omega)
          have ST := keep (step_any (X := fun _ => True) w S1 wr.drew b q D D o (HI.out.1.next (Below.refl _ _).drew) (HP.out.held o (List.mem_of_getElem? ho)) (HF.out o (List.mem_of_getElem? ho)) (by have := HI.out.2; omega) (by have := HI.out.2; omega))
          have ON := keep (opOn_done (tag o.what) o D).1
          obtain ⟨wh, z, a, b2, da0, dc0, da, pp, pc, ps⟩ := o
          have SC : Hid (∀ w', Below w.heap.size w w' → w'.cell? ⟨bb, off + t * 6, none⟩ = some (.int .i64 wh) ∧ w'.cell? ⟨bb, off + t * 6 + 1, none⟩ = some (.int .i64 z) ∧ w'.cell? ⟨bb, off + t * 6 + 2, none⟩ = some (.string ⟨a.toArray⟩) ∧ w'.cell? ⟨bb, off + t * 6 + 3, none⟩ = some (.string ⟨b2.toArray⟩) ∧ w'.cell? ⟨bb, off + t * 6 + 4, none⟩ = some (.slice da0 da.length dc0) ∧ w'.cell? ⟨bb, off + t * 6 + 5, none⟩ = some (.slice pp ps.length pc)) := fun w' hb => ⟨below_cell hb (hat t _ ho 0 _ rfl), below_cell hb (hat t _ ho 1 _ rfl), below_cell hb (hat t _ ho 2 _ rfl), below_cell hb (hat t _ ho 3 _ rfl), below_cell hb (hat t _ ho 4 _ rfl), below_cell hb (hat t _ ho 5 _ rfl)⟩
          clear hat ho
          go_wp2_with fail
          refine wp_region_held_drew (S := fun w' => Below w.heap.size w w') (by kernel_rfl) (HI.out.1.own.bel.drew) (fun hHeld => ?_)
          refine takeH (i := 0) 55 (v := .pointer (some ⟨b, 0, none⟩)) rfl rfl (by kernel_rfl) (by kernel_rfl) (by kernel_rfl) (fun _ _ _ h => h) (Or.inl ⟨by rfl, ?_⟩) (by assumption) ?_
          · intro w' hSw'
            go_simp
          simp only [Act.put, List.setIfInBounds_toArray, List.set_cons_zero, List.set_cons_succ]
          refine takeH (i := 1) 56 (v := .pointer (some ⟨q, 0, none⟩)) rfl rfl (by kernel_rfl) (by kernel_rfl) (by kernel_rfl) (fun _ _ _ h => h) (Or.inl ⟨by rfl, ?_⟩) (by assumption) ?_
          · intro w' hSw'
            go_simp
          simp only [Act.put, List.setIfInBounds_toArray, List.set_cons_zero, List.set_cons_succ]
          refine takeH (i := 2) 57 (v := .slice (some ⟨bb, off, none⟩) m mc) rfl rfl (by kernel_rfl) (by kernel_rfl) (by kernel_rfl) (fun _ _ _ h => h) (Or.inl ⟨by rfl, ?_⟩) (by assumption) ?_
          · intro w' hSw'
            go_simp
          simp only [Act.put, List.setIfInBounds_toArray, List.set_cons_zero, List.set_cons_succ]
          refine takeH (i := 3) 58 (v := .int .i64 (t : Int)) rfl rfl (by kernel_rfl) (by kernel_rfl) (by kernel_rfl) (fun _ _ _ h => h) (Or.inl ⟨by rfl, ?_⟩) (by assumption) ?_
          · intro w' hSw'
            go_simp
          simp only [Act.put, List.setIfInBounds_toArray, List.set_cons_zero, List.set_cons_succ]
          refine takeH (i := 4) 59 (v := .pointer (some ⟨bb, off + t * 6, none⟩)) rfl rfl (by kernel_rfl) (by kernel_rfl) (by kernel_rfl) (fun _ _ _ h => h) (Or.inl ⟨by rfl, ?_⟩) (by assumption) ?_
          · intro w' hSw'
            go_simp
          simp only [Act.put, List.setIfInBounds_toArray, List.set_cons_zero, List.set_cons_succ]
          refine takeH (i := 5) 60 (v := .agg #[.int .i64 wh, .int .i64 z, .string ⟨a.toArray⟩, .string ⟨b2.toArray⟩, .slice da0 da.length dc0, .slice pp ps.length pc]) rfl rfl (by kernel_rfl) (by kernel_rfl) (by kernel_rfl) (fun _ _ _ h => h) (Or.inl ⟨by rfl, ?_⟩) (by assumption) ?_
          · intro w' hSw'
            obtain ⟨d0, d1, d2, d3, d4, d5⟩ := SC.out w' hSw'
            go_simp
          simp only [Act.put, List.setIfInBounds_toArray, List.set_cons_zero, List.set_cons_succ]
          refine wpAnyH_ready (rs := [6]) (by kernel_rfl) (by simp) ?_
          refine AllReadyH.cons rfl (fun K hK => ?_) AllReadyH.nil
          go_simp
          refine (ST.out).mono ?_
          rintro e w3 ⟨S2, x3, rfl, hx3, hB3⟩
          obtain rfl : x3 = true := by first | exact hx3 | exact hx3.2 rfl | exact hx3.2 trivial
          obtain ⟨D3, hD3⟩ : ∃ D3, (opOn (tag wh) ⟨wh, z, a, b2, da0, dc0, da, pp, pc, ps⟩ D).2 = D3 := ⟨_, rfl⟩
          have hdn3 := ON.out
          try simp only at hB3
          try simp only at hdn3
          rw [hD3] at hB3 hdn3
          have B3 : Hid (Both (fun _ => True) w S2 w3 b q D3 D3 ∧ D3.done ≤ t + 1) := ⟨hB3, by have := HI.out.2; omega⟩
          clear hB3 hdn3 hx3 hD3
          obtain ⟨N, hN⟩ : ∃ N, D3.files.length = N := ⟨_, rfl⟩
          obtain ⟨KD, hK0⟩ : ∃ KD, D3.done = KD := ⟨_, rfl⟩
          obtain ⟨dk, hdk⟩ : ∃ dk, D3.dark = dk := ⟨_, rfl⟩
          obtain ⟨FR, hFR⟩ : ∃ FR : Int, (D3.cap : Int) - (Dk.used D3.files : Int) = FR := ⟨_, rfl⟩
          obtain ⟨ra, rn, rc, res, hRA⟩ := B3.out.1.ref
          obtain rfl : rn = N := hRA.rows.len.trans hN
          have QC : Hid (∀ w', Below w3.heap.size w3 w' → w'.cell? ⟨q, 1, none⟩ = some (.slice ra rn rc) ∧ w'.cell? ⟨q, 2, none⟩ = some (.int .i64 (KD : Int)) ∧ w'.cell? ⟨q, 4, none⟩ = some (.bool dk)) := fun w' hb => by
            have h1 := (hRA.below hb).box
            refine ⟨h1.c1, ?_, ?_⟩
            · rw [← hK0]; exact h1.c2
            · rw [← hdk]; exact h1.c4
          have FA : Hid (∀ w', Below w3.heap.size w3 w' → Calls Try.prog 9 #[.pointer (some ⟨b, 0, none⟩)] w' fun e w'' => e = .returned (.int .i64 FR) ∧ Below w'.heap.size w' w'') := fun w' hb => by rw [← hFR]; exact free_mem S2 b D3 w' (B3.out.1.own.mem.below hb)
          have FB : Hid (∀ w', Below w3.heap.size w3 w' → Calls Try.prog 10 #[.pointer (some ⟨q, 0, none⟩)] w' fun e w'' => e = .returned (.int .i64 FR) ∧ Below w'.heap.size w' w'') := fun w' hb => by
            rw [← hFR]
            have h1 := hRA.below hb
            exact rfree_any _ q D3.cap ra rn rc res D3.files w' h1.box.c0 h1.box.c1 h1.rows h1.few h1.capb (by have := h1.good.room; have := h1.capb; omega)
          have OA : Hid (∀ w', Below w3.heap.size w3 w' → Calls Try.prog 11 #[.pointer (some ⟨b, 0, none⟩)] w' fun e w'' => e = .returned (.int .i64 (KD : Int)) ∧ Below w'.heap.size w' w'') := fun w' hb => by rw [← hK0]; exact ops_mem S2 b D3 w' (B3.out.1.own.mem.below hb)
          have OF : Hid (∀ w', Below w3.heap.size w3 w' → Calls Try.prog 12 #[.pointer (some ⟨b, 0, none⟩)] w' fun e w'' => e = .returned (.bool dk) ∧ Below w'.heap.size w' w'') := fun w' hb => by rw [← hdk]; exact off_mem S2 b D3 w' (B3.out.1.own.mem.below hb)
          have NA : Hid (∀ w', Below w3.heap.size w3 w' → Calls Try.prog 13 #[.pointer (some ⟨b, 0, none⟩)] w' fun e w'' => ∃ na nc, e = .returned (.slice na rn nc) ∧ Below w'.heap.size w' w'') := fun w' hb => by
            obtain ⟨ml, l, left, h⟩ := B3.out.1.own.mem.below hb
            refine (names_mem S2 b ml l left D3 w' h).mono ?_
            rintro e w'' ⟨na, nc, rfl, _, _, h2⟩
            exact ⟨na, nc, by rw [hN], h2⟩
          have DA : Hid (∀ w', Below w3.heap.size w3 w' → Calls Try.prog 16 #[.pointer (some ⟨b, 0, none⟩)] w' fun e w'' => ∃ da c1 e1, e = .returned (.slice da rn c1) ∧ Rows4 (Old w'.heap.size) w'' da rn c1 e1 D3.files ∧ Below w'.heap.size w' w'') := fun w' hb => by
            refine (dump_mem S2 b D3 w' (B3.out.1.own.mem.below hb)).mono ?_
            rintro e w'' ⟨da, c1, e1, rfl, _, h1, h2, h3⟩
            rw [hN] at h1 ⊢
            exact ⟨da, c1, e1, rfl, ⟨h1, h2, hN.symm⟩, h3⟩
          have DB : Hid (∀ w', Below w3.heap.size w3 w' → Calls Try.prog 17 #[.pointer (some ⟨q, 0, none⟩)] w' fun e w'' => ∃ da c1 e1, e = .returned (.slice da rn c1) ∧ Rows4 (Old w'.heap.size) w'' da rn c1 e1 D3.files ∧ Below w'.heap.size w' w'') := fun w' hb => by
            refine (rdump_any _ q D3 w' ⟨ra, rn, rc, res, hRA.below hb⟩).mono ?_
            rintro e w'' ⟨da, c1, e1, rfl, _, h1, h3⟩
            rw [hN] at h1 ⊢
            exact ⟨da, c1, e1, rfl, h1, h3⟩
          have RN : Hid (rn ≤ 1099511627776) := hRA.few
          clear hN hK0 hdk hFR hRA
          go_wp2_with fail
          refine hK.out _ _ (B3.out.1.own.bel) (fun hHeld1 => ?_)
          clear hK K
          refine wpAnyH_narrow (S2 := fun w' => Below w3.heap.size w3 w') (fun w' hb => B3.out.1.own.bel.trans (hb.mono B3.out.1.own.bel.size)) _ _ _ _ ?_
          have hN3 : (fun w' => Below w3.heap.size w3 w') w3 := Below.refl _ _
          refine takeH (i := 7) 62 (v := .bool false) rfl rfl (by kernel_rfl) (by kernel_rfl) (by kernel_rfl) (fun _ _ _ h => h) (Or.inl ⟨by rfl, ?_⟩) (by assumption) ?_
          · intro w' hSw'
            go_simp
          simp only [Act.put, List.setIfInBounds_toArray, List.set_cons_zero, List.set_cons_succ]
          refine takeH (i := 8) 63 (v := .bool false) rfl rfl (by kernel_rfl) (by kernel_rfl) (by kernel_rfl) (fun _ _ _ h => h) (Or.inl ⟨by rfl, ?_⟩) (by assumption) ?_
          · intro w' hSw'
            go_simp
          simp only [Act.put, List.setIfInBounds_toArray, List.set_cons_zero, List.set_cons_succ]
          refine takeH (i := 9) 64 (v := .pointer (some ⟨b, 0, none⟩)) rfl rfl (by kernel_rfl) (by kernel_rfl) (by kernel_rfl) (fun _ _ _ h => h) (Or.inl ⟨by rfl, ?_⟩) (by assumption) ?_
          · intro w' hSw'
            go_simp
          simp only [Act.put, List.setIfInBounds_toArray, List.set_cons_zero, List.set_cons_succ]
          refine takeH (i := 11) 66 (v := .pointer (some ⟨q, 0, none⟩)) rfl rfl (by kernel_rfl) (by kernel_rfl) (by kernel_rfl) (fun _ _ _ h => h) (Or.inl ⟨by rfl, ?_⟩) (by assumption) ?_
          · intro w' hSw'
            go_simp
          simp only [Act.put, List.setIfInBounds_toArray, List.set_cons_zero, List.set_cons_succ]
          refine wpAnyH_ready (rs := [10]) (by kernel_rfl) (by simp) ?_
          refine AllReadyH.cons rfl (fun K hK => ?_) AllReadyH.nil
          go_simp
          refine (FA.out _ (Below.refl w3.heap.size w3)).mono ?_
          rintro e w4 ⟨rfl, hb4⟩
          have b4 : Hid (Below w3.heap.size w3 w4) := (Below.refl w3.heap.size w3).trans (hb4.mono (Below.refl w3.heap.size w3).size)
          clear hb4
          go_wp2_with fail
          refine hK.out _ _ (b4.out) (fun hHeld2 => ?_)
          clear hK K
          refine wpAnyH_ready (rs := [12]) (by kernel_rfl) (by simp) ?_
          refine AllReadyH.cons rfl (fun K hK => ?_) AllReadyH.nil
          go_simp
          refine (FB.out _ b4.out).mono ?_
          rintro e w5 ⟨rfl, hb5⟩
          have b5 : Hid (Below w3.heap.size w3 w5) := b4.out.trans (hb5.mono b4.out.size)
          clear hb5
          go_wp2_with fail
          refine hK.out _ _ (b5.out) (fun hHeld3 => ?_)
          clear hK K
          refine takeH (i := 13) 68 (v := .bool false) rfl rfl (by kernel_rfl) (by kernel_rfl) (by kernel_rfl) (fun _ _ _ h => h) (Or.inl ⟨by rfl, ?_⟩) (by assumption) ?_
          · intro w' hSw'
            go_simp
            all_goals (first | simp | simp_all)
          simp only [Act.put, List.setIfInBounds_toArray, List.set_cons_zero, List.set_cons_succ]
          refine takeH (i := 14) 69 (v := .bool false) rfl rfl (by kernel_rfl) (by kernel_rfl) (by kernel_rfl) (fun _ _ _ h => h) (Or.inl ⟨by rfl, ?_⟩) (by assumption) ?_
          · intro w' hSw'
            go_simp
          simp only [Act.put, List.setIfInBounds_toArray, List.set_cons_zero, List.set_cons_succ]
          refine takeH (i := 15) 70 (v := .bool false) rfl rfl (by kernel_rfl) (by kernel_rfl) (by kernel_rfl) (fun _ _ _ h => h) (Or.inl ⟨by rfl, ?_⟩) (by assumption) ?_
          · intro w' hSw'
            go_simp
          simp only [Act.put, List.setIfInBounds_toArray, List.set_cons_zero, List.set_cons_succ]
          refine takeH (i := 16) 71 (v := .pointer (some ⟨b, 0, none⟩)) rfl rfl (by kernel_rfl) (by kernel_rfl) (by kernel_rfl) (fun _ _ _ h => h) (Or.inl ⟨by rfl, ?_⟩) (by assumption) ?_
          · intro w' hSw'
            go_simp
          simp only [Act.put, List.setIfInBounds_toArray, List.set_cons_zero, List.set_cons_succ]
          refine takeH (i := 18) 73 (v := .pointer (some ⟨q, 0, none⟩)) rfl rfl (by kernel_rfl) (by kernel_rfl) (by kernel_rfl) (fun _ _ _ h => h) (Or.inl ⟨by rfl, ?_⟩) (by assumption) ?_
          · intro w' hSw'
            go_simp
          simp only [Act.put, List.setIfInBounds_toArray, List.set_cons_zero, List.set_cons_succ]
          refine takeH (i := 19) 74 (v := .pointer (some ⟨q, 0, none⟩)) rfl rfl (by kernel_rfl) (by kernel_rfl) (by kernel_rfl) (fun _ _ _ h => h) (Or.inl ⟨by rfl, ?_⟩) (by assumption) ?_
          · intro w' hSw'
            go_simp
          simp only [Act.put, List.setIfInBounds_toArray, List.set_cons_zero, List.set_cons_succ]
          refine takeH (i := 20) 75 (v := .pointer (some ⟨q, 2, none⟩)) rfl rfl (by kernel_rfl) (by kernel_rfl) (by kernel_rfl) (fun _ _ _ h => h) (Or.inl ⟨by rfl, ?_⟩) (by assumption) ?_
          · intro w' hSw'
            go_simp
          simp only [Act.put, List.setIfInBounds_toArray, List.set_cons_zero, List.set_cons_succ]
          refine takeH (i := 21) 76 (v := .int .i64 (KD : Int)) rfl rfl (by kernel_rfl) (by kernel_rfl) (by kernel_rfl) (fun _ _ _ h => h) (Or.inl ⟨by rfl, ?_⟩) (by assumption) ?_
          · intro w' hSw'
            obtain ⟨k0, k1, k2⟩ := QC.out w' hSw'
            go_simp
          simp only [Act.put, List.setIfInBounds_toArray, List.set_cons_zero, List.set_cons_succ]
          refine wpAnyH_ready (rs := [17]) (by kernel_rfl) (by simp) ?_
          refine AllReadyH.cons rfl (fun K hK => ?_) AllReadyH.nil
          go_simp
          refine (OA.out _ b5.out).mono ?_
          rintro e w6 ⟨rfl, hb6⟩
          have b6 : Hid (Below w3.heap.size w3 w6) := b5.out.trans (hb6.mono b5.out.size)
          clear hb6
          go_wp2_with fail
          refine hK.out _ _ (b6.out) (fun hHeld4 => ?_)
          clear hK K
          refine takeH (i := 0x16) 77 (v := .bool false) rfl rfl (by kernel_rfl) (by kernel_rfl) (by kernel_rfl) (fun _ _ _ h => h) (Or.inl ⟨by rfl, ?_⟩) (by assumption) ?_
          · intro w' hSw'
            go_simp
            all_goals (first | simp | simp_all)
          simp only [Act.put, List.setIfInBounds_toArray, List.set_cons_zero, List.set_cons_succ]
          refine takeH (i := 23) 78 (v := .bool false) rfl rfl (by kernel_rfl) (by kernel_rfl) (by kernel_rfl) (fun _ _ _ h => h) (Or.inl ⟨by rfl, ?_⟩) (by assumption) ?_
          · intro w' hSw'
            go_simp
          simp only [Act.put, List.setIfInBounds_toArray, List.set_cons_zero, List.set_cons_succ]
          refine takeH (i := 24) 79 (v := .bool false) rfl rfl (by kernel_rfl) (by kernel_rfl) (by kernel_rfl) (fun _ _ _ h => h) (Or.inl ⟨by rfl, ?_⟩) (by assumption) ?_
          · intro w' hSw'
            go_simp
          simp only [Act.put, List.setIfInBounds_toArray, List.set_cons_zero, List.set_cons_succ]
          refine takeH (i := 25) 80 (v := .pointer (some ⟨b, 0, none⟩)) rfl rfl (by kernel_rfl) (by kernel_rfl) (by kernel_rfl) (fun _ _ _ h => h) (Or.inl ⟨by rfl, ?_⟩) (by assumption) ?_
          · intro w' hSw'
            go_simp
          simp only [Act.put, List.setIfInBounds_toArray, List.set_cons_zero, List.set_cons_succ]
          refine takeH (i := 27) 82 (v := .pointer (some ⟨q, 0, none⟩)) rfl rfl (by kernel_rfl) (by kernel_rfl) (by kernel_rfl) (fun _ _ _ h => h) (Or.inl ⟨by rfl, ?_⟩) (by assumption) ?_
          · intro w' hSw'
            go_simp
          simp only [Act.put, List.setIfInBounds_toArray, List.set_cons_zero, List.set_cons_succ]
          refine takeH (i := 28) 83 (v := .pointer (some ⟨q, 0, none⟩)) rfl rfl (by kernel_rfl) (by kernel_rfl) (by kernel_rfl) (fun _ _ _ h => h) (Or.inl ⟨by rfl, ?_⟩) (by assumption) ?_
          · intro w' hSw'
            go_simp
          simp only [Act.put, List.setIfInBounds_toArray, List.set_cons_zero, List.set_cons_succ]
          refine takeH (i := 29) 84 (v := .pointer (some ⟨q, 4, none⟩)) rfl rfl (by kernel_rfl) (by kernel_rfl) (by kernel_rfl) (fun _ _ _ h => h) (Or.inl ⟨by rfl, ?_⟩) (by assumption) ?_
          · intro w' hSw'
            go_simp
          simp only [Act.put, List.setIfInBounds_toArray, List.set_cons_zero, List.set_cons_succ]
          refine takeH (i := 30) 85 (v := .bool dk) rfl rfl (by kernel_rfl) (by kernel_rfl) (by kernel_rfl) (fun _ _ _ h => h) (Or.inl ⟨by rfl, ?_⟩) (by assumption) ?_
          · intro w' hSw'
            obtain ⟨k0, k1, k2⟩ := QC.out w' hSw'
            go_simp
          simp only [Act.put, List.setIfInBounds_toArray, List.set_cons_zero, List.set_cons_succ]
          refine wpAnyH_ready (rs := [26]) (by kernel_rfl) (by simp) ?_
          refine AllReadyH.cons rfl (fun K hK => ?_) AllReadyH.nil
          go_simp
          refine (OF.out _ b6.out).mono ?_
          rintro e w7 ⟨rfl, hb7⟩
          have b7 : Hid (Below w3.heap.size w3 w7) := b6.out.trans (hb7.mono b6.out.size)
          clear hb7
          go_wp2_with fail
          refine hK.out _ _ (b7.out) (fun hHeld5 => ?_)
          clear hK K
          refine takeH (i := 31) 86 (v := .bool false) rfl rfl (by kernel_rfl) (by kernel_rfl) (by kernel_rfl) (fun _ _ _ h => h) (Or.inl ⟨by rfl, ?_⟩) (by assumption) ?_
          · intro w' hSw'
            go_simp
            all_goals (first | simp | simp_all)
          simp only [Act.put, List.setIfInBounds_toArray, List.set_cons_zero, List.set_cons_succ]
          refine takeH (i := 32) 87 (v := .bool false) rfl rfl (by kernel_rfl) (by kernel_rfl) (by kernel_rfl) (fun _ _ _ h => h) (Or.inl ⟨by rfl, ?_⟩) (by assumption) ?_
          · intro w' hSw'
            go_simp
          simp only [Act.put, List.setIfInBounds_toArray, List.set_cons_zero, List.set_cons_succ]
          refine takeH (i := 33) 88 (v := .bool false) rfl rfl (by kernel_rfl) (by kernel_rfl) (by kernel_rfl) (fun _ _ _ h => h) (Or.inl ⟨by rfl, ?_⟩) (by assumption) ?_
          · intro w' hSw'
            go_simp
          simp only [Act.put, List.setIfInBounds_toArray, List.set_cons_zero, List.set_cons_succ]
          refine takeH (i := 34) 89 (v := .pointer (some ⟨b, 0, none⟩)) rfl rfl (by kernel_rfl) (by kernel_rfl) (by kernel_rfl) (fun _ _ _ h => h) (Or.inl ⟨by rfl, ?_⟩) (by assumption) ?_
          · intro w' hSw'
            go_simp
          simp only [Act.put, List.setIfInBounds_toArray, List.set_cons_zero, List.set_cons_succ]
          refine takeH (i := 37) 92 (v := .pointer (some ⟨q, 0, none⟩)) rfl rfl (by kernel_rfl) (by kernel_rfl) (by kernel_rfl) (fun _ _ _ h => h) (Or.inl ⟨by rfl, ?_⟩) (by assumption) ?_
          · intro w' hSw'
            go_simp
          simp only [Act.put, List.setIfInBounds_toArray, List.set_cons_zero, List.set_cons_succ]
          refine takeH (i := 38) 93 (v := .pointer (some ⟨q, 0, none⟩)) rfl rfl (by kernel_rfl) (by kernel_rfl) (by kernel_rfl) (fun _ _ _ h => h) (Or.inl ⟨by rfl, ?_⟩) (by assumption) ?_
          · intro w' hSw'
            go_simp
          simp only [Act.put, List.setIfInBounds_toArray, List.set_cons_zero, List.set_cons_succ]
          refine takeH (i := 39) 94 (v := .pointer (some ⟨q, 1, none⟩)) rfl rfl (by kernel_rfl) (by kernel_rfl) (by kernel_rfl) (fun _ _ _ h => h) (Or.inl ⟨by rfl, ?_⟩) (by assumption) ?_
          · intro w' hSw'
            go_simp
          simp only [Act.put, List.setIfInBounds_toArray, List.set_cons_zero, List.set_cons_succ]
          refine takeH (i := 40) 95 (v := .slice ra rn rc) rfl rfl (by kernel_rfl) (by kernel_rfl) (by kernel_rfl) (fun _ _ _ h => h) (Or.inl ⟨by rfl, ?_⟩) (by assumption) ?_
          · intro w' hSw'
            obtain ⟨k0, k1, k2⟩ := QC.out w' hSw'
            go_simp
          simp only [Act.put, List.setIfInBounds_toArray, List.set_cons_zero, List.set_cons_succ]
          refine takeH (i := 41) 96 (v := .int .i64 (rn : Int)) rfl rfl (by kernel_rfl) (by kernel_rfl) (by kernel_rfl) (fun _ _ _ h => h) (Or.inl ⟨by rfl, ?_⟩) (by assumption) ?_
          · intro w' hSw'
            go_simp
          simp only [Act.put, List.setIfInBounds_toArray, List.set_cons_zero, List.set_cons_succ]
          refine wpAnyH_ready (rs := [35]) (by kernel_rfl) (by simp) ?_
          refine AllReadyH.cons rfl (fun K hK => ?_) AllReadyH.nil
          go_simp
          refine (NA.out _ b7.out).mono ?_
          rintro e w8 ⟨na, nc, rfl, hb8⟩
          have b8 : Hid (Below w3.heap.size w3 w8) := b7.out.trans (hb8.mono b7.out.size)
          clear hb8
          go_wp2_with fail
          refine hK.out _ _ (b8.out) (fun hHeld6 => ?_)
          clear hK K
          refine takeH (i := 36) 91 (v := .int .i64 (rn : Int)) rfl rfl (by kernel_rfl) (by kernel_rfl) (by kernel_rfl) (fun _ _ _ h => h) (Or.inl ⟨by rfl, ?_⟩) (by assumption) ?_
          · intro w' hSw'
            go_simp
          simp only [Act.put, List.setIfInBounds_toArray, List.set_cons_zero, List.set_cons_succ]
          refine takeH (i := 42) 97 (v := .bool false) rfl rfl (by kernel_rfl) (by kernel_rfl) (by kernel_rfl) (fun _ _ _ h => h) (Or.inl ⟨by rfl, ?_⟩) (by assumption) ?_
          · intro w' hSw'
            go_simp
            all_goals (first | simp | simp_all)
          simp only [Act.put, List.setIfInBounds_toArray, List.set_cons_zero, List.set_cons_succ]
          refine takeH (i := 43) 98 (v := .bool false) rfl rfl (by kernel_rfl) (by kernel_rfl) (by kernel_rfl) (fun _ _ _ h => h) (Or.inl ⟨by rfl, ?_⟩) (by assumption) ?_
          · intro w' hSw'
            go_simp
          simp only [Act.put, List.setIfInBounds_toArray, List.set_cons_zero, List.set_cons_succ]
          refine takeH (i := 44) 99 (v := .bool false) rfl rfl (by kernel_rfl) (by kernel_rfl) (by kernel_rfl) (fun _ _ _ h => h) (Or.inl ⟨by rfl, ?_⟩) (by assumption) ?_
          · intro w' hSw'
            go_simp
          simp only [Act.put, List.setIfInBounds_toArray, List.set_cons_zero, List.set_cons_succ]
          refine takeH (i := 45) 100 (v := .pointer (some ⟨b, 0, none⟩)) rfl rfl (by kernel_rfl) (by kernel_rfl) (by kernel_rfl) (fun _ _ _ h => h) (Or.inl ⟨by rfl, ?_⟩) (by assumption) ?_
          · intro w' hSw'
            go_simp
          simp only [Act.put, List.setIfInBounds_toArray, List.set_cons_zero, List.set_cons_succ]
          refine takeH (i := 48) 103 (v := .pointer (some ⟨q, 0, none⟩)) rfl rfl (by kernel_rfl) (by kernel_rfl) (by kernel_rfl) (fun _ _ _ h => h) (Or.inl ⟨by rfl, ?_⟩) (by assumption) ?_
          · intro w' hSw'
            go_simp
          simp only [Act.put, List.setIfInBounds_toArray, List.set_cons_zero, List.set_cons_succ]
          refine wpAnyH_ready (rs := [46]) (by kernel_rfl) (by simp) ?_
          refine AllReadyH.cons rfl (fun K hK => ?_) AllReadyH.nil
          go_simp
          refine (DA.out _ b8.out).mono ?_
          rintro e w9 ⟨da9, c9, e9, rfl, hr9, hb9⟩
          have R9 := keep hr9
          have hb9s := hb9.size
          have b9 : Hid (Below w3.heap.size w3 w9) := b8.out.trans (hb9.mono b8.out.size)
          clear hb9
          have TH := keep (theirs_any (Old w8.heap.size) da9 rn c9 e9 D3.files w9 R9.out RN.out (fun g hg => Nat.lt_of_lt_of_le hg hb9s))
          clear hr9 hb9s
          go_wp2_with fail
          refine hK.out _ _ (b9.out) (fun hHeld7 => ?_)
          clear hK K
          refine wpAnyH_ready (rs := [47]) (by kernel_rfl) (by simp) ?_
          refine AllReadyH.cons rfl (fun K hK => ?_) AllReadyH.nil
          go_simp
          refine (TH.out).mono ?_
          rintro e w10 ⟨da10, c10, e10, rfl, hr10, hb10⟩
          have R10 := keep hr10
          have b10 : Hid (Below w3.heap.size w3 w10) := b9.out.trans (hb10.mono b9.out.size)
          clear hb10
          clear hr10
          go_wp2_with fail
          refine hK.out _ _ (b10.out) (fun hHeld8 => ?_)
          clear hK K
          refine wpAnyH_ready (rs := [49]) (by kernel_rfl) (by simp) ?_
          refine AllReadyH.cons rfl (fun K hK => ?_) AllReadyH.nil
          go_simp
          refine (DB.out _ b10.out).mono ?_
          rintro e w11 ⟨da11, c11, e11, rfl, hr11, hb11⟩
          have SF := keep (same_files da10 rn c10 e10 D3.files _ da11 rn c11 e11 D3.files _ w11 (R10.out.below hb11) hr11 RN.out)
          have b11 : Hid (Below w3.heap.size w3 w11) := b10.out.trans (hb11.mono b10.out.size)
          clear hb11
          clear hr11
          go_wp2_with fail
          refine hK.out _ _ (b11.out) (fun hHeld9 => ?_)
          clear hK K
          refine wpAnyH_ready (rs := [50]) (by kernel_rfl) (by simp) ?_
          refine AllReadyH.cons rfl (fun K hK => ?_) AllReadyH.nil
          go_simp
          refine (SF.out).mono ?_
          rintro e w12 ⟨⟨x12, rfl, hx12⟩, hb12⟩
          obtain rfl : x12 = true := by first | exact hx12 | exact hx12.2 rfl | exact hx12.2 trivial
          have b12 : Hid (Below w3.heap.size w3 w12) := b11.out.trans (hb12.mono b11.out.size)
          clear hb12
          clear hx12
          go_wp2_with fail
          refine hK.out _ _ (b12.out) (fun hHeld10 => ?_)
          clear hK K
          refine takeH (i := 51) 106 (v := .bool false) rfl rfl (by kernel_rfl) (by kernel_rfl) (by kernel_rfl) (fun _ _ _ h => h) (Or.inl ⟨by rfl, ?_⟩) (by assumption) ?_
          · intro w' hSw'
            go_simp
          simp only [Act.put, List.setIfInBounds_toArray, List.set_cons_zero, List.set_cons_succ]
          refine takeH (i := 52) 107 (v := .bool false) rfl rfl (by kernel_rfl) (by kernel_rfl) (by kernel_rfl) (fun _ _ _ h => h) (Or.inl ⟨by rfl, ?_⟩) (by assumption) ?_
          · intro w' hSw'
            go_simp
          simp only [Act.put, List.setIfInBounds_toArray, List.set_cons_zero, List.set_cons_succ]
          refine wpAnyH_done (by kernel_rfl) ?_ _
          have BF : Hid (Both (fun _ => True) w S2 w12 b q D3 D3 ∧ D3.done ≤ t + 1) := ⟨B3.out.1.next b12.out, B3.out.2⟩
          go_wp2
          go_roundw
          case rel => exact ⟨t + 1, S2, D3, by omega, by omega, by first | rfl | go_num, BF.out⟩
          case measure => simp [intOf]; omega
        · have j2 : ¬ (t : Int) < 100 := by omega
          go_wp2
          go_ret
          exact ⟨rfl, HI.out.1.own.bel⟩
      · have j1 : ¬ (t : Int) < (m : Int) := by omega
        go_wp2
        go_ret
        exact ⟨rfl, HI.out.1.own.bel⟩
end Go.Proofs.Ytfjhfecjbheipaa
