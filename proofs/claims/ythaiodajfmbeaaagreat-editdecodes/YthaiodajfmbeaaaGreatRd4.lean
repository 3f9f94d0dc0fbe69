/- EditDecodes' walk. -/
import Derived.Test.YthaiodajfmbeaaaGreatRd3
import Derived.Test.YthaiodajfmbeaaaGreatRq5
import Derived.Test.YthaiodajfmbeaaaGreatHo
import Derived.Test.YthaiodajfmbeaaaGreatHjt
namespace Go.Proofs.YthaiodajfmbeaaaGreat
open Go.RowKit
open Ed (Nt)

set_option maxRecDepth 100000 in
theorem slice_lt {W : World} {base : Nat} {ao : Option Addr} {m c : Nat} (h : Value.okWide Tryz.prog W .any base 22 (.slice ao m c)) : ∀ ad, ao = some ad → ad.block < W.heap.size := by
  intro ad had
  subst had
  simp only [Value.okWide, Tryz.underlying22, Cell.okWide, Cell.ok] at h
  obtain ⟨_, _, _, _, row, cells, hs, _⟩ := h
  rcases Nat.lt_or_ge ad.block W.heap.size with h1 | h1
  · exact h1
  · have h2 : W.heap[ad.block]? = none := Array.getElem?_eq_none h1
    simp [World.shape?, h2] at hs
/-- What both Decodes answer, in numbers. -/
def decN (l : List UInt8) : Int := if Ed.isVer l then 0 else 2
def decV (l : List UInt8) : Ed.Ver := if Ed.isVer l then Ed.rdV l else zeroV.v
theorem decV_len (l : List UInt8) : (decV l).tabs.length ≤ 1000000 := by
  unfold decV
  cases h : Ed.isVer l with
  | false => rw [if_neg (by decide)]; exact Nat.zero_le _
  | true =>
    rw [if_pos rfl]
    unfold Ed.isVer at h
    simp only [Bool.and_eq_true, decide_eq_true_eq] at h
    have h4 := Ed.notes_len (Ed.chk_parts h.1).2.2.2.2
    omega
set_option maxHeartbeats 3000000 in
set_option maxRecDepth 100000 in
theorem decodes_walk (ao : Option Addr) (m c : Nat) (l : List UInt8) (w : World) (hs : Src w ao m c l) (hlt : ∀ ad, ao = some ad → ad.block < w.heap.size) :
    Calls Tryz.prog 3 #[.slice ao m c] w fun e w' => e = .returned (.bool true) ∧ Below w.heap.size w w' := by
  have AW := keep (awake_any w)
  have HS := keep hs
  have HLT := keep hlt
  have HM := keep hs.len
  clear hs hlt
  go_enter Tryz.func3, Tryz.ntmps3
  go_wp2_with fail
  refine AW.out.mono ?_
  rintro e w2 ⟨rfl, hb2⟩
  have L2 := keep hb2
  clear hb2 AW
  by_cases hbig : (20000 : Int) < (m : Int)
  · go_wp2
    go_ret
    exact ⟨rfl, L2.out⟩
  have D1 := keep (decode_any ao m c l w2 (HS.out.below L2.out) (fun a h => Nat.lt_of_lt_of_le (HLT.out a h) L2.out.size) (by omega))
  unfold DecA at D1
  rw [show (if Ed.isVer l then (0 : Int) else 2) = decN l from rfl, show (if Ed.isVer l then Ed.rdV l else zeroV.v) = decV l from rfl] at D1
  obtain ⟨Kd, hKd⟩ : ∃ Kd, decN l = Kd := ⟨_, rfl⟩
  obtain ⟨V, hV⟩ : ∃ V, decV l = V := ⟨_, rfl⟩
  have HKd := keep hKd
  have HV := keep hV
  rw [hKd, hV] at D1
  have VL : Hid (V.tabs.length ≤ 1000000) := by rw [← hV]; exact decV_len l
  clear hKd hV
  go_wp2_with fail
  refine D1.out.mono ?_
  rintro e w5 ⟨⟨z, rfl, hz, hzv⟩, hb5⟩
  have HZ := keep hz
  have HZV := keep hzv
  have L5 := keep (L2.out.trans (hb5.mono L2.out.size))
  obtain ⟨zp, zn, zc, zgen, znext, zlog, zseq, zes⟩ := z
  unfold VV.val
  simp only
  obtain ⟨W6, hW6⟩ : ∃ W6, w5.alloc (.cells #[.int .i64 zgen, .int .i64 znext, .int .i64 zlog, .int .i64 zseq, .slice zp zn zc] 26) = W6 := ⟨_, rfl⟩
  have b6 : Hid (Below w5.heap.size w5 W6) := by rw [← hW6]; exact (Below.refl _ _).alloc (Nat.le_refl _) _
  have g6 : Hid (W6.heap[w5.heap.size]? = some (.cells #[.int .i64 zgen, .int .i64 znext, .int .i64 zlog, .int .i64 zseq, .slice zp zn zc] 26)) := by rw [← hW6]; exact heap_alloc_new w5 _
  have L6 := keep (L5.out.trans (b6.out.mono L5.out.size))
  have D2 := keep (rdecode_any ao c l W6 (by have := HS.out.below L6.out; rw [← HM.out] at this; exact this) (fun a h => Nat.lt_of_lt_of_le (HLT.out a h) L6.out.size) (by rw [HM.out]; omega))
  unfold DecA at D2
  rw [show (if Ed.isVer l then (0 : Int) else 2) = decN l from rfl, show (if Ed.isVer l then Ed.rdV l else zeroV.v) = decV l from rfl, HKd.out, HV.out, HM.out] at D2
  clear hz hzv hb5 D1
  go_wp2_with fail
  refine D2.out.mono ?_
  rintro e w7 ⟨⟨u, rfl, hu, huv⟩, hb7⟩
  have HU := keep hu
  have HUV := keep huv
  have R7 := keep hb7
  have L7 := keep (L6.out.trans (hb7.mono L6.out.size))
  obtain ⟨up, un, uc, ugen, unext, ulog, useq, ues⟩ := u
  unfold VV.val
  simp only
  obtain ⟨Wc, hWc⟩ : ∃ Wc, w7.alloc (.cells #[.int .i64 ugen, .int .i64 unext, .int .i64 ulog, .int .i64 useq, .slice up un uc] 32) = Wc := ⟨_, rfl⟩
  have bc : Hid (Below w7.heap.size w7 Wc) := by rw [← hWc]; exact (Below.refl _ _).alloc (Nat.le_refl _) _
  have g8 : Hid (Wc.heap[w7.heap.size]? = some (.cells #[.int .i64 ugen, .int .i64 unext, .int .i64 ulog, .int .i64 useq, .slice up un uc] 32)) := by rw [← hWc]; exact heap_alloc_new w7 _
  have Lc := keep (L7.out.trans (bc.out.mono L7.out.size))
  have Rc := keep (R7.out.trans (bc.out.mono R7.out.size))
  obtain ⟨E1, hE1⟩ : ∃ E1, w5.heap.size = E1 := ⟨_, rfl⟩
  obtain ⟨E2, hE2⟩ : ∃ E2, w7.heap.size = E2 := ⟨_, rfl⟩
  rw [hE1] at g6
  rw [hE2] at g8
  have CZ8 : Hid (∀ w', Below Wc.heap.size Wc w' → w'.cell? ⟨E1, 0, none⟩ = some (.int .i64 zgen) ∧ w'.cell? ⟨E1, 1, none⟩ = some (.int .i64 znext) ∧ w'.cell? ⟨E1, 2, none⟩ = some (.int .i64 zlog) ∧ w'.cell? ⟨E1, 3, none⟩ = some (.int .i64 zseq) ∧ w'.cell? ⟨E1, 4, none⟩ = some (.slice zp zn zc)) := fun w' hb => by
    have h := Rc.out.trans (hb.mono Rc.out.size)
    exact ⟨belowE h (cell_of_row _ _ _ _ _ _ g6.out), belowE h (cell_of_row _ _ _ _ _ _ g6.out), belowE h (cell_of_row _ _ _ _ _ _ g6.out), belowE h (cell_of_row _ _ _ _ _ _ g6.out), belowE h (cell_of_row _ _ _ _ _ _ g6.out)⟩
  have CX8 : Hid (∀ w', Below Wc.heap.size Wc w' → w'.cell? ⟨E2, 0, none⟩ = some (.int .i64 ugen) ∧ w'.cell? ⟨E2, 1, none⟩ = some (.int .i64 unext) ∧ w'.cell? ⟨E2, 2, none⟩ = some (.int .i64 ulog) ∧ w'.cell? ⟨E2, 3, none⟩ = some (.int .i64 useq) ∧ w'.cell? ⟨E2, 4, none⟩ = some (.slice up un uc)) := fun w' hb => by
    exact ⟨belowE hb (cell_of_row _ _ _ _ _ _ g8.out), belowE hb (cell_of_row _ _ _ _ _ _ g8.out), belowE hb (cell_of_row _ _ _ _ _ _ g8.out), belowE hb (cell_of_row _ _ _ _ _ _ g8.out), belowE hb (cell_of_row _ _ _ _ _ _ g8.out)⟩
  have TL : Hid (zn ≤ 1000000) := by
    have h1 := congrArg (fun v => v.tabs.length) HZV.out
    have h2 : zes.length = zn := RSrc.len HZ.out
    have h3 : zes.length = V.tabs.length := by rw [← List.length_map (f := (·.m))]; exact h1
    have h4 := VL.out
    show _ ≤ _
    omega
  have TH : Hid (∀ w', Below Wc.heap.size Wc w' → Calls Tryz.prog 8 #[.agg #[.int .i64 zgen, .int .i64 znext, .int .i64 zlog, .int .i64 zseq, .slice zp zn zc]] w' fun e w'' => ∃ sp sn sc sgen snext slog sseq ses, e = .returned (.agg #[.int .i64 sgen, .int .i64 snext, .int .i64 slog, .int .i64 sseq, .slice sp sn sc]) ∧ VV.held w'' ⟨sp, sn, sc, sgen, snext, slog, sseq, ses⟩ ∧ VV.v ⟨sp, sn, sc, sgen, snext, slog, sseq, ses⟩ = V ∧ sn = zn ∧ Below Wc.heap.size Wc w'') := fun w' hb => by
    refine (theirs_any ⟨zp, zn, zc, zgen, znext, zlog, zseq, zes⟩ w' (((HZ.out.below b6.out).below Rc.out).below hb) (Nat.le_trans TL.out (by decide))).mono ?_
    rintro e w'' ⟨y, rfl, hy, hyv, hyn, _, hb'⟩
    obtain ⟨sp, sn, sc, sgen, snext, slog, sseq, ses⟩ := y
    exact ⟨sp, sn, sc, sgen, snext, slog, sseq, ses, rfl, hy, hyv.trans HZV.out, hyn, hb.trans (hb'.mono hb.size)⟩
  have SM : Hid (∀ sp sn sc sgen snext slog sseq ses w', VV.held w' ⟨sp, sn, sc, sgen, snext, slog, sseq, ses⟩ → VV.v ⟨sp, sn, sc, sgen, snext, slog, sseq, ses⟩ = V → sn = zn → Below Wc.heap.size Wc w' → Calls Tryz.prog 7 #[.agg #[.int .i64 sgen, .int .i64 snext, .int .i64 slog, .int .i64 sseq, .slice sp sn sc], .agg #[.int .i64 ugen, .int .i64 unext, .int .i64 ulog, .int .i64 useq, .slice up un uc]] w' fun e w'' => e = .returned (.bool true) ∧ Below Wc.heap.size Wc w'') := fun sp sn sc sgen snext slog sseq ses w' ht htv hsn hb => by
    refine (rsame_yes ⟨sp, sn, sc, sgen, snext, slog, sseq, ses⟩ ⟨up, un, uc, ugen, unext, ulog, useq, ues⟩ w' ht ((HU.out.below bc.out).below hb) (htv.trans HUV.out.symm) (by show sn ≤ _; have := TL.out; omega)).mono ?_
    rintro e w'' ⟨rfl, hb'⟩
    exact ⟨rfl, hb.trans (hb'.mono hb.size)⟩
  clear hu huv hb7 D2 hW6
  go_wp2_with fail
  refine wp_region_held_drew (S := fun w' => Below Wc.heap.size Wc w') (by kernel_rfl) ((Below.refl _ _).drew) (fun hZ => ?_)
  refine takeH (i := 0) 23 (v := .bool true) rfl rfl (by kernel_rfl) (by kernel_rfl) (by kernel_rfl) (fun _ _ _ h => h) (Or.inl ⟨by rfl, ?_⟩) (by assumption) ?_
  · intro w' hSw'
    go_simp
  simp only [Act.put, List.setIfInBounds_toArray, List.set_cons_zero, List.set_cons_succ]
  refine takeH (i := 1) 24 (v := .bool true) rfl rfl (by kernel_rfl) (by kernel_rfl) (by kernel_rfl) (fun _ _ _ h => h) (Or.inl ⟨by rfl, ?_⟩) (by assumption) ?_
  · intro w' hSw'
    go_simp
  simp only [Act.put, List.setIfInBounds_toArray, List.set_cons_zero, List.set_cons_succ]
  refine takeH (i := 2) 25 (v := .int .i64 Kd) rfl rfl (by kernel_rfl) (by kernel_rfl) (by kernel_rfl) (fun _ _ _ h => h) (Or.inl ⟨by rfl, ?_⟩) (by assumption) ?_
  · intro w' hSw'
    go_simp
  simp only [Act.put, List.setIfInBounds_toArray, List.set_cons_zero, List.set_cons_succ]
  refine takeH (i := 3) 26 (v := .int .i64 Kd) rfl rfl (by kernel_rfl) (by kernel_rfl) (by kernel_rfl) (fun _ _ _ h => h) (Or.inl ⟨by rfl, ?_⟩) (by assumption) ?_
  · intro w' hSw'
    go_simp
  simp only [Act.put, List.setIfInBounds_toArray, List.set_cons_zero, List.set_cons_succ]
  refine takeH (i := 4) 27 (v := .bool true) rfl rfl (by kernel_rfl) (by kernel_rfl) (by kernel_rfl) (fun _ _ _ h => h) (Or.inl ⟨by rfl, ?_⟩) (by assumption) ?_
  · intro w' hSw'
    go_simp
  simp only [Act.put, List.setIfInBounds_toArray, List.set_cons_zero, List.set_cons_succ]
  refine takeH (i := 5) 28 (v := .bool true) rfl rfl (by kernel_rfl) (by kernel_rfl) (by kernel_rfl) (fun _ _ _ h => h) (Or.inl ⟨by rfl, ?_⟩) (by assumption) ?_
  · intro w' hSw'
    go_simp
  simp only [Act.put, List.setIfInBounds_toArray, List.set_cons_zero, List.set_cons_succ]
  refine takeH (i := 6) 29 (v := .bool true) rfl rfl (by kernel_rfl) (by kernel_rfl) (by kernel_rfl) (fun _ _ _ h => h) (Or.inl ⟨by rfl, ?_⟩) (by assumption) ?_
  · intro w' hSw'
    go_simp
  simp only [Act.put, List.setIfInBounds_toArray, List.set_cons_zero, List.set_cons_succ]
  refine takeH (i := 7) 30 (v := .agg #[.int .i64 zgen, .int .i64 znext, .int .i64 zlog, .int .i64 zseq, .slice zp zn zc]) rfl rfl (by kernel_rfl) (by kernel_rfl) (by kernel_rfl) (fun _ _ _ h => h) (Or.inl ⟨by rfl, ?_⟩) (by assumption) ?_
  · intro w' hSw'
    obtain ⟨y0, y1, y2, y3, y4⟩ := CZ8.out w' hSw'
    go_simp
  simp only [Act.put, List.setIfInBounds_toArray, List.set_cons_zero, List.set_cons_succ]
  refine takeH (i := 9) 32 (v := .agg #[.int .i64 ugen, .int .i64 unext, .int .i64 ulog, .int .i64 useq, .slice up un uc]) rfl rfl (by kernel_rfl) (by kernel_rfl) (by kernel_rfl) (fun _ _ _ h => h) (Or.inl ⟨by rfl, ?_⟩) (by assumption) ?_
  · intro w' hSw'
    obtain ⟨y0, y1, y2, y3, y4⟩ := CX8.out w' hSw'
    go_simp
  simp only [Act.put, List.setIfInBounds_toArray, List.set_cons_zero, List.set_cons_succ]
  refine wpAnyH_ready (rs := [8]) (by kernel_rfl) (by simp) ?_
  refine AllReadyH.cons rfl (fun K hK => ?_) AllReadyH.nil
  go_simp
  refine (TH.out _ (Below.refl _ _).drew).mono ?_
  rintro e w13 ⟨sp, sn, sc, sgen, snext, slog, sseq, ses, rfl, ht, htv, hsn, hb⟩
  have b13 := keep hb
  have T13 := keep ht
  have TV13 := keep htv
  have TN13 := keep hsn
  clear hb ht htv hsn
  go_wp2_with fail
  refine hK.out _ _ (b13.out) (fun hZ1 => ?_)
  clear hK K
  refine wpAnyH_ready (rs := [10]) (by kernel_rfl) (by simp) ?_
  refine AllReadyH.cons rfl (fun K hK => ?_) AllReadyH.nil
  go_simp
  refine (SM.out _ _ _ _ _ _ _ _ w13 T13.out TV13.out TN13.out b13.out).mono ?_
  rintro e w14 ⟨rfl, hb⟩
  have b14 := keep hb
  clear hb
  go_wp2_with fail
  refine hK.out _ _ (b14.out) (fun hZ2 => ?_)
  clear hK K
  refine takeH (i := 11) 34 (v := .bool true) rfl rfl (by kernel_rfl) (by kernel_rfl) (by kernel_rfl) (fun _ _ _ h => h) (Or.inl ⟨by rfl, ?_⟩) (by assumption) ?_
  · intro w' hSw'
    go_simp
  simp only [Act.put, List.setIfInBounds_toArray, List.set_cons_zero, List.set_cons_succ]
  refine takeH (i := 12) 2 (v := .bool true) rfl rfl (by kernel_rfl) (by kernel_rfl) (by kernel_rfl) (fun _ _ _ h => h) (Or.inl ⟨by rfl, ?_⟩) (by assumption) ?_
  · intro w' hSw'
    go_simp
  simp only [Act.put, List.setIfInBounds_toArray, List.set_cons_zero, List.set_cons_succ]
  refine wpAnyH_done (by kernel_rfl) ?_ _
  have BF := keep (Lc.out.trans (b14.out.mono Lc.out.size))
  go_wp2
  go_ret
  exact ⟨rfl, BF.out⟩
end Go.Proofs.YthaiodajfmbeaaaGreat
