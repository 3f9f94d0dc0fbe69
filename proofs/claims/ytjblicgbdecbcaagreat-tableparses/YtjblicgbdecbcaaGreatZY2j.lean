/- The walks of the document's Check and keys for tables. -/
/- The walk of the document's places. -/
/- The walks of the document's Has and Build; of the statements on them. -/
/- The walk of the document's Build for tables. -/
import Derived.Test.YtjblicgbdecbcaaGreatZJgj
import Derived.Test.YtjblicgbdecbcaaGreatZQ2
import Derived.Test.YtjblicgbdecbcaaGreatZQ6j
import Derived.Test.YtjblicgbdecbcaaGreatZB3j
import Derived.Test.YtjblicgbdecbcaaGreatZJ5rj
import Derived.Test.YtjblicgbdecbcaaGreatZB5
import Derived.Test.YtjblicgbdecbcaaGreatZJh
import Derived.Deep.Cut
namespace Go.Proofs.YtjblicgbdecbcaaGreat
open Go.RowKit
open Sk (Ent)

set_option maxHeartbeats 2000000 in
set_option maxRecDepth 100000 in
theorem rtcheck_any (ao : Option Addr) (n c : Nat) (es : List EV) (w : World) (hsrc : RSrc entKind w ao n c es) (hMAY : ∀ y ∈ es, y.e.key.length ≤ 9223372036854775807 ∧ y.e.val.length ≤ 9223372036854775807) :
    Calls Tryz.prog 10 #[.slice ao n c] w fun e w' => e = .returned (.int .i64 (tchk (es.map (·.e)))) ∧ Below w.heap.size w w' := by
  have HL : Hid ((es.map (·.e)).length = n) := by show _ = _; rw [List.length_map]; exact hsrc.len
  by_cases h0 : n < 1
  · rw [tchk_len (by rw [HL.out]; omega)]
    have l1 : (n : Int) < 1 := by omega
    have l1b : decide ((n : Int) < 1) = true := decide_eq_true l1
    clear hsrc hMAY h0
    go_enter Tryz.func10, Tryz.ntmps10
    go_wp2
    go_ret
    exact ⟨rfl, Below.refl _ _⟩
  have l1 : ¬ (n : Int) < 1 := by omega
  have l1b : decide ((n : Int) < 1) = false := decide_eq_false l1
  by_cases h64 : 64 < n
  · rw [tchk_len (by rw [HL.out]; omega)]
    have l2 : (64 : Int) < (n : Int) := by omega
    have l2b : decide ((64 : Int) < (n : Int)) = true := decide_eq_true l2
    clear hsrc hMAY h0 h64
    go_enter Tryz.func10, Tryz.ntmps10
    go_wp2
    go_ret
    exact ⟨rfl, Below.refl _ _⟩
  have l2 : ¬ (64 : Int) < (n : Int) := by omega
  have l2b : decide ((64 : Int) < (n : Int)) = false := decide_eq_false l2
  have OR := keep (rordered_any ao n c es w (by omega) hsrc hMAY)
  have TK : Hid (tchk (es.map (·.e)) = if Bq.ordB (es.map (·.e)) n = true then 0 else 1) := by
    show _ = _
    unfold tchk Tq.tok
    rw [HL.out, decide_eq_true (show 1 ≤ n by omega), decide_eq_true (show n ≤ 64 by omega)]
    rfl
  clear hsrc hMAY h0 h64
  cases ho : Bq.ordB (es.map (·.e)) n with
  | true =>
    rw [ho] at OR TK
    rw [TK.out]
    clear ho
    go_enter Tryz.func10, Tryz.ntmps10
    go_wp2_with fail
    refine OR.out.mono ?_
    rintro e w1 ⟨rfl, hb1⟩
    have B1 := keep hb1
    clear hb1
    go_wp2
    go_ret
    exact ⟨rfl, B1.out⟩
  | false =>
    rw [ho] at OR TK
    rw [TK.out]
    clear ho
    go_enter Tryz.func10, Tryz.ntmps10
    go_wp2_with fail
    refine OR.out.mono ?_
    rintro e w1 ⟨rfl, hb1⟩
    have B1 := keep hb1
    clear hb1
    go_wp2
    go_ret
    exact ⟨rfl, B1.out⟩
set_option maxHeartbeats 4000000 in
set_option maxRecDepth 100000 in
theorem rkeys_any (ao : Option Addr) (n c : Nat) (es : List EV) (w : World) (hsrc : RSrc entKind w ao n c es) (hn : n ≤ 64) :
    Calls Tryz.prog 35 #[.slice ao n c] w fun e w' => ∃ v, e = .returned v ∧ ∃ bs, KeysI w (es.map (·.e)) n bs v w' := by
  obtain ⟨i0, hi0, hz0, hz1, hz2⟩ := info_parts22q info22q
  have HL : Hid (es.length = n) := hsrc.len
  have SRC := keep hsrc
  clear hsrc
  go_enter Tryz.func35, Tryz.ntmps35
  go_wp2
  go_loopw [3, 4] (fun v i wr => ∃ (k : Nat) (bs : List ByteE), k ≤ n ∧ i = .int .i64 (k : Int) ∧ Hid (KeysI w (es.map (·.e)) k bs v wr)) (fun _ i _ => n - (intOf i).toNat)
  case atStart => exact ⟨0, [], Nat.zero_le _, rfl, World.ownsRow_nil _ _ _ _, (fun e h => by cases h), rfl, Below.refl _ _, fun _ => rfl⟩
  case round =>
    obtain ⟨k, bs, hk, rfl, hI⟩ := hrel
    by_cases hkn : k < n
    · obtain ⟨b, off, rfl, _, _⟩ := SRC.out.form entKind_ok (by omega)
      obtain ⟨x, hx⟩ : ∃ x, es[k]? = some x := ⟨es[k]'(by rw [HL.out]; exact hkn), List.getElem?_eq_getElem _⟩
      have HX : Hid ((es.map (·.e))[k]? = some x.e) := by show _ = _; rw [List.getElem?_map, hx]; rfl
      have SE : Hid (∀ w', Below wr.heap.size wr w' → RSrc entKind w' (some ⟨b, off, none⟩) n c es) := fun w' hb => SRC.out.below entKind_ok (hI.out.bel.trans (hb.mono hI.out.bel.size))
      have CX : Hid (∀ w', Below wr.heap.size wr w' → w'.cell? ⟨b, off + k * 4, none⟩ = some (.slice x.kp x.e.key.length x.kc)) := fun w' hb => (ent_cells (SE.out w' hb) hx).1
      have HS : Hid (∀ w', Below wr.heap.size wr w' → Src w' x.kp x.e.key.length x.kc x.e.key) := fun w' hb => ((SE.out w' hb).held x (List.mem_of_getElem? hx)).1
      have HS0 : Hid (Src w x.kp x.e.key.length x.kc x.e.key) := (SRC.out.held x (List.mem_of_getElem? hx)).1
      have HBL := keep hI.out.len
      have ll : (k : Int) < (n : Int) := by omega
      have ll0 : (0 : Int) ≤ (k : Int) := by omega
      obtain ⟨xkp, xkc, xvp, xvc, ⟨xkey, xseq, xgone, xval⟩⟩ := x
      simp only at CX HX HS HS0
      clear hx
      obtain ⟨P, hP⟩ : ∃ P, Tq.isNew (es.map (·.e)) k = P := ⟨_, rfl⟩
      have HP := keep hP
      clear hP
      go_wp2_with fail
      refine region_share (fun a a' w' => (∃ v11 v12 v13 v14 v15 v16 v17 v18 v19 v20 v21 v22_ v23 v24 v25 v26 v27 : Value, a' = sets a [(11, v11), (12, v12), (13, v13), (14, v14), (15, v15), (16, v16), (17, v17), (18, v18), (19, v19), (20, v20), (21, v21), (0x16, v22_), (23, v23), (24, v24), (25, v25), (26, v26), (27, v27), (28, .bool P)]) ∧ Below wr.heap.size wr w') ?_ ?_
      · rcases Nat.eq_zero_or_pos k with hk0 | hk0
        · have hPt : P = true := by
            have h1 := HX.out
            rw [← HP.out]
            rw [hk0] at h1 ⊢
            simp only [Tq.isNew, h1]
          subst hPt
          have lz : ((k : Int) == 0) = true := by simp; omega
          clear hk0
          refine wp_region_held_drew (S := fun w' => Below wr.heap.size wr w') (by kernel_rfl) ((Below.refl _ _).drew) (fun hHeld => ?_)
          refine takeH (i := 0) 11 (v := .int .i64 (k : Int)) rfl rfl (by kernel_rfl) (by kernel_rfl) (by kernel_rfl) (fun _ _ _ h => h) (Or.inl ⟨by rfl, ?_⟩) (by assumption) ?_
          · intro w' hSw'
            go_simp
          simp only [Act.put, List.setIfInBounds_toArray, List.set_cons_zero, List.set_cons_succ]
          refine takeH (i := 1) 12 (v := .bool true) rfl rfl (by kernel_rfl) (by kernel_rfl) (by kernel_rfl) (fun _ _ _ h => h) (Or.inl ⟨by rfl, ?_⟩) (by assumption) ?_
          · intro w' hSw'
            go_simp
            try omega
          simp only [Act.put, List.setIfInBounds_toArray, List.set_cons_zero, List.set_cons_succ]
          refine takeH (i := 2) 13 (v := .bool true) rfl rfl (by kernel_rfl) (by kernel_rfl) (by kernel_rfl) (fun _ _ _ h => h) (Or.inl ⟨by rfl, ?_⟩) (by assumption) ?_
          · intro w' hSw'
            go_simp
          simp only [Act.put, List.setIfInBounds_toArray, List.set_cons_zero, List.set_cons_succ]
          refine takeH (i := 3) 14 (v := undef) rfl rfl (by kernel_rfl) (by kernel_rfl) (by kernel_rfl) (fun _ _ _ h => h) (Or.inr ⟨by rfl, rfl⟩) (by assumption) ?_
          simp only [Act.put, List.setIfInBounds_toArray, List.set_cons_zero, List.set_cons_succ]
          refine takeH (i := 4) 15 (v := undef) rfl rfl (by kernel_rfl) (by kernel_rfl) (by kernel_rfl) (fun _ _ _ h => h) (Or.inr ⟨by rfl, rfl⟩) (by assumption) ?_
          simp only [Act.put, List.setIfInBounds_toArray, List.set_cons_zero, List.set_cons_succ]
          refine takeH (i := 5) 16 (v := undef) rfl rfl (by kernel_rfl) (by kernel_rfl) (by kernel_rfl) (fun _ _ _ h => h) (Or.inr ⟨by rfl, rfl⟩) (by assumption) ?_
          simp only [Act.put, List.setIfInBounds_toArray, List.set_cons_zero, List.set_cons_succ]
          refine takeH (i := 6) 17 (v := undef) rfl rfl (by kernel_rfl) (by kernel_rfl) (by kernel_rfl) (fun _ _ _ h => h) (Or.inr ⟨by rfl, rfl⟩) (by assumption) ?_
          simp only [Act.put, List.setIfInBounds_toArray, List.set_cons_zero, List.set_cons_succ]
          refine takeH (i := 7) 18 (v := undef) rfl rfl (by kernel_rfl) (by kernel_rfl) (by kernel_rfl) (fun _ _ _ h => h) (Or.inr ⟨by rfl, rfl⟩) (by assumption) ?_
          simp only [Act.put, List.setIfInBounds_toArray, List.set_cons_zero, List.set_cons_succ]
          refine takeH (i := 8) 19 (v := undef) rfl rfl (by kernel_rfl) (by kernel_rfl) (by kernel_rfl) (fun _ _ _ h => h) (Or.inr ⟨by rfl, rfl⟩) (by assumption) ?_
          simp only [Act.put, List.setIfInBounds_toArray, List.set_cons_zero, List.set_cons_succ]
          refine takeH (i := 9) 20 (v := undef) rfl rfl (by kernel_rfl) (by kernel_rfl) (by kernel_rfl) (fun _ _ _ h => h) (Or.inr ⟨by rfl, rfl⟩) (by assumption) ?_
          simp only [Act.put, List.setIfInBounds_toArray, List.set_cons_zero, List.set_cons_succ]
          refine takeH (i := 10) 21 (v := undef) rfl rfl (by kernel_rfl) (by kernel_rfl) (by kernel_rfl) (fun _ _ _ h => h) (Or.inr ⟨by rfl, rfl⟩) (by assumption) ?_
          simp only [Act.put, List.setIfInBounds_toArray, List.set_cons_zero, List.set_cons_succ]
          refine takeH (i := 11) 0x16 (v := undef) rfl rfl (by kernel_rfl) (by kernel_rfl) (by kernel_rfl) (fun _ _ _ h => h) (Or.inr ⟨by rfl, rfl⟩) (by assumption) ?_
          simp only [Act.put, List.setIfInBounds_toArray, List.set_cons_zero, List.set_cons_succ]
          refine takeH (i := 12) 23 (v := undef) rfl rfl (by kernel_rfl) (by kernel_rfl) (by kernel_rfl) (fun _ _ _ h => h) (Or.inr ⟨by rfl, rfl⟩) (by assumption) ?_
          simp only [Act.put, List.setIfInBounds_toArray, List.set_cons_zero, List.set_cons_succ]
          refine takeH (i := 13) 24 (v := undef) rfl rfl (by kernel_rfl) (by kernel_rfl) (by kernel_rfl) (fun _ _ _ h => h) (Or.inr ⟨by rfl, rfl⟩) (by assumption) ?_
          simp only [Act.put, List.setIfInBounds_toArray, List.set_cons_zero, List.set_cons_succ]
          refine takeH (i := 14) 25 (v := undef) rfl rfl (by kernel_rfl) (by kernel_rfl) (by kernel_rfl) (fun _ _ _ h => h) (Or.inr ⟨by rfl, rfl⟩) (by assumption) ?_
          simp only [Act.put, List.setIfInBounds_toArray, List.set_cons_zero, List.set_cons_succ]
          refine takeH (i := 15) 26 (v := undef) rfl rfl (by kernel_rfl) (by kernel_rfl) (by kernel_rfl) (fun _ _ _ h => h) (Or.inr ⟨by rfl, rfl⟩) (by assumption) ?_
          simp only [Act.put, List.setIfInBounds_toArray, List.set_cons_zero, List.set_cons_succ]
          refine takeH (i := 16) 27 (v := undef) rfl rfl (by kernel_rfl) (by kernel_rfl) (by kernel_rfl) (fun _ _ _ h => h) (Or.inr ⟨by rfl, rfl⟩) (by assumption) ?_
          simp only [Act.put, List.setIfInBounds_toArray, List.set_cons_zero, List.set_cons_succ]
          refine takeH (i := 17) 28 (v := .bool true) rfl rfl (by kernel_rfl) (by kernel_rfl) (by kernel_rfl) (fun _ _ _ h => h) (Or.inl ⟨by rfl, ?_⟩) (by assumption) ?_
          · intro w' hSw'
            go_simp
          simp only [Act.put, List.setIfInBounds_toArray, List.set_cons_zero, List.set_cons_succ]
          refine wpAnyH_done (by kernel_rfl) ?_ _
          exact ⟨⟨_, _, _, _, _, _, _, _, _, _, _, _, _, _, _, _, _, (by simp only [sets, Act.put, List.setIfInBounds_toArray, List.set_cons_zero, List.set_cons_succ]; all_goals rfl)⟩, (Below.refl _ _).drew⟩
        · obtain ⟨j, rfl⟩ : ∃ j, k = j + 1 := ⟨k - 1, by omega⟩
          obtain ⟨d, hd⟩ : ∃ d, es[j]? = some d := ⟨es[j]'(by rw [HL.out]; omega), List.getElem?_eq_getElem _⟩
          have hde : (es.map (·.e))[j]? = some d.e := by rw [List.getElem?_map, hd]; rfl
          have hPt : P = !decide (d.e.key = xkey) := by
            have h1 := HX.out
            rw [← HP.out]
            simp only [Tq.isNew, h1, hde]
          have CD : Hid (∀ w', Below wr.heap.size wr w' → w'.cell? ⟨b, off + j * 4, none⟩ = some (.slice d.kp d.e.key.length d.kc)) := fun w' hb => (ent_cells (SE.out w' hb) hd).1
          have HD : Hid (∀ w', Below wr.heap.size wr w' → Src w' d.kp d.e.key.length d.kc d.e.key) := fun w' hb => ((SE.out w' hb).held d (List.mem_of_getElem? hd)).1
          clear hd hde
          obtain ⟨dkp, dkc, dvp, dvc, ⟨dkey, dseq, dgone, dval⟩⟩ := d
          simp only at CD HD hPt
          have HPT : Hid ((dkey == xkey) = !P) := by show _ = _; rw [hPt, Bool.not_not]; by_cases e : dkey = xkey <;> simp [e]
          clear hPt
          have lz : (((j + 1 : Nat) : Int) == 0) = false := by simp; omega
          have lz2 : ¬ ((j : Int) + 1 = 0) := by omega
          have s1 : IntKind.i64.wrap (j : Int) = (j : Int) := wrap_small _ (by omega) (by omega)
          have s2 : ((j + 1 : Nat) : Int) - 1 = (j : Int) := by omega
          have s3 : (j : Int) < (n : Int) := by omega
          have s4 : (0 : Int) ≤ (j : Int) := by omega
          have s6 : (j : Int) + 1 < (n : Int) := by omega
          have s7 : (0 : Int) ≤ (j : Int) + 1 := by omega
          refine wp_region_held_drew (S := fun w' => Below wr.heap.size wr w') (by kernel_rfl) ((Below.refl _ _).drew) (fun hHeld => ?_)
          refine takeH (i := 0) 11 (v := .int .i64 ((j + 1 : Nat) : Int)) rfl rfl (by kernel_rfl) (by kernel_rfl) (by kernel_rfl) (fun _ _ _ h => h) (Or.inl ⟨by rfl, ?_⟩) (by assumption) ?_
          · intro w' hSw'
            go_simp
          simp only [Act.put, List.setIfInBounds_toArray, List.set_cons_zero, List.set_cons_succ]
          refine takeH (i := 1) 12 (v := .bool false) rfl rfl (by kernel_rfl) (by kernel_rfl) (by kernel_rfl) (fun _ _ _ h => h) (Or.inl ⟨by rfl, ?_⟩) (by assumption) ?_
          · intro w' hSw'
            go_simp
            try omega
          simp only [Act.put, List.setIfInBounds_toArray, List.set_cons_zero, List.set_cons_succ]
          refine takeH (i := 2) 13 (v := .bool false) rfl rfl (by kernel_rfl) (by kernel_rfl) (by kernel_rfl) (fun _ _ _ h => h) (Or.inl ⟨by rfl, ?_⟩) (by assumption) ?_
          · intro w' hSw'
            go_simp
          simp only [Act.put, List.setIfInBounds_toArray, List.set_cons_zero, List.set_cons_succ]
          refine takeH (i := 3) 14 (v := .slice (some ⟨b, off, none⟩) n c) rfl rfl (by kernel_rfl) (by kernel_rfl) (by kernel_rfl) (fun _ _ _ h => h) (Or.inl ⟨by rfl, ?_⟩) (by assumption) ?_
          · intro w' hSw'
            go_simp
          simp only [Act.put, List.setIfInBounds_toArray, List.set_cons_zero, List.set_cons_succ]
          refine takeH (i := 4) 15 (v := .int .i64 ((j + 1 : Nat) : Int)) rfl rfl (by kernel_rfl) (by kernel_rfl) (by kernel_rfl) (fun _ _ _ h => h) (Or.inl ⟨by rfl, ?_⟩) (by assumption) ?_
          · intro w' hSw'
            go_simp
          simp only [Act.put, List.setIfInBounds_toArray, List.set_cons_zero, List.set_cons_succ]
          refine takeH (i := 5) 16 (v := .int .i64 (j : Int)) rfl rfl (by kernel_rfl) (by kernel_rfl) (by kernel_rfl) (fun _ _ _ h => h) (Or.inl ⟨by rfl, ?_⟩) (by assumption) ?_
          · intro w' hSw'
            go_simp
          simp only [Act.put, List.setIfInBounds_toArray, List.set_cons_zero, List.set_cons_succ]
          refine takeH (i := 6) 17 (v := .pointer (some ⟨b, off + j * 4, none⟩)) rfl rfl (by kernel_rfl) (by kernel_rfl) (by kernel_rfl) (fun _ _ _ h => h) (Or.inl ⟨by rfl, ?_⟩) (by assumption) ?_
          · intro w' hSw'
            go_simp
          simp only [Act.put, List.setIfInBounds_toArray, List.set_cons_zero, List.set_cons_succ]
          refine takeH (i := 7) 18 (v := .pointer (some ⟨b, off + j * 4, none⟩)) rfl rfl (by kernel_rfl) (by kernel_rfl) (by kernel_rfl) (fun _ _ _ h => h) (Or.inl ⟨by rfl, ?_⟩) (by assumption) ?_
          · intro w' hSw'
            go_simp
          simp only [Act.put, List.setIfInBounds_toArray, List.set_cons_zero, List.set_cons_succ]
          refine takeH (i := 8) 19 (v := .slice dkp dkey.length dkc) rfl rfl (by kernel_rfl) (by kernel_rfl) (by kernel_rfl) (fun _ _ _ h => h) (Or.inl ⟨by rfl, ?_⟩) (by assumption) ?_
          · intro w' hSw'
            have d0 := CD.out w' hSw'
            go_simp
          simp only [Act.put, List.setIfInBounds_toArray, List.set_cons_zero, List.set_cons_succ]
          refine takeH (i := 9) 20 (v := .string ⟨dkey.toArray⟩) rfl rfl (by kernel_rfl) (by kernel_rfl) (by kernel_rfl) (fun _ _ _ h => h) (Or.inl ⟨by rfl, ?_⟩) (by assumption) ?_
          · intro w' hSw'
            have q1 := conv_src (HD.out w' hSw')
            go_simp
          simp only [Act.put, List.setIfInBounds_toArray, List.set_cons_zero, List.set_cons_succ]
          refine takeH (i := 10) 21 (v := .slice (some ⟨b, off, none⟩) n c) rfl rfl (by kernel_rfl) (by kernel_rfl) (by kernel_rfl) (fun _ _ _ h => h) (Or.inl ⟨by rfl, ?_⟩) (by assumption) ?_
          · intro w' hSw'
            go_simp
          simp only [Act.put, List.setIfInBounds_toArray, List.set_cons_zero, List.set_cons_succ]
          refine takeH (i := 11) 0x16 (v := .int .i64 ((j + 1 : Nat) : Int)) rfl rfl (by kernel_rfl) (by kernel_rfl) (by kernel_rfl) (fun _ _ _ h => h) (Or.inl ⟨by rfl, ?_⟩) (by assumption) ?_
          · intro w' hSw'
            go_simp
          simp only [Act.put, List.setIfInBounds_toArray, List.set_cons_zero, List.set_cons_succ]
          refine takeH (i := 12) 23 (v := .pointer (some ⟨b, off + (j + 1) * 4, none⟩)) rfl rfl (by kernel_rfl) (by kernel_rfl) (by kernel_rfl) (fun _ _ _ h => h) (Or.inl ⟨by rfl, ?_⟩) (by assumption) ?_
          · intro w' hSw'
            go_simp
          simp only [Act.put, List.setIfInBounds_toArray, List.set_cons_zero, List.set_cons_succ]
          refine takeH (i := 13) 24 (v := .pointer (some ⟨b, off + (j + 1) * 4, none⟩)) rfl rfl (by kernel_rfl) (by kernel_rfl) (by kernel_rfl) (fun _ _ _ h => h) (Or.inl ⟨by rfl, ?_⟩) (by assumption) ?_
          · intro w' hSw'
            go_simp
          simp only [Act.put, List.setIfInBounds_toArray, List.set_cons_zero, List.set_cons_succ]
          refine takeH (i := 14) 25 (v := .slice xkp xkey.length xkc) rfl rfl (by kernel_rfl) (by kernel_rfl) (by kernel_rfl) (fun _ _ _ h => h) (Or.inl ⟨by rfl, ?_⟩) (by assumption) ?_
          · intro w' hSw'
            have d0 := CX.out w' hSw'
            go_simp
          simp only [Act.put, List.setIfInBounds_toArray, List.set_cons_zero, List.set_cons_succ]
          refine takeH (i := 15) 26 (v := .string ⟨xkey.toArray⟩) rfl rfl (by kernel_rfl) (by kernel_rfl) (by kernel_rfl) (fun _ _ _ h => h) (Or.inl ⟨by rfl, ?_⟩) (by assumption) ?_
          · intro w' hSw'
            have q1 := conv_src (HS.out w' hSw')
            go_simp
          simp only [Act.put, List.setIfInBounds_toArray, List.set_cons_zero, List.set_cons_succ]
          refine takeH (i := 16) 27 (v := .bool P) rfl rfl (by kernel_rfl) (by kernel_rfl) (by kernel_rfl) (fun _ _ _ h => h) (Or.inl ⟨by rfl, ?_⟩) (by assumption) ?_
          · intro w' hSw'
            have q2 := HPT.out
            go_simp
            try exact q2
            try simp_all
          simp only [Act.put, List.setIfInBounds_toArray, List.set_cons_zero, List.set_cons_succ]
          refine takeH (i := 17) 28 (v := .bool P) rfl rfl (by kernel_rfl) (by kernel_rfl) (by kernel_rfl) (fun _ _ _ h => h) (Or.inl ⟨by rfl, ?_⟩) (by assumption) ?_
          · intro w' hSw'
            go_simp
          simp only [Act.put, List.setIfInBounds_toArray, List.set_cons_zero, List.set_cons_succ]
          refine wpAnyH_done (by kernel_rfl) ?_ _
          exact ⟨⟨_, _, _, _, _, _, _, _, _, _, _, _, _, _, _, _, _, (by simp only [sets, Act.put, List.setIfInBounds_toArray, List.set_cons_zero, List.set_cons_succ]; all_goals rfl)⟩, (Below.refl _ _).drew⟩
      rintro a' V ⟨⟨v11, v12, v13, v14, v15, v16, v17, v18, v19, v20, v21, v22_, v23, v24, v25, v26, v27, rfl⟩, hbV⟩
      have bV := keep hbV
      clear hbV
      simp only [sets, Act.put, List.setIfInBounds_toArray, List.set_cons_zero, List.set_cons_succ]
      cases P with
      | true =>
        have cx := CX.out V bV.out
        have hbl : bs.length ≤ 64 := by have := HBL.out; omega
        have R6 := keep (own_block hI.out.row (fun g hg => bV.out.block g (own_size hI.out.row hg)))
        have R7 := keep (own_block R6.out (fun g hg => Below.heap_alloc V (.cells (byteKind.vals ⟨xkp, xkc, xkey⟩).toArray 24) g (own_size R6.out hg)))
        have rc := keep (rec_cells (k := byteKind) V 24 (⟨xkp, xkc, xkey⟩ : ByteE))
        have ba : Hid (Below V.heap.size V (V.alloc (.cells (byteKind.vals ⟨xkp, xkc, xkey⟩).toArray 24))) := (Below.refl _ _).alloc (Nat.le_refl _) _
        have BWr := keep (bV.out.trans (ba.out.mono bV.out.size))
        have hwb : w.heap.size ≤ V.heap.size := Nat.le_trans hI.out.bel.size bV.out.size
        have HK5 := keep (fun v5 w5 ho5 hg5 => hI.out.more (e := ⟨xkp, xkc, xkey⟩) (v2 := v5) (w2 := w5) BWr.out HP.out HX.out rfl HS0.out ho5 hg5)
        go_wp2_with (at_builtin; go_loud (refine wpList_append_rec byteKind_ok rfl _ _ 57 24 rfl w.heap.size i0 _ 24 Tryz.underlying57 hi0 hz0 hz1 hz2 rfl _ bs.length bs rfl R7.out _ 1 (⟨xkp, xkc, xkey⟩ : ByteE) rfl rc.out (by unfold maxLen; omega) (by omega) (Nat.le_trans hwb ba.out.size) ?_); intro v5 w5 ho5 hg5; have N5 := keep (HK5.out v5 w5 ho5 hg5); clear ho5 hg5)
        go_roundw
        case rel => exact ⟨k + 1, bs ++ [(⟨xkp, xkc, xkey⟩ : ByteE)], by omega, by first | rfl | go_num, N5.out⟩
        case measure => simp [intOf]; omega
      | false =>
        have N5 := keep (hI.out.same bV.out HP.out)
        go_wp2
        go_roundw
        case rel => exact ⟨k + 1, bs, by omega, by first | rfl | go_num, N5.out⟩
        case measure => simp [intOf]; omega
    · obtain rfl : k = n := by omega
      have ll : ¬ (k : Int) < (k : Int) := by omega
      go_wp2
      go_ret
      exact ⟨_, rfl, bs, hI.out⟩
end Go.Proofs.YtjblicgbdecbcaaGreat
namespace Go.Proofs.YtjblicgbdecbcaaGreat
open Go.RowKit
attribute [local go_sem] U_or1 U_add

theorem own_empty' {w : World} {B t : Nat} (h : B ≤ w.heap.size) : (w.alloc (.cells #[] t)).ownsRow B t 1 (.slice (some ⟨w.heap.size, 0, none⟩) 0 0) 0 [] :=
  ⟨rfl, .inr ⟨_, _, _, rfl, h, heap_alloc_new w _, Nat.le_refl _, Nat.zero_le _, rfl, rfl⟩⟩
theorem info3 : (Tryz.prog.info? 3).map (fun i => (i.zero, i.size, i.bytes)) = some (some (.int .i64 0), 1, 8) := by kernel_rfl
def iv (l : List Nat) : List Value := l.map fun (n : Nat) => Value.int .i64 (n : Int)
theorem iv_append (a b : List Nat) : iv (a ++ b) = iv a ++ iv b := by simp [iv]
def placesOf (key : List UInt8) (b n : Nat) : List Nat := (List.range n).map (Bl.place key b)
theorem placesOf_succ (key : List UInt8) (b n : Nat) : placesOf key b (n + 1) = placesOf key b n ++ [Bl.place key b n] := by simp [placesOf, List.range_succ]
theorem U_mulk (k : Nat) (s : UInt32) : IntKind.u32.wrap ((k : Int) % 4294967296 * U s) = U (UInt32.ofNat k * s) := by
  rw [IntKind.wrap_u32']
  unfold U
  rw [UInt32.toNat_mul, UInt32.toNat_ofNat']
  have e : (k : Int) % 4294967296 * (s.toNat : Int) = ((k % 4294967296 * s.toNat : Nat) : Int) := by
    rw [Int.natCast_mul]; rfl
  rw [e]
  rfl
theorem place_walked (key : List UInt8) (b k : Nat) : (U (crc key) + (k : Int) * U (crc (key ++ [1]) ||| 1)) % 4294967296 % (b : Int) = (Bl.place key b k : Int) := by
  unfold Bl.place Bl.sumAt Bl.odd U
  rw [UInt32.toNat_add, UInt32.toNat_mul, UInt32.toNat_ofNat']
  have e : ((crc key).toNat : Int) + (k : Int) * ((crc (key ++ [1]) ||| 1).toNat : Int) = (((crc key).toNat + k * (crc (key ++ [1]) ||| 1).toNat : Nat) : Int) := by
    rw [Int.natCast_add, Int.natCast_mul]
  rw [e]
  have e2 : ((crc key).toNat + k % 2 ^ 32 * (crc (key ++ [1]) ||| 1).toNat % 2 ^ 32) % 2 ^ 32 = ((crc key).toNat + k * (crc (key ++ [1]) ||| 1).toNat) % 4294967296 := by
    rw [Nat.add_mod, Nat.mod_mod, Nat.mul_mod, Nat.mod_mod, ← Nat.mul_mod, ← Nat.add_mod]
  rw [e2]
  rfl
/-- append(v, x), v nil or the call's own row of numbers, x laid as a row of its own. -/
theorem wpList_append_int {P : Program} {w : World} {ops : Array Oper} {rest : List Oper} {o : Oper} {a : Act} {Q : Exit → Act → World → Prop} (hgd : o.guard = none) (s x : Operand) (t : TypeId)
    (ho : o.op = .call { callee := .builtin .append, args := #[s, x], argTypes := #[t, t] })
    (base : Nat) (i : TypeInfo) (ht : P.underlying t = some (.slice 3)) (hi : P.info? 3 = some i) (hz : i.zero = some (.int .i64 0)) (hsize : i.size = 1) (hby : i.bytes = 8)
    (v : Value) (n : Nat) (xs : List Value) (hs : a.eval s = v) (hown : w.ownsRow base 3 1 v n xs) (g : Nat) (X : Int) (hx : a.eval x = .slice (some ⟨g, 0, none⟩) 1 1) (hc : w.cell? ⟨g, 0, none⟩ = some (.int .i64 X)) (hn : n ≤ 1048576) (hbase : base ≤ w.heap.size)
    (h : ∀ v' w', w'.ownsRow base 3 1 v' (n + 1) (xs ++ [.int .i64 X]) → w.grownBy w' v.ownBlock → wpList P ops Q rest (a.put o.dst v') w') : wpList P ops Q (o :: rest) a w := by
  refine wpList_append_own w hgd s x t ho base 3 i (.int .i64 0) 1 8 ht hi hz hsize hby rfl (by omega) v n xs hs hown ⟨g, 0, none⟩ 1 1 [.int .i64 X] hx rfl (fun j u hu => ?_) (fun u hu => ?_) (by unfold maxLen; omega) (by omega) hbase (fun v' w' h1 h2 _ => h v' w' h1 h2)
  · have hj : j = 0 := by
      have := (List.getElem?_eq_some_iff.1 hu).1
      simp at this
      exact this
    subst hj
    rw [Addr.add_mid, hc]
    simpa using hu
  · rw [List.mem_singleton.1 hu]; rfl
set_option maxHeartbeats 2000000 in
set_option maxRecDepth 100000 in
theorem rplaces_any (ao : Option Addr) (m c : Nat) (key : List UInt8) (b : Nat) (w : World) (hb0 : 0 < b) (hb1 : b ≤ 1125899906842624) (hm : m + 1 ≤ 140737488355328) (hs : Src w ao m c key) :
    Calls Tryz.prog 66 #[.slice ao m c, .int .i64 (b : Int)] w fun e w' => ∃ v, e = .returned v ∧ w'.ownsRow w.heap.size 3 1 v 6 (iv (placesOf key b 6)) ∧ Below w.heap.size w w' := by
  obtain ⟨i0, hi, hz0, hz1, hz2⟩ := info_parts info5
  obtain ⟨j0, ji, jz0, jz1, jz2⟩ := info_parts info3
  have HS := keep hs
  clear hs
  have hbP : (0 : Int) < (b : Int) := by omega
  have hbU : (b : Int) ≤ 1125899906842624 := by omega
  go_enter Tryz.func66, Tryz.ntmps66
  go_wp2_with fail
  refine (rcrc_any ao m c key w (by omega) HS.out).mono ?_
  rintro e w1 ⟨rfl, hb⟩
  have B1 := keep hb
  clear hb
  go_wp2_with (first
    | (at_builtin; refine wpList_append_src rfl _ _ 24 rfl w1.heap.size i0 _ Tryz.underlying24 hi hz0 hz1 hz2 rfl _ m key rfl (O2.out.alloc _) _ 1 1 [1] rfl (Src.built _ 1) (by omega) (le_alloc B2.out.size _) ?_; intro v3 w3 ho3 hg3; have O3 := keep ho3; have B3 := keep ((B2.out.alloc B2.out.size _).grown hg3 (le_alloc B2.out.size _) (fun j hj => (O2.out.lt j hj).1)); clear ho3 hg3)
    | (at_builtin; refine wpList_append_src rfl _ _ 24 rfl w1.heap.size i0 _ Tryz.underlying24 hi hz0 hz1 hz2 rfl _ 0 [] rfl (own_empty' (Nat.le_refl _)) _ m c key rfl (HS.out.below (B1.out.trans (((Below.refl _ _).alloc (Nat.le_refl _) _).mono B1.out.size))) (by omega) (by simp) ?_; intro v2 w2 ho2 hg2; have O2 := keep ho2; have B2 := keep (((Below.refl _ w1).alloc (Nat.le_refl _) _).grown hg2 (by simp) (fun j hj => by cases hj; exact Nat.le_refl _)); rw [Nat.zero_add, List.nil_append] at O2; clear ho2 hg2)
    | (go_at_call 67; fail))
  obtain ⟨a3, c3, e3, S3, _⟩ := Src.of_own O3.out
  subst e3
  refine (rcrc_any a3 (m + 1) c3 (key ++ [1]) w3 hm S3).mono ?_
  rintro e w4 ⟨rfl, hb⟩
  have B4 := keep (B1.out.trans ((B3.out.trans (hb.mono B3.out.size)).mono B1.out.size))
  clear hb S3 O3 B3 O2 B2
  go_wp2
  go_loopw [7, 8] (fun v i wr => ∃ k : Nat, k ≤ 6 ∧ i = .int .i64 (k : Int) ∧ Hid (wr.ownsRow w.heap.size 3 1 v k (iv (placesOf key b k))) ∧ Hid (Below w.heap.size w wr)) (fun _ i _ => 6 - (intOf i).toNat)
  case atStart => exact ⟨0, Nat.zero_le _, rfl, World.ownsRow_nil _ _ _ _, B4⟩
  case round =>
    clear B4
    obtain ⟨k, hk, rfl, hO, hB⟩ := hrel
    by_cases hlt : k < 6
    · have hl1 : (k : Int) < 6 := by omega
      have HP := keep (place_walked key b k)
      have HL := keep (placesOf_succ key b k)
      go_wp2_with (at_builtin; refine wpList_append_int rfl _ _ 87 rfl w.heap.size j0 Tryz.underlying87 ji jz0 jz1 jz2 _ k _ rfl (hO.out.alloc _) _ _ rfl (cell_of_row _ _ _ _ _ _ (heap_alloc_new wr _)) (by omega) (le_alloc hB.out.size _) ?_; intro v2 w2 ho2 hg2; have O2 := keep ho2; have B2 := keep ((hB.out.alloc hB.out.size _).grown hg2 (le_alloc hB.out.size _) (fun j hj => (hO.out.lt j hj).1)); clear ho2 hg2)
      go_roundw
      case rel => exact ⟨k + 1, by omega, by go_num, by rw [HL.out, iv_append]; rw [HP.out] at O2; exact O2, B2⟩
      case measure => simp [intOf]; omega
    · obtain rfl : k = 6 := by omega
      go_wp2
      go_ret
      exact ⟨_, rfl, hO.out, hB.out⟩
end Go.Proofs.YtjblicgbdecbcaaGreat
namespace Go.Proofs.YtjblicgbdecbcaaGreat
open Go.RowKit

theorem iv_at (key : List UInt8) (b n i : Nat) (h : i < n) : (iv (placesOf key b n))[i]? = some (.int .i64 (Bl.place key b i : Int)) := by
  unfold iv placesOf
  rw [List.getElem?_map, List.getElem?_map, List.getElem?_range h]
  rfl
theorem iv_cell {w : World} {B n b : Nat} {key : List UInt8} {g cap : Nat} (h : w.ownsRow B 3 1 (.slice (some ⟨g, 0, none⟩) n cap) n (iv (placesOf key b n))) (i : Nat) (hi : i < n) : w.cell? ⟨g, i, none⟩ = some (.int .i64 (Bl.place key b i : Int)) := by
  have := h.cells rfl i _ (iv_at key b n i hi)
  rwa [Addr.add_mid, Nat.zero_add] at this
set_option maxHeartbeats 2000000 in
set_option maxRecDepth 100000 in
theorem rbloom_any (ao : Option Addr) (m c : Nat) (es : List ByteE) (w : World) (hm : m ≤ 8796093022208) (hes : ∀ e ∈ es, e.bytes.length + 1 ≤ 140737488355328) (hs : RSrc byteKind w ao m c es) :
    Calls Tryz.prog 34 #[.slice ao m c] w fun e w' => ∃ v, e = .returned v ∧ New w w' v (Bl.sizeOf m) (Bl.build (es.map (·.bytes))) := by
  obtain ⟨i0, hi, hz0, hz1, hz2⟩ := info_parts info5
  have hel := hs.len
  have HS := keep hs
  have HE := keep hes
  clear hs hes
  obtain ⟨N, hN⟩ : ∃ N, Bl.sizeOf m = N := ⟨_, rfl⟩
  have hN8 : 8 ≤ N := by rw [← hN]; exact Bl.sizeOf_pos m
  have hNm : N ≤ 140737488355328 := by rw [← hN]; unfold Bl.sizeOf; omega
  have hmx : (if (10 * (m : Int) + 7) / 8 < 8 then 8 else (10 * (m : Int) + 7) / 8) = (N : Int) := by rw [← hN]; unfold Bl.sizeOf; split <;> omega
  have hmy : (if 8 < (10 * (m : Int) + 7) / 8 then (10 * (m : Int) + 7) / 8 else 8) = (N : Int) := by rw [← hN]; unfold Bl.sizeOf; split <;> omega
  have HN := keep hN
  clear hN
  rw [HN.out]
  obtain ⟨ks, hks0⟩ : ∃ ks, es.map (·.bytes) = ks := ⟨_, rfl⟩
  rw [hks0]
  have HKS := keep hks0
  clear hks0
  have hkl : ks.length = m := by rw [← HKS.out, List.length_map, hel]
  have hmI : (m : Int) ≤ 8796093022208 := by omega
  have hmJ : (0 : Int) ≤ (m : Int) := by omega
  go_enter Tryz.func34, Tryz.ntmps34
  go_wp2_with (at_make; refine wpList_make_full _ rfl _ _ 24 rfl w.heap.size 5 i0 (.int .u8 0) 1 Tryz.underlying24 hi hz0 hz1 .i64 .i64 _ _ N rfl rfl rfl rfl (by rw [hz2]; omega) (by unfold maxLen; omega) (Nat.le_refl _) ?_; intro w1 hown hgrow; have b1 := keep ((Below.refl w.heap.size w).grown hgrow (Nat.le_refl _) (fun k h => by cases h)); have o1 := keep hown; clear hown hgrow)
  clear hmx hmy
  have o0 : Hid (w1.ownsRow w.heap.size 5 1 (.slice (some ⟨w.heap.size, 0, none⟩) N N) N (bv (Bl.fill (Bl.zeros N) (ks.take 0)))) := by
    have := o1.out
    rw [show (Value.int .u8 0).cells = #[.int .u8 0] from rfl, toList_madeCells_one, Nat.mul_one] at this
    rw [List.take_zero]
    show World.ownsRow _ _ _ _ _ _ (bv (Bl.zeros N))
    rw [bv_zeros]
    exact this
  clear o1
  have hNI : (N : Int) ≤ 140737488355328 := by omega
  go_loopw [5] (fun i wr => ∃ k : Nat, k ≤ m ∧ i = .int .i64 (k : Int) ∧ Hid (wr.ownsRow w.heap.size 5 1 (.slice (some ⟨w.heap.size, 0, none⟩) N N) N (bv (Bl.fill (Bl.zeros N) (ks.take k)))) ∧ Hid (Below w.heap.size w wr)) (fun i _ => m - (intOf i).toNat)
  case atStart => exact ⟨0, Nat.zero_le _, rfl, o0, b1⟩
  case round =>
    clear o0 b1
    obtain ⟨k, hk, rfl, hO, hB⟩ := hrel
    by_cases hlt : k < m
    · obtain ⟨b, off, rfl, hbw, hby⟩ := HS.out.form byteKind_ok (by omega)
      obtain ⟨e, he⟩ : ∃ e, es[k]? = some e := ⟨es[k], List.getElem?_eq_getElem (by omega)⟩
      have hcell : wr.cell? ⟨b, off + k, none⟩ = some (.slice e.ptr e.bytes.length e.cap) := by
        rw [hB.out.cell (p := ⟨b, off + k, none⟩) hbw]
        have := hby k e he 0 _ rfl
        simpa [byteKind] using this
      have hel2 := HE.out e (List.mem_of_getElem? he)
      have hlt1 : (k : Int) < (m : Int) := by omega
      have HSK : Hid (Src wr e.ptr e.bytes.length e.cap e.bytes) := (HS.out.held e (List.mem_of_getElem? he)).below hB.out
      have hkey : Hid (Bl.fill (Bl.zeros N) (ks.take (k + 1)) = Bl.marks e.bytes (8 * N) (Bl.fill (Bl.zeros N) (ks.take k)) 6) := by
        show _ = _
        have h1 : ks[k]? = some e.bytes := by rw [← HKS.out, List.getElem?_map, he]; rfl
        obtain ⟨h2, h3⟩ := List.getElem?_eq_some_iff.1 h1
        rw [List.take_succ_eq_append_getElem h2, h3, Bl.fill_snoc, Bl.zeros_length]
      have HFL : Hid ((Bl.fill (Bl.zeros N) (ks.take k)).length = N) := by show _ = _; rw [Bl.fill_length, Bl.zeros_length]
      obtain ⟨f, hf⟩ : ∃ f, Bl.fill (Bl.zeros N) (ks.take k) = f := ⟨_, rfl⟩
      rw [hf] at hO hkey HFL
      clear hby he hf
      obtain ⟨ptr, cap, key⟩ := e
      simp only at hcell HSK hkey hel2
      obtain ⟨L, hL⟩ : ∃ L, key.length = L := ⟨_, rfl⟩
      rw [hL] at hcell HSK hel2
      clear hL
      have RP := keep (rplaces_any ptr L cap key (8 * N) wr (by omega) (by omega) hel2 HSK.out)
      have e8 : ((8 * N : Nat) : Int) = 8 * (N : Int) := by omega
      rw [e8] at RP
      clear e8
      go_wp2_with fail
      refine RP.out.mono ?_
      rintro e w2 ⟨v2, rfl, ho, hb⟩
      have B2 := keep hb
      have O2 := keep ho
      obtain ⟨g2, c2, rfl⟩ : ∃ g2 c2, v2 = .slice (some ⟨g2, 0, none⟩) 6 c2 := by
        rcases ho.2 with ⟨_, h⟩ | ⟨g, cap, cur, h, _⟩
        · omega
        · exact ⟨g, cap, h⟩
      have hgw : w.heap.size < wr.heap.size := own_size hO.out rfl
      have hg2 : wr.heap.size ≤ g2 := (ho.lt g2 rfl).1
      have hg2s : g2 < w2.heap.size := own_size ho rfl
      have hOw2 : Hid (w2.ownsRow w.heap.size 5 1 (.slice (some ⟨w.heap.size, 0, none⟩) N N) N (bv f)) := own_block hO.out (fun g hg => hb.block g (own_size hO.out hg))
      clear hb ho
      go_wp2
      obtain ⟨wa, hwa⟩ : ∃ wa, wa = wr := ⟨_, rfl⟩
      subst hwa
      go_loopw [7] (fun i wr => ∃ j : Nat, j ≤ 6 ∧ i = .int .i64 (j : Int) ∧ Hid (wr.ownsRow w.heap.size 5 1 (.slice (some ⟨w.heap.size, 0, none⟩) N N) N (bv (Bl.marks key (8 * N) f j))) ∧ Hid (Kept (fun g => g = w.heap.size) w2 wr)) (fun i _ => 6 - (intOf i).toNat)
      case atStart => exact ⟨0, Nat.zero_le _, rfl, hOw2, Kept.refl _ _⟩
      case round =>
        clear hOw2
        obtain ⟨j, hj, rfl, hO3, hK3⟩ := hrel
        by_cases hj6 : j < 6
        · have hl1 : (j : Int) < 6 := by omega
          have hcp : wr.cell? ⟨g2, j, none⟩ = some (.int .i64 (Bl.place key (8 * N) j : Int)) := by
            rw [hK3.out.cell (p := ⟨g2, j, none⟩) hg2s (by show ¬ g2 = w.heap.size; omega)]
            exact iv_cell O2.out j hj6
          have hpl := Bl.place_lt key (bits := 8 * N) (by omega) j
          have hsn : Bl.marks key (8 * N) f (j + 1) = Bl.mark (Bl.marks key (8 * N) f j) (Bl.place key (8 * N) j) := rfl
          have hfl : (Bl.marks key (8 * N) f j).length = N := by rw [Bl.marks_length, HFL.out]
          obtain ⟨p, hp⟩ : ∃ p, Bl.place key (8 * N) j = p := ⟨_, rfl⟩
          obtain ⟨fp, hfp⟩ : ∃ fp, Bl.marks key (8 * N) f j = fp := ⟨_, rfl⟩
          rw [hp] at hpl hsn hcp
          rw [hfp] at hsn hO3 hfl
          clear hp hfp
          obtain ⟨Q, hQ⟩ : ∃ Q, p / 8 = Q := ⟨_, rfl⟩
          obtain ⟨R, hR⟩ : ∃ R, p % 8 = R := ⟨_, rfl⟩
          have hQm : Q < N := by omega
          have hR8 : R < 8 := by omega
          have hQi : (p : Int) / 8 = (Q : Int) := by omega
          have hRi : (p : Int) % 8 = (R : Int) := by omega
          have hc : wr.cell? ⟨w.heap.size, Q, none⟩ = some (.int .u8 ((fn fp Q).toNat : Int)) := by
            have := hO3.out.cells rfl Q _ (bv_at fp Q (by omega))
            rwa [Addr.add_mid, Nat.zero_add] at this
          have hfz : wr.frozen? ⟨w.heap.size, Q, none⟩ = false := by
            obtain ⟨cur, h1⟩ := own_tag hO3.out rfl
            have h2 : wr.heap[w.heap.size]? = some (.cells cur 5 (0, 0)) := h1
            simp [World.frozen?, h2]
          have hmk : Hid (Bl.mark fp p = fp.set Q (Bl.setB (fn fp Q) R)) := by unfold Bl.mark; rw [hQ, hR]; rfl
          have hx : bits .or .u8 ((fn fp Q).toNat : Int) (2 ^ R) = ((Bl.setB (fn fp Q) R).toNat : Int) := bit_set _ _ hR8
          have hw2 : IntKind.u8.wrap (2 ^ R) = 2 ^ R := by
            have hlt : (2 : Nat) ^ R < 2 ^ 8 := Nat.pow_lt_pow_right (by decide) hR8
            have e : (2 ^ R : Int) = ((2 ^ R : Nat) : Int) := by rw [Int.natCast_pow]; rfl
            rw [e, IntKind.wrap_u8']
            exact Int.emod_eq_of_lt (Int.natCast_nonneg _) (Int.ofNat_lt.2 hlt)
          rw [hmk.out] at hsn
          have HSN := keep hsn
          clear hQ hR hsn hpl hmk
          obtain ⟨y, hy⟩ : ∃ y, fn fp Q = y := ⟨_, rfl⟩
          rw [hy] at hc hx HSN
          clear hy
          obtain ⟨z, hz⟩ : ∃ z, Bl.setB y R = z := ⟨_, rfl⟩
          rw [hz] at hx HSN
          clear hz
          have hm1 : (Q : Int) < (N : Int) := by omega
          go_wp2
          go_region
          go_wp2
          go_roundw
          case rel => exact ⟨j + 1, by omega, by go_num, by rw [HSN.out]; exact own_turn (w := wr.drew) hO3.out hQm z, hK3.out.drew.setCell (p := ⟨w.heap.size, Q, none⟩) (.inl rfl) _⟩
          case measure => simp [intOf]; omega
        · obtain rfl : j = 6 := by omega
          go_wp2
          go_roundw
          case rel => exact ⟨k + 1, by omega, by go_num, by rw [hkey.out]; exact hO3, hB.out.trans ((B2.out.mono (Nat.le_of_lt hgw)).trans (hK3.out.below (by omega) (fun g e => Nat.le_of_eq e.symm)))⟩
          case measure => simp [intOf]; omega
    · obtain rfl : k = m := by omega
      rw [List.take_of_length_le (by omega)] at hO
      go_wp2
      go_ret
      refine ⟨_, rfl, ?_, hB.out⟩
      unfold Bl.build
      rw [hkl, HN.out]
      exact hO.out
end Go.Proofs.YtjblicgbdecbcaaGreat
namespace Go.Proofs.YtjblicgbdecbcaaGreat
open Go.RowKit
open Sk (Ent)

set_option maxHeartbeats 2000000 in
set_option maxRecDepth 100000 in
theorem rtbuild_any (ao : Option Addr) (n c : Nat) (es : List EV) (w : World) (hsrc : RSrc entKind w ao n c es) (hMAY : ∀ y ∈ es, y.e.key.length ≤ 9223372036854775807 ∧ y.e.val.length ≤ 9223372036854775807) :
    Calls Tryz.prog 7 #[.slice ao n c] w (TBuilt w (es.map (·.e))) := by
  have CK := keep (rtcheck_any ao n c es w hsrc hMAY)
  have SRC := keep hsrc
  have MAY := keep hMAY
  obtain ⟨L, hL⟩ : ∃ L, es.map (·.e) = L := ⟨_, rfl⟩
  rw [hL] at CK ⊢
  have hlen : L.length = n := by rw [← hL, List.length_map]; exact hsrc.len
  have HL := keep hL
  have hcap := hsrc.cap
  clear hsrc hMAY hL
  cases hok : Tq.tok L with
  | false =>
    have hc : tchk L = 1 := by unfold tchk; rw [hok]; rfl
    rw [hc] at CK
    have OK := keep hok
    clear hok hc hlen
    go_enter Tryz.func7, Tryz.ntmps7
    go_wp2_with fail
    refine CK.out.mono ?_
    rintro e w1 ⟨rfl, hb1⟩
    have b1 := keep hb1
    clear hb1
    go_wp2
    go_ret2
    exact tbuilt_no OK.out b1.out
  | true =>
    have hc : tchk L = 0 := by unfold tchk; rw [hok]; rfl
    rw [hc] at CK
    have OK := keep hok
    have h8 := Tq.tok_len hok
    rw [hlen] at h8
    have n1 : 1 ≤ n := h8.1
    have n8 : n ≤ 64 := h8.2
    have HLN := keep hlen
    have CNT := keep (Tq.cnt_le hok)
    rw [hlen] at CNT
    clear hok hc hlen h8
    obtain ⟨b, off, rfl, _, _⟩ := SRC.out.form entKind_ok (by omega)
    obtain ⟨K, hK⟩ : ∃ K, Tq.cnt n = K := ⟨_, rfl⟩
    have HK := keep hK
    rw [hK] at CNT
    have hKn : (n + 7) / 8 = K := hK
    have sw7 : IntKind.i64.wrap ((n : Int) + 7) = (n : Int) + 7 := wrap_small _ (by omega) (by omega)
    have hdiv : ((n : Int) + 7).tdiv 8 = (K : Int) := by
      rw [Int.tdiv_eq_ediv_of_nonneg (by omega)]
      omega
    have hdiv2 : ((n : Int) + 7) / 8 = (K : Int) := by omega
    have swK : IntKind.i64.wrap (K : Int) = (K : Int) := wrap_small _ (by omega) (by have := CNT.out; omega)
    clear hK hKn
    go_enter Tryz.func7, Tryz.ntmps7
    go_wp2_with fail
    refine CK.out.mono ?_
    rintro e w3 ⟨rfl, hb1⟩
    have B3 := keep hb1
    clear hb1 CK
    have kc := conv_constS w3 #[.int .u8 83, .int .u8 87, .int .u8 84, .int .u8 49] 4 4
    simp only [List.size_toArray, List.length_cons, List.length_nil, Nat.reduceAdd] at kc
    obtain ⟨W4, hW4⟩ : ∃ W4, w3.alloc (.cells #[.int .u8 83, .int .u8 87, .int .u8 84, .int .u8 49] 5 (4, 5)) = W4 := ⟨_, rfl⟩
    have b4 : Hid (Below w3.heap.size w3 W4) := by rw [← hW4]; exact (Below.refl _ _).alloc (Nat.le_refl _) _
    have s4 : Hid (Src W4 (some ⟨w3.heap.size, 0, none⟩) 4 4 Tq.swt) := by
      rw [← hW4]
      refine Src.mk_bytes rfl (Nat.le_refl _) (fun i hi => ?_)
      rcases (show i = 0 ∨ i = 1 ∨ i = 2 ∨ i = 3 by omega) with rfl | rfl | rfl | rfl <;> (rw [cell_of_row _ _ _ _ _ _ (heap_alloc_new w3 _)]; rfl)
    have PN : Hid (Calls Tryz.prog 31 #[.slice (some ⟨w3.heap.size, 0, none⟩) 4 4, .int .i64 (K : Int)] W4 (Laid8 W4 (upto L 0))) := by
      have h1 := rputNum_laid (W := W4) (n := K) (Below.refl _ _) (by omega) (by have := CNT.out; omega) s4.out
      have e : upto L 0 = Tq.swt ++ num K := by
        have h2 := HK.out
        have h3 := HLN.out
        unfold upto
        rw [h3, h2]
        simp [Tq.blksB, Tq.blks]
      rw [e]
      exact h1
    unfold Laid8 at PN
    go_wp2_with fail
    refine PN.out.mono ?_
    rintro e w5 ⟨a5, c5, rfl, hs5, ho5, hb5⟩
    have B4 := keep (B3.out.trans (b4.out.mono B3.out.size))
    have I5 : Hid (TBuildI w L 0 a5 c5 (upto L 0) w5) := ⟨rfl, hs5, own_base ho5 (fun g hg => Nat.le_trans B4.out.size (ho5.lt g hg).1), B4.out.trans (hb5.mono B4.out.size)⟩
    obtain ⟨U0, hU0⟩ : ∃ U0, upto L 0 = U0 := ⟨_, rfl⟩
    rw [hU0] at I5 ⊢
    clear hs5 ho5 hb5 PN hU0 hW4 kc sw7 hdiv hdiv2 swK
    have hK8 : K ≤ 8 := CNT.out.2
    have hK1 : 1 ≤ K := CNT.out.1
    have UL : Hid (∀ k, k ≤ K → (upto L k).length ≤ 80000) := fun k hk => upto_len OK.out (by rw [HLN.out, HK.out]; exact hk)
    go_wp2
    go_loopw [4, 5] (fun vb i wr => ∃ (k : Nat) (a : Option Addr) (c3 : Nat) (Bs : List UInt8), k ≤ K ∧ vb = .slice a Bs.length c3 ∧ i = .int .i64 ((8 * k : Nat) : Int) ∧ Hid (TBuildI w L k a c3 Bs wr)) (fun _ i _ => 100 - (intOf i).toNat)
    case atStart => exact ⟨0, _, _, _, Nat.zero_le _, rfl, rfl, I5.out⟩
    case round =>
      obtain ⟨k, a, c3, Bs, hk, rfl, rfl, hI⟩ := hrel
      clear I5
      have HI := keep hI.out
      clear hI
      by_cases hkK : k < K
      · have hkn : 8 * k < n := by have := HK.out; unfold Tq.cnt at this; omega
        obtain ⟨M, hM⟩ : ∃ M, min 8 (n - 8 * k) = M := ⟨_, rfl⟩
        obtain ⟨p, hp⟩ : ∃ p, 8 * k = p := ⟨_, rfl⟩
        have hM1 : p + M ≤ n := by omega
        have PART := keep ((SRC.out.below entKind_ok HI.out.bel).part p M hM1)
        have BB := keep (rbuild_any (some ⟨b, off + p * 4, none⟩) M (c - p) ((es.drop p).take M) wr PART.out (fun y hy => MAY.out y (List.mem_of_mem_drop (List.mem_of_mem_take hy))))
        have hGM : ((es.drop p).take M).map (·.e) = Tq.grp L k := by
          rw [List.map_take, List.map_drop, HL.out]
          unfold Tq.grp
          rw [hp]
          by_cases h8 : 8 ≤ n - p
          · rw [show M = 8 by omega]
          · rw [List.take_of_length_le (i := M), List.take_of_length_le (i := 8)] <;> (rw [List.length_drop, HLN.out]; omega)
        rw [hGM] at BB
        have OKB := keep (Tq.grp_ok OK.out (k := k) (by rw [HLN.out, HK.out]; exact hkK))
        have US := keep (upto_succ L k)
        have UK := keep (UL.out k (by omega))
        have BLK := keep (Bq.blk_len OKB.out)
        obtain ⟨G, hG⟩ : ∃ G, Tq.grp L k = G := ⟨_, rfl⟩
        rw [hG] at BB OKB US BLK
        have HPK := keep hp
        have HMM := keep hM
        rw [hp]
        have p64 : p ≤ 64 := by omega
        have pc : ¬ c = p := by omega
        have ll : (p : Int) < (n : Int) := by omega
        clear hG hGM PART hp hM
        have ll0 : (0 : Int) ≤ (p : Int) := by omega
        have sw : IntKind.i64.wrap ((p : Int) + 8) = (p : Int) + 8 := wrap_small _ (by omega) (by omega)
        go_upto_region 7 with fail
        refine region_share (fun a a' w' => ∃ (a6 : Option Addr) (c6 : Nat), (∃ v25 v26 v27 v28 v29 v30 v31 v32 v33 v24 v34 v35 : Value, a' = sets a [(25, v25), (26, v26), (27, v27), (28, v28), (29, v29), (30, v30), (31, v31), (32, v32), (33, v33), (24, v24), (34, v34), (35, v35), (6, .slice a6 (Bq.blk G).length c6), (7, .int .i64 0)]) ∧ New wr w' (.slice a6 (Bq.blk G).length c6) (Bq.blk G).length (Bq.blk G)) ?_ ?_
        · by_cases h8 : p + 8 < n
          · have hM8 : M = 8 := by have := HMM.out; have := HPK.out; omega
            subst hM8
            have lc : ¬ (n : Int) < (p : Int) + 8 := by omega
            have lc2 : (p : Int) + 8 ≤ (n : Int) := by omega
            have lc5 : (p : Int) + 8 < (n : Int) := by omega
            have lc6 : ¬ (n : Int) ≤ (p : Int) + 8 := by omega
            have lc3 : (p : Int) + 8 ≤ (c : Int) := by omega
            have lc4 : (p : Int) ≤ (p : Int) + 8 := by omega
            go_wp2_with fail
            try rw [show ((p : Int) + 8).toNat - p = 8 by omega]
            refine BB.out.mono ?_
            rintro e w6 (⟨_, a6, c6, rfl, ho6, hb6⟩ | ⟨hno, _⟩)
            · have N6 : Hid (New wr w6 (.slice a6 (Bq.blk G).length c6) (Bq.blk G).length (Bq.blk G)) := ⟨ho6, hb6⟩
              clear ho6 hb6
              go_wp2
              exact ⟨_, _, ⟨_, _, _, _, _, _, _, _, _, _, _, _, (by simp only [sets, Act.put, List.setIfInBounds_toArray, List.set_cons_zero, List.set_cons_succ]; all_goals rfl)⟩, N6.out⟩
            · rw [OKB.out] at hno; cases hno
          · have hM8 : M + p = n := by have := HMM.out; have := HPK.out; omega
            have lc : (n : Int) ≤ (p : Int) + 8 := by omega
            have lc6 : ¬ (p : Int) + 8 < (n : Int) := by omega
            have lc2 : (p : Int) ≤ (n : Int) := by omega
            have lc3 : (n : Int) ≤ (c : Int) := by omega
            have lc4 : Hid (n - p = M) := by show _ = _; omega
            clear hM8
            go_wp2_with fail
            rw [lc4.out]
            refine BB.out.mono ?_
            rintro e w6 (⟨_, a6, c6, rfl, ho6, hb6⟩ | ⟨hno, _⟩)
            · have N6 : Hid (New wr w6 (.slice a6 (Bq.blk G).length c6) (Bq.blk G).length (Bq.blk G)) := ⟨ho6, hb6⟩
              clear ho6 hb6
              go_wp2
              exact ⟨_, _, ⟨_, _, _, _, _, _, _, _, _, _, _, _, (by simp only [sets, Act.put, List.setIfInBounds_toArray, List.set_cons_zero, List.set_cons_succ]; all_goals rfl)⟩, N6.out⟩
            · rw [OKB.out] at hno; cases hno
        rintro a' w6 ⟨a6, c6, ⟨v25, v26, v27, v28, v29, v30, v31, v32, v33, v24, v34, v35, rfl⟩, hN6⟩
        simp only [sets, Act.put, List.setIfInBounds_toArray, List.set_cons_zero, List.set_cons_succ]
        obtain ⟨_, _, hv6, hS6, _⟩ := New.src hN6
        cases hv6
        have cv := conv_src hS6
        have hb6 := hN6.2
        have PT := keep (rputText_laid (W := w6) (w := w6) (s := Bq.blk G) (Below.refl _ _) (by have := UK.out; have := BLK.out; have := HI.out.bytes; rw [this]; omega) (HI.out.src.below hb6))
        have HB6 := keep hb6
        obtain ⟨P, hP⟩ : ∃ P, Bs ++ (num (Bq.blk G).length ++ Bq.blk G) = P := ⟨_, rfl⟩
        have HP : Hid (P = upto L (k + 1)) := by show _ = _; rw [← hP, US.out, HI.out.bytes]
        rw [hP] at PT
        clear hb6 hS6 hP hN6
        unfold Laid8 at PT
        go_wp2_with fail
        refine PT.out.mono ?_
        rintro e w7 ⟨a7, c7, rfl, hs7, ho7, hb7⟩
        have B7 := keep (HI.out.bel.trans ((HB6.out.trans (hb7.mono HB6.out.size)).mono HI.out.bel.size))
        have I7 : Hid (TBuildI w L (k + 1) a7 c7 P w7) := ⟨HP.out, hs7, own_base ho7 (fun g hg => Nat.le_trans (Nat.le_trans HI.out.bel.size HB6.out.size) (ho7.lt g hg).1), B7.out⟩
        clear hs7 ho7 hb7 PT
        go_wp2
        go_roundw
        case rel => exact ⟨k + 1, a7, c7, P, by omega, rfl, by first | (have h := HPK.out; rw [show 8 * (k + 1) = p + 8 by omega]; first | rfl | go_num) | rfl, I7.out⟩
        case measure => simp [intOf]; omega
      · obtain rfl : k = K := by omega
        have hpn : n ≤ 8 * k := by have := HK.out; unfold Tq.cnt at this; omega
        obtain ⟨p, hp⟩ : ∃ p, 8 * k = p := ⟨_, rfl⟩
        rw [hp] at hpn ⊢
        clear hp
        have ll : ¬ (p : Int) < (n : Int) := by omega
        have KA := keep (rkeys_any (some ⟨b, off, none⟩) n c es wr (SRC.out.below entKind_ok HI.out.bel) n8)
        go_wp2_with fail
        refine KA.out.mono ?_
        rintro e w6 ⟨v6, rfl, bs, hI6⟩
        rw [HL.out] at hI6
        obtain ⟨ka, kcc, rfl, hR6, _⟩ := RSrc.own byteKind_ok hI6.row (fun e he => byteKind_ok.below (hI6.each e he) hI6.bel)
        have hsm : bs.length ≤ 64 := by have := hI6.len; omega
        have hks : bs.map (·.bytes) = Tq.tkeys L := by rw [hI6.keys]; show Tq.ks L n = Tq.ks L L.length; rw [HLN.out]
        have BLM := keep (rbloom_any ka bs.length kcc bs w6 (by omega) (fun e he => by
          have h1 : e.bytes ∈ Tq.tkeys L := by rw [← hks]; exact List.mem_map.2 ⟨e, he, rfl⟩
          obtain ⟨x, hx, hxe⟩ := Tq.tkeys_mem h1
          have h2 := (Bq.may_bounds (Tq.tok_may OK.out x hx)).2.1
          rw [← hxe]
          omega) hR6)
        rw [hks] at BLM
        have B6 := keep hI6.bel
        clear hI6 hR6 hks KA
        go_wp2_with fail
        refine BLM.out.mono ?_
        rintro e w7 ⟨v7, rfl, hN7⟩
        obtain ⟨a7, c7, rfl, hS7, _⟩ := hN7.src
        have cv := conv_src hS7
        have FL := keep (Tq.filt_len OK.out)
        have hfl : Bl.sizeOf bs.length = (Tq.filt L).length := by rw [← hS7.len]; rfl
        have B7 := keep (B6.out.trans (hN7.2.mono B6.out.size))
        have ULK := keep (UL.out k (Nat.le_refl _))
        have PT := keep (rputText_laid (W := w7) (w := w7) (s := Tq.filt L) (Below.refl _ _) (by have := ULK.out; have := FL.out; have := HI.out.bytes; rw [this]; omega) (HI.out.src.below B7.out))
        obtain ⟨P, hP⟩ : ∃ P, Bs ++ (num (Tq.filt L).length ++ Tq.filt L) = P := ⟨_, rfl⟩
        have HP : Hid (P = Tq.traw L) := by
          show _ = _
          rw [← hP, HI.out.bytes]
          unfold upto Tq.traw Tq.txtB
          rw [HLN.out, HK.out]
          simp only [List.append_assoc]
        have PL : Hid (P.length ≤ 72300) := by show _ ≤ _; rw [HP.out]; exact Tq.traw_len OK.out
        rw [hP] at PT
        clear hN7 hS7 hP hfl
        have cv2 : (convert 24 9 (.slice a7 (Bl.sizeOf bs.length) c7)).run Tryz.prog w7 = .ok (.string ⟨(Tq.filt L).toArray⟩) w7 := cv
        clear cv
        unfold Laid8 at PT
        go_wp2_with fail
        refine PT.out.mono ?_
        rintro e w8 ⟨a8, c8, rfl, hs8, ho8, hb8⟩
        have BX := keep (HI.out.bel.trans (B7.out.mono HI.out.bel.size))
        have SU := keep (rsummed_any a8 P.length c8 P w8 (by have := PL.out; omega) hs8)
        have B8 := keep (BX.out.trans (hb8.mono BX.out.size))
        clear hs8 ho8 hb8
        go_wp2_with fail
        refine SU.out.mono ?_
        rintro e w9 ⟨v9, rfl, hN9⟩
        obtain ⟨a9, c9, rfl, _, _⟩ := Src.of_own hN9.1
        have O9 := keep (own_base hN9.1 (fun g hg => Nat.le_trans B8.out.size (hN9.1.lt g hg).1))
        have B9 := keep (B8.out.trans (hN9.2.mono B8.out.size))
        clear hN9
        go_wp2
        go_ret2
        refine tbuilt_yes OK.out ?_ B9.out
        have e : Tq.tab L = summed P := by rw [HP.out]; rfl
        rw [e]
        exact O9.out
end Go.Proofs.YtjblicgbdecbcaaGreat
