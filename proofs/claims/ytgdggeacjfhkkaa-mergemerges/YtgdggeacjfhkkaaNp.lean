/- The walk of the document's put. -/
import Derived.Test.YtgdggeacjfhkkaaMb
import Derived.Test.YtgdggeacjfhkkaaXb
import Derived.Test.YtgdggeacjfhkkaaXa
namespace Go.Proofs.Ytgdggeacjfhkkaa
open Go.RowKit
open Sk (Ent)

set_option maxHeartbeats 2500000 in
set_option maxRecDepth 100000 in
theorem put_any (ao : Option Addr) (n c : Nat) (ys : List EV) (y : EV) (w : World) (hs : RSrc entKind w ao n c ys) (hn : n ≤ 1000000) (hc : c ≤ maxLen) (hz : 0 < n ∨ c = 0) (hy : entKind.held w y) (hsm : ∀ x ∈ ys, x.e.key.length ≤ 140737488355328 ∧ x.e.val.length ≤ 140737488355328) (hym : y.e.key.length ≤ 140737488355328 ∧ y.e.val.length ≤ 140737488355328) :
    Calls Try.prog 27 #[.slice ao n c, ev y] w fun e w' => ∃ a' m' c' zs, e = .returned (.slice a' m' c') ∧ RSrc entKind w' a' m' c' zs ∧ 0 < m' ∧ c' ≤ maxLen ∧
      ((zs = ys ∧ ∃ x ∈ ys, Mg.alike x.e y.e = true) ∨ ∃ k v, zs = ys.take k ++ [v] ++ ys.drop k ∧ k ≤ n ∧ v.e = y.e ∧ (∀ j x, j < k → ys[j]? = some x → Mg.ahead x.e y.e = true) ∧ ∀ x, ys[k]? = some x → Mg.ahead x.e y.e = false ∧ Mg.alike x.e y.e = false) ∧ Below w.heap.size w w' := by
  obtain ⟨i0, hi0, hz0, hz1, hz2⟩ := info_parts3 infoE
  have HS := keep hs
  have HLEN := keep hs.len
  have hcap := hs.cap
  have SM := keep hsm
  have HZ := keep hz
  unfold maxLen at hc
  have HH : Hid (∀ x ∈ ys, ∀ w', Below w.heap.size w w' → entKind.held w' x) := fun x hx w' hb => entKind_ok.below (hs.held x hx) hb
  have YM := keep hym
  obtain ⟨ykp, ykc, yvp, yvc, ⟨ykey, yseq, ygone, yval⟩⟩ := y
  obtain ⟨W1, hW1⟩ : ∃ W1, w.alloc (.cells #[.slice ykp ykey.length ykc, .int .i64 yseq, .bool ygone, .slice yvp yval.length yvc] 36) = W1 := ⟨_, rfl⟩
  have b1 : Hid (Below w.heap.size w W1) := by rw [← hW1]; exact (Below.refl _ _).alloc (Nat.le_refl _) _
  have g1 : Hid (W1.heap[w.heap.size]? = some (.cells #[.slice ykp ykey.length ykc, .int .i64 yseq, .bool ygone, .slice yvp yval.length yvc] 36)) := by rw [← hW1]; exact heap_alloc_new w _
  have s1 : Hid (w.heap.size < W1.heap.size) := by rw [← hW1]; show _ < _; simp
  have YH := keep (entKind_ok.below hy b1.out)
  obtain ⟨E0, hE0⟩ : ∃ E0, w.heap.size = E0 := ⟨_, rfl⟩
  unfold ev
  simp only at YM YH ⊢
  clear hs hz hsm hym hy
  go_enter Try.func27, Try.ntmps27
  go_wp2
  rw [hE0] at g1
  go_loopw [5] (fun i wr => ∃ k : Nat, k ≤ n ∧ i = .int .i64 (k : Int) ∧ Hid (Below W1.heap.size W1 wr ∧ ∀ j x, j < k → ys[j]? = some x → Mg.ahead x.e ⟨ykey, yseq, ygone, yval⟩ = true)) (fun i _ => n - (intOf i).toNat)
  case atStart => exact ⟨0, Nat.zero_le _, rfl, Below.refl _ _, fun j x hj => by omega⟩
  case round =>
    obtain ⟨k, hk, rfl, hI⟩ := hrel
    have HB := keep hI.out.1
    have HA := keep hI.out.2
    have BW0 := keep (b1.out.trans (HB.out.mono b1.out.size))
    have SR := keep (HS.out.below entKind_ok BW0.out)
    have YR := keep (entKind_ok.below YH.out HB.out)
    have gE : Hid (wr.heap[E0]? = some (.cells #[.slice ykp ykey.length ykc, .int .i64 yseq, .bool ygone, .slice yvp yval.length yvc] 36)) := (HB.out.block E0 (by rw [← hE0]; exact s1.out)).trans g1.out
    have CY : Hid (∀ w', Below wr.heap.size wr w' → w'.cell? ⟨E0, 0, none⟩ = some (.slice ykp ykey.length ykc) ∧ w'.cell? ⟨E0, 0 + 1, none⟩ = some (.int .i64 yseq) ∧ w'.cell? ⟨E0, 0 + 2, none⟩ = some (.bool ygone) ∧ w'.cell? ⟨E0, 0 + 3, none⟩ = some (.slice yvp yval.length yvc)) := fun w' hb => by
      have h := (hb.block E0 (Array.getElem?_eq_some_iff.1 gE.out).1).trans gE.out
      exact ⟨cell_of_row _ _ _ _ _ _ h, cell_of_row _ _ _ _ _ _ h, cell_of_row _ _ _ _ _ _ h, cell_of_row _ _ _ _ _ _ h⟩
    obtain ⟨v0, v1, v2, v3⟩ := CY.out wr (Below.refl _ _)
    simp only [Nat.zero_add] at v1 v2 v3
    by_cases hkn : k < n
    · obtain ⟨b, off, rfl, _, _⟩ := SR.out.form entKind_ok (by omega)
      obtain ⟨x, hx⟩ : ∃ x, ys[k]? = some x := ⟨ys[k]'(by rw [HLEN.out]; exact hkn), List.getElem?_eq_getElem _⟩
      have HX := keep hx
      have xm := List.mem_of_getElem? hx
      obtain ⟨p0, p1, p2, p3⟩ := ent_cells SR.out hx
      have IA : Hid (∀ w', Below wr.heap.size wr w' → Calls Try.prog 41 #[ev x, ev ⟨ykp, ykc, yvp, yvc, ⟨ykey, yseq, ygone, yval⟩⟩] w' fun e w'' => e = .returned (.bool (Mg.ahead x.e ⟨ykey, yseq, ygone, yval⟩)) ∧ Below wr.heap.size wr w'') := fun w' hb => by
        refine (rahead_any x ⟨ykp, ykc, yvp, yvc, ⟨ykey, yseq, ygone, yval⟩⟩ w' (SM.out x xm).1 YM.out.1 (entKind_ok.below (SR.out.held x xm) hb) (entKind_ok.below YR.out hb)).mono ?_
        rintro e w'' ⟨rfl, hb'⟩
        exact ⟨rfl, hb.trans (hb'.mono hb.size)⟩
      have XH := keep (SR.out.held x xm)
      obtain ⟨r, hr⟩ : ∃ r, Mg.ahead x.e ⟨ykey, yseq, ygone, yval⟩ = r := ⟨_, rfl⟩
      have HR := keep hr
      rw [hr] at IA
      have d1 : decide ((k : Int) < (n : Int)) = true := decide_eq_true (by omega)
      have ll : (k : Int) < (n : Int) := by omega
      have l0 : (0 : Int) ≤ (k : Int) := by omega
      clear hx xm hr
      obtain ⟨xkp, xkc, xvp, xvc, ⟨xkey, xseq, xgone, xval⟩⟩ := x
      unfold ev at IA
      simp only at IA p0 p1 p2 p3
      go_wp2_with fail
      go_region_held3 (fun w' => w'.cell? ⟨b, off + k * 4, none⟩ = some (.slice xkp xkey.length xkc) ∧ w'.cell? ⟨b, off + k * 4 + 1, none⟩ = some (.int .i64 xseq) ∧ w'.cell? ⟨b, off + k * 4 + 2, none⟩ = some (.bool xgone) ∧ w'.cell? ⟨b, off + k * 4 + 3, none⟩ = some (.slice xvp xval.length xvc) ∧ w'.cell? ⟨E0, 0, none⟩ = some (.slice ykp ykey.length ykc) ∧ w'.cell? ⟨E0, 1, none⟩ = some (.int .i64 yseq) ∧ w'.cell? ⟨E0, 2, none⟩ = some (.bool ygone) ∧ w'.cell? ⟨E0, 3, none⟩ = some (.slice yvp yval.length yvc))
        (first | exact ⟨p0, p1, p2, p3, v0, v1, v2, v3⟩ | exact ⟨below_cell b4.out p0, below_cell b4.out p1, below_cell b4.out p2, below_cell b4.out p3, below_cell b4.out v0, below_cell b4.out v1, below_cell b4.out v2, below_cell b4.out v3⟩)
        ((go_at_call 41; refine (IA.out _ ((Below.refl _ _).drew)).mono ?_; rintro e w4 ⟨rfl, hb4⟩; have b4 := keep hb4; clear hb4))
      cases r with
      | true =>
        go_wp2
        go_roundw
        case rel => exact ⟨k + 1, by omega, by go_num, HB.out.trans (b4.out.mono HB.out.size), fun j x hj h => by
          rcases Nat.lt_or_ge j k with h1 | h1
          · exact HA.out j x h1 h
          · obtain rfl : j = k := by omega
            rw [HX.out] at h
            cases h
            exact HR.out⟩
        case measure => simp [intOf]; omega
      | false =>
        have BV := keep b4.out
        have BWV := keep (BW0.out.trans (BV.out.mono BW0.out.size))
        have gV : Hid (w4.heap[E0]? = some (.cells #[.slice ykp ykey.length ykc, .int .i64 yseq, .bool ygone, .slice yvp yval.length yvc] 36)) := (BV.out.block E0 (Array.getElem?_eq_some_iff.1 gE.out).1).trans gE.out
        have YV := keep (entKind_ok.below YR.out BV.out)
        have CX : Hid (∀ w', Below w4.heap.size w4 w' → w'.cell? ⟨b, off + k * 4, none⟩ = some (.slice xkp xkey.length xkc) ∧ w'.cell? ⟨b, off + k * 4 + 1, none⟩ = some (.int .i64 xseq) ∧ w'.cell? ⟨b, off + k * 4 + 2, none⟩ = some (.bool xgone) ∧ w'.cell? ⟨b, off + k * 4 + 3, none⟩ = some (.slice xvp xval.length xvc)) := fun w' hb => by
          have h := BV.out.trans (hb.mono BV.out.size)
          exact ⟨below_cell h p0, below_cell h p1, below_cell h p2, below_cell h p3⟩
        have CYV : Hid (∀ w', Below w4.heap.size w4 w' → w'.cell? ⟨E0, 0, none⟩ = some (.slice ykp ykey.length ykc) ∧ w'.cell? ⟨E0, 1, none⟩ = some (.int .i64 yseq) ∧ w'.cell? ⟨E0, 2, none⟩ = some (.bool ygone) ∧ w'.cell? ⟨E0, 3, none⟩ = some (.slice yvp yval.length yvc)) := fun w' hb => by
          have h := (hb.block E0 (Array.getElem?_eq_some_iff.1 gV.out).1).trans gV.out
          exact ⟨cell_of_row _ _ _ _ _ _ h, cell_of_row _ _ _ _ _ _ h, cell_of_row _ _ _ _ _ _ h, cell_of_row _ _ _ _ _ _ h⟩
        have KX : Hid (∀ w', Below w4.heap.size w4 w' → _) := fun w' hb => conv_src (entKind_ok.below XH.out (BV.out.trans (hb.mono BV.out.size))).1
        have KY : Hid (∀ w', Below w4.heap.size w4 w' → _) := fun w' hb => conv_src (entKind_ok.below YV.out hb).1
        simp only at KX KY
        have HLT : Hid (decide ((k : Int) < (n : Int)) = true) := d1
        clear p0 p1 p2 p3 v0 v1 v2 v3
        by_cases hq : xkey = ykey
        · have HEQ : Hid ((xkey == ykey) = true) := by show _ = _; simpa using hq
          by_cases hsq : xseq = yseq
          · have HSQ : Hid ((xseq == yseq) = true) := by show _ = _; simpa using hsq
            have AL : Hid (Mg.alike ⟨xkey, xseq, xgone, xval⟩ ⟨ykey, yseq, ygone, yval⟩ = true) := Mg.alike_iff.2 ⟨hq, hsq⟩
            have SE := keep (HS.out.below entKind_ok BWV.out.drew)
            clear hq hsq
            go_wp2_with fail
            refine wp_region_held_drew (S := fun w' => Below w4.heap.size w4 w') (by kernel_rfl) ((Below.refl _ _).drew) (fun hZ => ?_)
            refine takeH (i := 0) 20 (v := .int .i64 (k : Int)) rfl rfl (by kernel_rfl) (by kernel_rfl) (by kernel_rfl) (fun _ _ _ h => h) (Or.inl ⟨by rfl, ?_⟩) (by assumption) ?_
            · intro w' hSw'
              go_simp
            simp only [Act.put, List.setIfInBounds_toArray, List.set_cons_zero, List.set_cons_succ]
            refine takeH (i := 1) 21 (v := .slice (some ⟨b, off, none⟩) n c) rfl rfl (by kernel_rfl) (by kernel_rfl) (by kernel_rfl) (fun _ _ _ h => h) (Or.inl ⟨by rfl, ?_⟩) (by assumption) ?_
            · intro w' hSw'
              go_simp
            simp only [Act.put, List.setIfInBounds_toArray, List.set_cons_zero, List.set_cons_succ]
            refine takeH (i := 2) 0x16 (v := .int .i64 (n : Int)) rfl rfl (by kernel_rfl) (by kernel_rfl) (by kernel_rfl) (fun _ _ _ h => h) (Or.inl ⟨by rfl, ?_⟩) (by assumption) ?_
            · intro w' hSw'
              go_simp
            simp only [Act.put, List.setIfInBounds_toArray, List.set_cons_zero, List.set_cons_succ]
            refine takeH (i := 3) 23 (v := .bool true) rfl rfl (by kernel_rfl) (by kernel_rfl) (by kernel_rfl) (fun _ _ _ h => h) (Or.inl ⟨by rfl, ?_⟩) (by assumption) ?_
            · intro w' hSw'
              have q9 := HLT.out
              go_simp
            simp only [Act.put, List.setIfInBounds_toArray, List.set_cons_zero, List.set_cons_succ]
            refine takeH (i := 4) 24 (v := .bool true) rfl rfl (by kernel_rfl) (by kernel_rfl) (by kernel_rfl) (fun _ _ _ h => h) (Or.inl ⟨by rfl, ?_⟩) (by assumption) ?_
            · intro w' hSw'
              go_simp
            simp only [Act.put, List.setIfInBounds_toArray, List.set_cons_zero, List.set_cons_succ]
            refine takeH (i := 5) 25 (v := .slice (some ⟨b, off, none⟩) n c) rfl rfl (by kernel_rfl) (by kernel_rfl) (by kernel_rfl) (fun _ _ _ h => h) (Or.inl ⟨by rfl, ?_⟩) (by assumption) ?_
            · intro w' hSw'
              go_simp
            simp only [Act.put, List.setIfInBounds_toArray, List.set_cons_zero, List.set_cons_succ]
            refine takeH (i := 6) 26 (v := .int .i64 (k : Int)) rfl rfl (by kernel_rfl) (by kernel_rfl) (by kernel_rfl) (fun _ _ _ h => h) (Or.inl ⟨by rfl, ?_⟩) (by assumption) ?_
            · intro w' hSw'
              go_simp
            simp only [Act.put, List.setIfInBounds_toArray, List.set_cons_zero, List.set_cons_succ]
            refine takeH (i := 7) 27 (v := .pointer (some ⟨b, off + k * 4, none⟩)) rfl rfl (by kernel_rfl) (by kernel_rfl) (by kernel_rfl) (fun _ _ _ h => h) (Or.inl ⟨by rfl, ?_⟩) (by assumption) ?_
            · intro w' hSw'
              go_simp
            simp only [Act.put, List.setIfInBounds_toArray, List.set_cons_zero, List.set_cons_succ]
            refine takeH (i := 8) 28 (v := .pointer (some ⟨b, off + k * 4, none⟩)) rfl rfl (by kernel_rfl) (by kernel_rfl) (by kernel_rfl) (fun _ _ _ h => h) (Or.inl ⟨by rfl, ?_⟩) (by assumption) ?_
            · intro w' hSw'
              go_simp
            simp only [Act.put, List.setIfInBounds_toArray, List.set_cons_zero, List.set_cons_succ]
            refine takeH (i := 9) 29 (v := .slice xkp xkey.length xkc) rfl rfl (by kernel_rfl) (by kernel_rfl) (by kernel_rfl) (fun _ _ _ h => h) (Or.inl ⟨by rfl, ?_⟩) (by assumption) ?_
            · intro w' hSw'
              obtain ⟨y0, y1, y2, y3⟩ := CX.out w' hSw'
              go_simp
            simp only [Act.put, List.setIfInBounds_toArray, List.set_cons_zero, List.set_cons_succ]
            refine takeH (i := 10) 30 (v := .string ⟨xkey.toArray⟩) rfl rfl (by kernel_rfl) (by kernel_rfl) (by kernel_rfl) (fun _ _ _ h => h) (Or.inl ⟨by rfl, ?_⟩) (by assumption) ?_
            · intro w' hSw'
              have q9 := KX.out w' hSw'
              go_simp
            simp only [Act.put, List.setIfInBounds_toArray, List.set_cons_zero, List.set_cons_succ]
            refine takeH (i := 11) 31 (v := .pointer (some ⟨E0, 0, none⟩)) rfl rfl (by kernel_rfl) (by kernel_rfl) (by kernel_rfl) (fun _ _ _ h => h) (Or.inl ⟨by rfl, ?_⟩) (by assumption) ?_
            · intro w' hSw'
              go_simp
            simp only [Act.put, List.setIfInBounds_toArray, List.set_cons_zero, List.set_cons_succ]
            refine takeH (i := 12) 32 (v := .slice ykp ykey.length ykc) rfl rfl (by kernel_rfl) (by kernel_rfl) (by kernel_rfl) (fun _ _ _ h => h) (Or.inl ⟨by rfl, ?_⟩) (by assumption) ?_
            · intro w' hSw'
              obtain ⟨y0, y1, y2, y3⟩ := CYV.out w' hSw'
              go_simp
            simp only [Act.put, List.setIfInBounds_toArray, List.set_cons_zero, List.set_cons_succ]
            refine takeH (i := 13) 33 (v := .string ⟨ykey.toArray⟩) rfl rfl (by kernel_rfl) (by kernel_rfl) (by kernel_rfl) (fun _ _ _ h => h) (Or.inl ⟨by rfl, ?_⟩) (by assumption) ?_
            · intro w' hSw'
              have q9 := KY.out w' hSw'
              go_simp
            simp only [Act.put, List.setIfInBounds_toArray, List.set_cons_zero, List.set_cons_succ]
            refine takeH (i := 14) 34 (v := .bool true) rfl rfl (by kernel_rfl) (by kernel_rfl) (by kernel_rfl) (fun _ _ _ h => h) (Or.inl ⟨by rfl, ?_⟩) (by assumption) ?_
            · intro w' hSw'
              have q9 := HEQ.out
              go_simp
            simp only [Act.put, List.setIfInBounds_toArray, List.set_cons_zero, List.set_cons_succ]
            refine takeH (i := 15) 35 (v := .bool true) rfl rfl (by kernel_rfl) (by kernel_rfl) (by kernel_rfl) (fun _ _ _ h => h) (Or.inl ⟨by rfl, ?_⟩) (by assumption) ?_
            · intro w' hSw'
              go_simp
            simp only [Act.put, List.setIfInBounds_toArray, List.set_cons_zero, List.set_cons_succ]
            refine takeH (i := 16) 36 (v := .bool true) rfl rfl (by kernel_rfl) (by kernel_rfl) (by kernel_rfl) (fun _ _ _ h => h) (Or.inl ⟨by rfl, ?_⟩) (by assumption) ?_
            · intro w' hSw'
              go_simp
            simp only [Act.put, List.setIfInBounds_toArray, List.set_cons_zero, List.set_cons_succ]
            refine takeH (i := 17) 37 (v := .slice (some ⟨b, off, none⟩) n c) rfl rfl (by kernel_rfl) (by kernel_rfl) (by kernel_rfl) (fun _ _ _ h => h) (Or.inl ⟨by rfl, ?_⟩) (by assumption) ?_
            · intro w' hSw'
              go_simp
            simp only [Act.put, List.setIfInBounds_toArray, List.set_cons_zero, List.set_cons_succ]
            refine takeH (i := 18) 38 (v := .int .i64 (k : Int)) rfl rfl (by kernel_rfl) (by kernel_rfl) (by kernel_rfl) (fun _ _ _ h => h) (Or.inl ⟨by rfl, ?_⟩) (by assumption) ?_
            · intro w' hSw'
              go_simp
            simp only [Act.put, List.setIfInBounds_toArray, List.set_cons_zero, List.set_cons_succ]
            refine takeH (i := 19) 39 (v := .pointer (some ⟨b, off + k * 4, none⟩)) rfl rfl (by kernel_rfl) (by kernel_rfl) (by kernel_rfl) (fun _ _ _ h => h) (Or.inl ⟨by rfl, ?_⟩) (by assumption) ?_
            · intro w' hSw'
              go_simp
            simp only [Act.put, List.setIfInBounds_toArray, List.set_cons_zero, List.set_cons_succ]
            refine takeH (i := 20) 40 (v := .pointer (some ⟨b, off + k * 4 + 1, none⟩)) rfl rfl (by kernel_rfl) (by kernel_rfl) (by kernel_rfl) (fun _ _ _ h => h) (Or.inl ⟨by rfl, ?_⟩) (by assumption) ?_
            · intro w' hSw'
              go_simp
            simp only [Act.put, List.setIfInBounds_toArray, List.set_cons_zero, List.set_cons_succ]
            refine takeH (i := 21) 41 (v := .int .i64 xseq) rfl rfl (by kernel_rfl) (by kernel_rfl) (by kernel_rfl) (fun _ _ _ h => h) (Or.inl ⟨by rfl, ?_⟩) (by assumption) ?_
            · intro w' hSw'
              obtain ⟨y0, y1, y2, y3⟩ := CX.out w' hSw'
              go_simp
            simp only [Act.put, List.setIfInBounds_toArray, List.set_cons_zero, List.set_cons_succ]
            refine takeH (i := 0x16) 42 (v := .pointer (some ⟨E0, 1, none⟩)) rfl rfl (by kernel_rfl) (by kernel_rfl) (by kernel_rfl) (fun _ _ _ h => h) (Or.inl ⟨by rfl, ?_⟩) (by assumption) ?_
            · intro w' hSw'
              go_simp
            simp only [Act.put, List.setIfInBounds_toArray, List.set_cons_zero, List.set_cons_succ]
            refine takeH (i := 23) 43 (v := .int .i64 yseq) rfl rfl (by kernel_rfl) (by kernel_rfl) (by kernel_rfl) (fun _ _ _ h => h) (Or.inl ⟨by rfl, ?_⟩) (by assumption) ?_
            · intro w' hSw'
              obtain ⟨y0, y1, y2, y3⟩ := CYV.out w' hSw'
              go_simp
            simp only [Act.put, List.setIfInBounds_toArray, List.set_cons_zero, List.set_cons_succ]
            refine takeH (i := 24) 44 (v := .bool true) rfl rfl (by kernel_rfl) (by kernel_rfl) (by kernel_rfl) (fun _ _ _ h => h) (Or.inl ⟨by rfl, ?_⟩) (by assumption) ?_
            · intro w' hSw'
              have q9 := HSQ.out
              go_simp
            simp only [Act.put, List.setIfInBounds_toArray, List.set_cons_zero, List.set_cons_succ]
            refine takeH (i := 25) 45 (v := .bool true) rfl rfl (by kernel_rfl) (by kernel_rfl) (by kernel_rfl) (fun _ _ _ h => h) (Or.inl ⟨by rfl, ?_⟩) (by assumption) ?_
            · intro w' hSw'
              go_simp
            simp only [Act.put, List.setIfInBounds_toArray, List.set_cons_zero, List.set_cons_succ]
            refine wpAnyH_done (by kernel_rfl) ?_ _
            have BFF := keep (BWV.out.drew)
            go_wp2
            go_ret
            exact ⟨_, _, _, ys, rfl, SE.out, by omega, by unfold maxLen; omega, .inl ⟨rfl, _, List.mem_of_getElem? HX.out, AL.out⟩, BFF.out⟩
          · have HSQ : Hid ((xseq == yseq) = false) := by show _ = _; simpa using hsq
            have HN : Hid (∀ x, ys[k]? = some x → Mg.ahead x.e ⟨ykey, yseq, ygone, yval⟩ = false ∧ Mg.alike x.e ⟨ykey, yseq, ygone, yval⟩ = false) := fun x h => by
              rw [HX.out] at h
              cases h
              exact ⟨HR.out, by cases ha : Mg.alike ⟨xkey, xseq, xgone, xval⟩ ⟨ykey, yseq, ygone, yval⟩ with | false => rfl | true => exact absurd (Mg.alike_iff.1 ha).2 hsq⟩
            clear hq hsq
            go_wp2_with fail
            refine wp_region_held_drew (S := fun w' => Below w4.heap.size w4 w') (by kernel_rfl) ((Below.refl _ _).drew) (fun hZ => ?_)
            refine takeH (i := 0) 20 (v := .int .i64 (k : Int)) rfl rfl (by kernel_rfl) (by kernel_rfl) (by kernel_rfl) (fun _ _ _ h => h) (Or.inl ⟨by rfl, ?_⟩) (by assumption) ?_
            · intro w' hSw'
              go_simp
            simp only [Act.put, List.setIfInBounds_toArray, List.set_cons_zero, List.set_cons_succ]
            refine takeH (i := 1) 21 (v := .slice (some ⟨b, off, none⟩) n c) rfl rfl (by kernel_rfl) (by kernel_rfl) (by kernel_rfl) (fun _ _ _ h => h) (Or.inl ⟨by rfl, ?_⟩) (by assumption) ?_
            · intro w' hSw'
              go_simp
            simp only [Act.put, List.setIfInBounds_toArray, List.set_cons_zero, List.set_cons_succ]
            refine takeH (i := 2) 0x16 (v := .int .i64 (n : Int)) rfl rfl (by kernel_rfl) (by kernel_rfl) (by kernel_rfl) (fun _ _ _ h => h) (Or.inl ⟨by rfl, ?_⟩) (by assumption) ?_
            · intro w' hSw'
              go_simp
            simp only [Act.put, List.setIfInBounds_toArray, List.set_cons_zero, List.set_cons_succ]
            refine takeH (i := 3) 23 (v := .bool true) rfl rfl (by kernel_rfl) (by kernel_rfl) (by kernel_rfl) (fun _ _ _ h => h) (Or.inl ⟨by rfl, ?_⟩) (by assumption) ?_
            · intro w' hSw'
              have q9 := HLT.out
              go_simp
            simp only [Act.put, List.setIfInBounds_toArray, List.set_cons_zero, List.set_cons_succ]
            refine takeH (i := 4) 24 (v := .bool true) rfl rfl (by kernel_rfl) (by kernel_rfl) (by kernel_rfl) (fun _ _ _ h => h) (Or.inl ⟨by rfl, ?_⟩) (by assumption) ?_
            · intro w' hSw'
              go_simp
            simp only [Act.put, List.setIfInBounds_toArray, List.set_cons_zero, List.set_cons_succ]
            refine takeH (i := 5) 25 (v := .slice (some ⟨b, off, none⟩) n c) rfl rfl (by kernel_rfl) (by kernel_rfl) (by kernel_rfl) (fun _ _ _ h => h) (Or.inl ⟨by rfl, ?_⟩) (by assumption) ?_
            · intro w' hSw'
              go_simp
            simp only [Act.put, List.setIfInBounds_toArray, List.set_cons_zero, List.set_cons_succ]
            refine takeH (i := 6) 26 (v := .int .i64 (k : Int)) rfl rfl (by kernel_rfl) (by kernel_rfl) (by kernel_rfl) (fun _ _ _ h => h) (Or.inl ⟨by rfl, ?_⟩) (by assumption) ?_
            · intro w' hSw'
              go_simp
            simp only [Act.put, List.setIfInBounds_toArray, List.set_cons_zero, List.set_cons_succ]
            refine takeH (i := 7) 27 (v := .pointer (some ⟨b, off + k * 4, none⟩)) rfl rfl (by kernel_rfl) (by kernel_rfl) (by kernel_rfl) (fun _ _ _ h => h) (Or.inl ⟨by rfl, ?_⟩) (by assumption) ?_
            · intro w' hSw'
              go_simp
            simp only [Act.put, List.setIfInBounds_toArray, List.set_cons_zero, List.set_cons_succ]
            refine takeH (i := 8) 28 (v := .pointer (some ⟨b, off + k * 4, none⟩)) rfl rfl (by kernel_rfl) (by kernel_rfl) (by kernel_rfl) (fun _ _ _ h => h) (Or.inl ⟨by rfl, ?_⟩) (by assumption) ?_
            · intro w' hSw'
              go_simp
            simp only [Act.put, List.setIfInBounds_toArray, List.set_cons_zero, List.set_cons_succ]
            refine takeH (i := 9) 29 (v := .slice xkp xkey.length xkc) rfl rfl (by kernel_rfl) (by kernel_rfl) (by kernel_rfl) (fun _ _ _ h => h) (Or.inl ⟨by rfl, ?_⟩) (by assumption) ?_
            · intro w' hSw'
              obtain ⟨y0, y1, y2, y3⟩ := CX.out w' hSw'
              go_simp
            simp only [Act.put, List.setIfInBounds_toArray, List.set_cons_zero, List.set_cons_succ]
            refine takeH (i := 10) 30 (v := .string ⟨xkey.toArray⟩) rfl rfl (by kernel_rfl) (by kernel_rfl) (by kernel_rfl) (fun _ _ _ h => h) (Or.inl ⟨by rfl, ?_⟩) (by assumption) ?_
            · intro w' hSw'
              have q9 := KX.out w' hSw'
              go_simp
            simp only [Act.put, List.setIfInBounds_toArray, List.set_cons_zero, List.set_cons_succ]
            refine takeH (i := 11) 31 (v := .pointer (some ⟨E0, 0, none⟩)) rfl rfl (by kernel_rfl) (by kernel_rfl) (by kernel_rfl) (fun _ _ _ h => h) (Or.inl ⟨by rfl, ?_⟩) (by assumption) ?_
            · intro w' hSw'
              go_simp
            simp only [Act.put, List.setIfInBounds_toArray, List.set_cons_zero, List.set_cons_succ]
            refine takeH (i := 12) 32 (v := .slice ykp ykey.length ykc) rfl rfl (by kernel_rfl) (by kernel_rfl) (by kernel_rfl) (fun _ _ _ h => h) (Or.inl ⟨by rfl, ?_⟩) (by assumption) ?_
            · intro w' hSw'
              obtain ⟨y0, y1, y2, y3⟩ := CYV.out w' hSw'
              go_simp
            simp only [Act.put, List.setIfInBounds_toArray, List.set_cons_zero, List.set_cons_succ]
            refine takeH (i := 13) 33 (v := .string ⟨ykey.toArray⟩) rfl rfl (by kernel_rfl) (by kernel_rfl) (by kernel_rfl) (fun _ _ _ h => h) (Or.inl ⟨by rfl, ?_⟩) (by assumption) ?_
            · intro w' hSw'
              have q9 := KY.out w' hSw'
              go_simp
            simp only [Act.put, List.setIfInBounds_toArray, List.set_cons_zero, List.set_cons_succ]
            refine takeH (i := 14) 34 (v := .bool true) rfl rfl (by kernel_rfl) (by kernel_rfl) (by kernel_rfl) (fun _ _ _ h => h) (Or.inl ⟨by rfl, ?_⟩) (by assumption) ?_
            · intro w' hSw'
              have q9 := HEQ.out
              go_simp
            simp only [Act.put, List.setIfInBounds_toArray, List.set_cons_zero, List.set_cons_succ]
            refine takeH (i := 15) 35 (v := .bool true) rfl rfl (by kernel_rfl) (by kernel_rfl) (by kernel_rfl) (fun _ _ _ h => h) (Or.inl ⟨by rfl, ?_⟩) (by assumption) ?_
            · intro w' hSw'
              go_simp
            simp only [Act.put, List.setIfInBounds_toArray, List.set_cons_zero, List.set_cons_succ]
            refine takeH (i := 16) 36 (v := .bool true) rfl rfl (by kernel_rfl) (by kernel_rfl) (by kernel_rfl) (fun _ _ _ h => h) (Or.inl ⟨by rfl, ?_⟩) (by assumption) ?_
            · intro w' hSw'
              go_simp
            simp only [Act.put, List.setIfInBounds_toArray, List.set_cons_zero, List.set_cons_succ]
            refine takeH (i := 17) 37 (v := .slice (some ⟨b, off, none⟩) n c) rfl rfl (by kernel_rfl) (by kernel_rfl) (by kernel_rfl) (fun _ _ _ h => h) (Or.inl ⟨by rfl, ?_⟩) (by assumption) ?_
            · intro w' hSw'
              go_simp
            simp only [Act.put, List.setIfInBounds_toArray, List.set_cons_zero, List.set_cons_succ]
            refine takeH (i := 18) 38 (v := .int .i64 (k : Int)) rfl rfl (by kernel_rfl) (by kernel_rfl) (by kernel_rfl) (fun _ _ _ h => h) (Or.inl ⟨by rfl, ?_⟩) (by assumption) ?_
            · intro w' hSw'
              go_simp
            simp only [Act.put, List.setIfInBounds_toArray, List.set_cons_zero, List.set_cons_succ]
            refine takeH (i := 19) 39 (v := .pointer (some ⟨b, off + k * 4, none⟩)) rfl rfl (by kernel_rfl) (by kernel_rfl) (by kernel_rfl) (fun _ _ _ h => h) (Or.inl ⟨by rfl, ?_⟩) (by assumption) ?_
            · intro w' hSw'
              go_simp
            simp only [Act.put, List.setIfInBounds_toArray, List.set_cons_zero, List.set_cons_succ]
            refine takeH (i := 20) 40 (v := .pointer (some ⟨b, off + k * 4 + 1, none⟩)) rfl rfl (by kernel_rfl) (by kernel_rfl) (by kernel_rfl) (fun _ _ _ h => h) (Or.inl ⟨by rfl, ?_⟩) (by assumption) ?_
            · intro w' hSw'
              go_simp
            simp only [Act.put, List.setIfInBounds_toArray, List.set_cons_zero, List.set_cons_succ]
            refine takeH (i := 21) 41 (v := .int .i64 xseq) rfl rfl (by kernel_rfl) (by kernel_rfl) (by kernel_rfl) (fun _ _ _ h => h) (Or.inl ⟨by rfl, ?_⟩) (by assumption) ?_
            · intro w' hSw'
              obtain ⟨y0, y1, y2, y3⟩ := CX.out w' hSw'
              go_simp
            simp only [Act.put, List.setIfInBounds_toArray, List.set_cons_zero, List.set_cons_succ]
            refine takeH (i := 0x16) 42 (v := .pointer (some ⟨E0, 1, none⟩)) rfl rfl (by kernel_rfl) (by kernel_rfl) (by kernel_rfl) (fun _ _ _ h => h) (Or.inl ⟨by rfl, ?_⟩) (by assumption) ?_
            · intro w' hSw'
              go_simp
            simp only [Act.put, List.setIfInBounds_toArray, List.set_cons_zero, List.set_cons_succ]
            refine takeH (i := 23) 43 (v := .int .i64 yseq) rfl rfl (by kernel_rfl) (by kernel_rfl) (by kernel_rfl) (fun _ _ _ h => h) (Or.inl ⟨by rfl, ?_⟩) (by assumption) ?_
            · intro w' hSw'
              obtain ⟨y0, y1, y2, y3⟩ := CYV.out w' hSw'
              go_simp
            simp only [Act.put, List.setIfInBounds_toArray, List.set_cons_zero, List.set_cons_succ]
            refine takeH (i := 24) 44 (v := .bool false) rfl rfl (by kernel_rfl) (by kernel_rfl) (by kernel_rfl) (fun _ _ _ h => h) (Or.inl ⟨by rfl, ?_⟩) (by assumption) ?_
            · intro w' hSw'
              have q9 := HSQ.out
              go_simp
            simp only [Act.put, List.setIfInBounds_toArray, List.set_cons_zero, List.set_cons_succ]
            refine takeH (i := 25) 45 (v := .bool false) rfl rfl (by kernel_rfl) (by kernel_rfl) (by kernel_rfl) (fun _ _ _ h => h) (Or.inl ⟨by rfl, ?_⟩) (by assumption) ?_
            · intro w' hSw'
              go_simp
            simp only [Act.put, List.setIfInBounds_toArray, List.set_cons_zero, List.set_cons_succ]
            refine wpAnyH_done (by kernel_rfl) ?_ _
            obtain ⟨wz, hwz⟩ : ∃ wz, wz = w4.drew := ⟨_, rfl⟩
            rw [← hwz]
            have BW : Hid (Below w.heap.size w wz) := by rw [hwz]; exact BWV.out.drew
            have gZ : Hid (wz.heap[E0]? = some (.cells #[.slice ykp ykey.length ykc, .int .i64 yseq, .bool ygone, .slice yvp yval.length yvc] 36)) := by rw [hwz]; exact gV.out
            have CZ : Hid (∀ w', Below wz.heap.size wz w' → w'.cell? ⟨E0, 0, none⟩ = some (.slice ykp ykey.length ykc) ∧ w'.cell? ⟨E0, 1, none⟩ = some (.int .i64 yseq) ∧ w'.cell? ⟨E0, 2, none⟩ = some (.bool ygone) ∧ w'.cell? ⟨E0, 3, none⟩ = some (.slice yvp yval.length yvc)) := fun w' hb => by
              have h := (hb.block E0 (Array.getElem?_eq_some_iff.1 gZ.out).1).trans gZ.out
              exact ⟨cell_of_row _ _ _ _ _ _ h, cell_of_row _ _ _ _ _ _ h, cell_of_row _ _ _ _ _ _ h, cell_of_row _ _ _ _ _ _ h⟩
            have SZ := keep (HS.out.below entKind_ok BW.out)
            have bD : Hid (Below wz.heap.size wz (wz.drew.alloc (.cells #[] 36))) := (Below.refl _ _).drew.alloc (Nat.le_refl _) _
            have OD : Hid ((wz.drew.alloc (.cells #[] 36)).ownsRow wz.heap.size 36 4 (.slice (some ⟨wz.heap.size, 0, none⟩) 0 0) 0 []) := own_emptyS (w := wz.drew) (Nat.le_refl _)
            have H1 := keep (SZ.out.head entKind_ok k hk)
            have H2 : Hid (RSrc entKind wz (some ⟨b, off + k * 4, none⟩) (n - k) (c - k) (ys.drop k)) := SZ.out.tail entKind_ok k hk
            have YZ : Hid (entKind.held wz ⟨ykp, ykc, yvp, yvc, ⟨ykey, yseq, ygone, yval⟩⟩) := by rw [hwz]; exact entKind_ok.below YV.out (Below.refl _ _).drew
            have CP : Hid (∀ w', Below wz.heap.size wz w' → _) := fun w' hb => rcopy_any ⟨ykp, ykc, yvp, yvc, ⟨ykey, yseq, ygone, yval⟩⟩ w' YM.out.1 YM.out.2 (entKind_ok.below YZ.out hb)
            unfold ev at CP
            simp only at CP
            have m0 : (0 : Int) ≤ (k : Int) := by omega
            have mc : (k : Int) ≤ (c : Int) := by omega
            have mn : (k : Int) ≤ (n : Int) := by omega
            have nc : (n : Int) ≤ (c : Int) := by omega
            have nm : ¬ c = k := by omega
            have nm2 : ¬ k = c := by omega
            clear hwz
            go_wp2_with fail
            refine wp_region_held_drew (S := fun w' => Below wz.heap.size wz w') (by kernel_rfl) ((Below.refl _ _).drew) (fun hHeld => ?_)
            refine takeH (i := 1) 48 (v := .slice (some ⟨b, off, none⟩) n c) rfl rfl (by kernel_rfl) (by kernel_rfl) (by kernel_rfl) (fun _ _ _ h => h) (Or.inl ⟨by rfl, ?_⟩) (by assumption) ?_
            · intro w' hSw'
              go_simp
            simp only [Act.put, List.setIfInBounds_toArray, List.set_cons_zero, List.set_cons_succ]
            refine takeH (i := 2) 49 (v := .int .i64 (k : Int)) rfl rfl (by kernel_rfl) (by kernel_rfl) (by kernel_rfl) (fun _ _ _ h => h) (Or.inl ⟨by rfl, ?_⟩) (by assumption) ?_
            · intro w' hSw'
              go_simp
            simp only [Act.put, List.setIfInBounds_toArray, List.set_cons_zero, List.set_cons_succ]
            refine takeH (i := 3) 50 (v := .slice (some ⟨b, off, none⟩) k c) rfl rfl (by kernel_rfl) (by kernel_rfl) (by kernel_rfl) (fun _ _ _ h => h) (Or.inl ⟨by rfl, ?_⟩) (by assumption) ?_
            · intro w' hSw'
              go_simp
            simp only [Act.put, List.setIfInBounds_toArray, List.set_cons_zero, List.set_cons_succ]
            refine takeH (i := 5) 52 (v := .agg #[.slice ykp ykey.length ykc, .int .i64 yseq, .bool ygone, .slice yvp yval.length yvc]) rfl rfl (by kernel_rfl) (by kernel_rfl) (by kernel_rfl) (fun _ _ _ h => h) (Or.inl ⟨by rfl, ?_⟩) (by assumption) ?_
            · intro w' hSw'
              obtain ⟨y0, y1, y2, y3⟩ := CZ.out w' hSw'
              go_simp
            simp only [Act.put, List.setIfInBounds_toArray, List.set_cons_zero, List.set_cons_succ]
            refine takeH (i := 9) 56 (v := .slice (some ⟨b, off, none⟩) n c) rfl rfl (by kernel_rfl) (by kernel_rfl) (by kernel_rfl) (fun _ _ _ h => h) (Or.inl ⟨by rfl, ?_⟩) (by assumption) ?_
            · intro w' hSw'
              go_simp
            simp only [Act.put, List.setIfInBounds_toArray, List.set_cons_zero, List.set_cons_succ]
            refine takeH (i := 10) 57 (v := .int .i64 (k : Int)) rfl rfl (by kernel_rfl) (by kernel_rfl) (by kernel_rfl) (fun _ _ _ h => h) (Or.inl ⟨by rfl, ?_⟩) (by assumption) ?_
            · intro w' hSw'
              go_simp
            simp only [Act.put, List.setIfInBounds_toArray, List.set_cons_zero, List.set_cons_succ]
            refine takeH (i := 11) 58 (v := .slice (some ⟨b, off + k * 4, none⟩) (n - k) (c - k)) rfl rfl (by kernel_rfl) (by kernel_rfl) (by kernel_rfl) (fun _ _ _ h => h) (Or.inl ⟨by rfl, ?_⟩) (by assumption) ?_
            · intro w' hSw'
              go_simp
            simp only [Act.put, List.setIfInBounds_toArray, List.set_cons_zero, List.set_cons_succ]
            refine wpAnyH_ready (rs := [0]) (by kernel_rfl) (by simp) ?_
            refine AllReadyH.cons rfl (fun K hK => ?_) AllReadyH.nil
            go_simp
            refine hK.out _ _ bD.out (fun hA1 => ?_)
            clear hK K
            refine wpAnyH_ready (rs := [4]) (by kernel_rfl) (by simp) ?_
            refine AllReadyH.cons rfl (fun K hK => ?_) AllReadyH.nil
            refine step_append_rows rfl _ _ 24 rfl wz.heap.size 36 i0 _ 4 64 Try.underlying24 hi0 hz0 hz1 hz2 rfl (by decide) (.slice (some ⟨wz.heap.size, 0, none⟩) 0 0) (0) ([]) rfl OD.out (some ⟨b, off, none⟩) (k) (c) (rv entKind (ys.take k)) rfl (H1.out.nil) (by rw [rv_length entKind_ok, H1.out.len]; rfl) ((H1.out.below entKind_ok bD.out).cells) (rv_one entKind_ok _) (by unfold maxLen; omega) (by omega) bD.out.size ?_
            intro a1 c1 x1 ho1 hg1
            simp only [Nat.zero_add, List.nil_append] at ho1 ⊢
            have O1 := keep ho1
            have b1 := keep (bD.out.grown hg1 bD.out.size (fun j hj => by cases hj; exact Nat.le_refl _))
            clear ho1 hg1
            refine hK.out _ _ b1.out (fun hA2 => ?_)
            clear hK K
            refine wpAnyH_ready (rs := [6]) (by kernel_rfl) (by simp) ?_
            refine AllReadyH.cons rfl (fun K hK => ?_) AllReadyH.nil
            go_simp
            refine (CP.out x1 b1.out).mono ?_
            rintro e x2 ⟨v, rfl, hve, hvo, hb2⟩
            have HVE := keep hve
            have b2 := keep (b1.out.trans (hb2.mono b1.out.size))
            have O2 := keep (own_block O1.out (fun g hg => hb2.block g (own_size O1.out hg)))
            have VH := keep hvo.held
            have VO2 := keep (hvo.base b1.out.size)
            obtain ⟨x3, hx3⟩ : ∃ x3, x2.alloc (.cells (entKind.vals v).toArray 36) = x3 := ⟨_, rfl⟩
            have d3 : Hid (Below x2.heap.size x2 x3) := by rw [← hx3]; exact (Below.refl _ _).alloc (Nat.le_refl _) _
            have b3 := keep (b2.out.trans (d3.out.mono b2.out.size))
            have O3 := keep (own_block O2.out (fun g hg => d3.out.block g (own_size O2.out hg)))
            have V3 := keep (VO2.out.block d3.out)
            have RC3 : Hid (RSrc entKind x3 (some ⟨x2.heap.size, 0, none⟩) 1 1 [v]) := by rw [← hx3]; exact RSrc.built1 VH.out
            obtain ⟨vkp, vkc, vvp, vvc, ⟨vkey, vseq, vgone, vval⟩⟩ := v
            simp only [entKind] at hx3
            simp only
            clear hve hvo hb2
            go_wp2_with fail
            refine hK.out _ _ b2.out (fun hA3 => ?_)
            clear hK K
            refine wpAnyH_ready (rs := [7]) (by kernel_rfl) (by simp) ?_
            refine AllReadyH.cons rfl (fun K hK => ?_) AllReadyH.nil
            go_simp
            refine hK.out _ _ b3.out (fun hA4 => ?_)
            clear hK K
            refine wpAnyH_ready (rs := [8]) (by kernel_rfl) (by simp) ?_
            refine AllReadyH.cons rfl (fun K hK => ?_) AllReadyH.nil
            refine step_append_rows rfl _ _ 24 rfl wz.heap.size 36 i0 _ 4 64 Try.underlying24 hi0 hz0 hz1 hz2 rfl (by decide) (.slice a1 k c1) (k) (rv entKind (ys.take k)) rfl O3.out (some ⟨x2.heap.size, 0, none⟩) (1) (1) (rv entKind [⟨vkp, vkc, vvp, vvc, ⟨vkey, vseq, vgone, vval⟩⟩]) rfl (fun h => by cases h) (rfl) (RC3.out.cells) (rv_one entKind_ok _) (by unfold maxLen; omega) (by omega) b3.out.size ?_
            intro a4 c4 x4 ho4 hg4
            have O4 := keep ho4
            have b4 := keep (b3.out.grown hg4 b3.out.size (fun j hj => (O3.out.lt j hj).1))
            have V4 := keep (V3.out.grown O3.out hg4)
            clear ho4 hg4
            refine hK.out _ _ b4.out (fun hA5 => ?_)
            clear hK K
            refine wpAnyH_ready (rs := [12]) (by kernel_rfl) (by simp) ?_
            refine AllReadyH.cons rfl (fun K hK => ?_) AllReadyH.nil
            refine step_append_rows rfl _ _ 24 rfl wz.heap.size 36 i0 _ 4 64 Try.underlying24 hi0 hz0 hz1 hz2 rfl (by decide) (.slice a4 (k + 1) c4) (k + 1) (rv entKind (ys.take k) ++ rv entKind [⟨vkp, vkc, vvp, vvc, ⟨vkey, vseq, vgone, vval⟩⟩]) rfl O4.out (some ⟨b, off + k * 4, none⟩) (n - k) (c - k) (rv entKind (ys.drop k)) rfl (H2.out.nil) (by rw [rv_length entKind_ok, H2.out.len]; rfl) ((H2.out.below entKind_ok b4.out).cells) (rv_one entKind_ok _) (by unfold maxLen; omega) (by omega) b4.out.size ?_
            intro a5 c5 x5 ho5 hg5
            have O5 := keep ho5
            have b5 := keep (b4.out.grown hg5 b4.out.size (fun j hj => (O4.out.lt j hj).1))
            have V5 := keep (V4.out.grown O4.out hg5)
            clear ho5 hg5
            refine hK.out _ _ b5.out (fun hA6 => ?_)
            clear hK K
            refine takeH (i := 13) 4 (v := .slice a5 (k + 1 + (n - k)) c5) rfl rfl (by kernel_rfl) (by kernel_rfl) (by kernel_rfl) (fun _ _ _ h => h) (Or.inl ⟨by rfl, ?_⟩) (by assumption) ?_
            · intro w' hSw'
              go_simp
            simp only [Act.put, List.setIfInBounds_toArray]
            refine wpAnyH_done (by kernel_rfl) ?_ _
            rw [← rv_append, ← rv_append] at O5
            have BZ := keep (BW.out.trans (b5.out.mono BW.out.size))
            go_wp2
            go_ret
            rename_i d0 hd0
            have hd1 : (some 59 : Option Tmp) = some d0 := hd0
            cases hd1
            obtain ⟨ra, rc, er, hr, hrc⟩ := RSrc.own entKind_ok O5.out (fun x hx => by
              rcases List.mem_append.1 hx with hx | hx
              · rcases List.mem_append.1 hx with hx | hx
                · exact HH.out x (List.mem_of_mem_take hx) x5 BZ.out
                · rw [List.mem_singleton.1 hx]; exact V5.out.held
              · exact HH.out x (List.mem_of_mem_drop hx) x5 BZ.out)
            cases er
            refine ⟨_, _, _, by first | rfl | simp | go_simp, _, hr, by omega, hrc, .inr ⟨k, ⟨vkp, vkc, vvp, vvc, ⟨vkey, vseq, vgone, vval⟩⟩, by simp, by omega, HVE.out, HA.out, HN.out⟩, ?_⟩
            first | exact BZ.out | (rw [← hE0]; exact BZ.out)
        · have HEQ : Hid ((xkey == ykey) = false) := by show _ = _; simpa using hq
          have HN : Hid (∀ x, ys[k]? = some x → Mg.ahead x.e ⟨ykey, yseq, ygone, yval⟩ = false ∧ Mg.alike x.e ⟨ykey, yseq, ygone, yval⟩ = false) := fun x h => by
            rw [HX.out] at h
            cases h
            exact ⟨HR.out, by cases ha : Mg.alike ⟨xkey, xseq, xgone, xval⟩ ⟨ykey, yseq, ygone, yval⟩ with | false => rfl | true => exact absurd (Mg.alike_iff.1 ha).1 hq⟩
          clear hq
          go_wp2_with fail
          refine wp_region_held_drew (S := fun w' => Below w4.heap.size w4 w') (by kernel_rfl) ((Below.refl _ _).drew) (fun hZ => ?_)
          refine takeH (i := 0) 20 (v := .int .i64 (k : Int)) rfl rfl (by kernel_rfl) (by kernel_rfl) (by kernel_rfl) (fun _ _ _ h => h) (Or.inl ⟨by rfl, ?_⟩) (by assumption) ?_
          · intro w' hSw'
            go_simp
          simp only [Act.put, List.setIfInBounds_toArray, List.set_cons_zero, List.set_cons_succ]
          refine takeH (i := 1) 21 (v := .slice (some ⟨b, off, none⟩) n c) rfl rfl (by kernel_rfl) (by kernel_rfl) (by kernel_rfl) (fun _ _ _ h => h) (Or.inl ⟨by rfl, ?_⟩) (by assumption) ?_
          · intro w' hSw'
            go_simp
          simp only [Act.put, List.setIfInBounds_toArray, List.set_cons_zero, List.set_cons_succ]
          refine takeH (i := 2) 0x16 (v := .int .i64 (n : Int)) rfl rfl (by kernel_rfl) (by kernel_rfl) (by kernel_rfl) (fun _ _ _ h => h) (Or.inl ⟨by rfl, ?_⟩) (by assumption) ?_
          · intro w' hSw'
            go_simp
          simp only [Act.put, List.setIfInBounds_toArray, List.set_cons_zero, List.set_cons_succ]
          refine takeH (i := 3) 23 (v := .bool true) rfl rfl (by kernel_rfl) (by kernel_rfl) (by kernel_rfl) (fun _ _ _ h => h) (Or.inl ⟨by rfl, ?_⟩) (by assumption) ?_
          · intro w' hSw'
            have q9 := HLT.out
            go_simp
          simp only [Act.put, List.setIfInBounds_toArray, List.set_cons_zero, List.set_cons_succ]
          refine takeH (i := 4) 24 (v := .bool true) rfl rfl (by kernel_rfl) (by kernel_rfl) (by kernel_rfl) (fun _ _ _ h => h) (Or.inl ⟨by rfl, ?_⟩) (by assumption) ?_
          · intro w' hSw'
            go_simp
          simp only [Act.put, List.setIfInBounds_toArray, List.set_cons_zero, List.set_cons_succ]
          refine takeH (i := 5) 25 (v := .slice (some ⟨b, off, none⟩) n c) rfl rfl (by kernel_rfl) (by kernel_rfl) (by kernel_rfl) (fun _ _ _ h => h) (Or.inl ⟨by rfl, ?_⟩) (by assumption) ?_
          · intro w' hSw'
            go_simp
          simp only [Act.put, List.setIfInBounds_toArray, List.set_cons_zero, List.set_cons_succ]
          refine takeH (i := 6) 26 (v := .int .i64 (k : Int)) rfl rfl (by kernel_rfl) (by kernel_rfl) (by kernel_rfl) (fun _ _ _ h => h) (Or.inl ⟨by rfl, ?_⟩) (by assumption) ?_
          · intro w' hSw'
            go_simp
          simp only [Act.put, List.setIfInBounds_toArray, List.set_cons_zero, List.set_cons_succ]
          refine takeH (i := 7) 27 (v := .pointer (some ⟨b, off + k * 4, none⟩)) rfl rfl (by kernel_rfl) (by kernel_rfl) (by kernel_rfl) (fun _ _ _ h => h) (Or.inl ⟨by rfl, ?_⟩) (by assumption) ?_
          · intro w' hSw'
            go_simp
          simp only [Act.put, List.setIfInBounds_toArray, List.set_cons_zero, List.set_cons_succ]
          refine takeH (i := 8) 28 (v := .pointer (some ⟨b, off + k * 4, none⟩)) rfl rfl (by kernel_rfl) (by kernel_rfl) (by kernel_rfl) (fun _ _ _ h => h) (Or.inl ⟨by rfl, ?_⟩) (by assumption) ?_
          · intro w' hSw'
            go_simp
          simp only [Act.put, List.setIfInBounds_toArray, List.set_cons_zero, List.set_cons_succ]
          refine takeH (i := 9) 29 (v := .slice xkp xkey.length xkc) rfl rfl (by kernel_rfl) (by kernel_rfl) (by kernel_rfl) (fun _ _ _ h => h) (Or.inl ⟨by rfl, ?_⟩) (by assumption) ?_
          · intro w' hSw'
            obtain ⟨y0, y1, y2, y3⟩ := CX.out w' hSw'
            go_simp
          simp only [Act.put, List.setIfInBounds_toArray, List.set_cons_zero, List.set_cons_succ]
          refine takeH (i := 10) 30 (v := .string ⟨xkey.toArray⟩) rfl rfl (by kernel_rfl) (by kernel_rfl) (by kernel_rfl) (fun _ _ _ h => h) (Or.inl ⟨by rfl, ?_⟩) (by assumption) ?_
          · intro w' hSw'
            have q9 := KX.out w' hSw'
            go_simp
          simp only [Act.put, List.setIfInBounds_toArray, List.set_cons_zero, List.set_cons_succ]
          refine takeH (i := 11) 31 (v := .pointer (some ⟨E0, 0, none⟩)) rfl rfl (by kernel_rfl) (by kernel_rfl) (by kernel_rfl) (fun _ _ _ h => h) (Or.inl ⟨by rfl, ?_⟩) (by assumption) ?_
          · intro w' hSw'
            go_simp
          simp only [Act.put, List.setIfInBounds_toArray, List.set_cons_zero, List.set_cons_succ]
          refine takeH (i := 12) 32 (v := .slice ykp ykey.length ykc) rfl rfl (by kernel_rfl) (by kernel_rfl) (by kernel_rfl) (fun _ _ _ h => h) (Or.inl ⟨by rfl, ?_⟩) (by assumption) ?_
          · intro w' hSw'
            obtain ⟨y0, y1, y2, y3⟩ := CYV.out w' hSw'
            go_simp
          simp only [Act.put, List.setIfInBounds_toArray, List.set_cons_zero, List.set_cons_succ]
          refine takeH (i := 13) 33 (v := .string ⟨ykey.toArray⟩) rfl rfl (by kernel_rfl) (by kernel_rfl) (by kernel_rfl) (fun _ _ _ h => h) (Or.inl ⟨by rfl, ?_⟩) (by assumption) ?_
          · intro w' hSw'
            have q9 := KY.out w' hSw'
            go_simp
          simp only [Act.put, List.setIfInBounds_toArray, List.set_cons_zero, List.set_cons_succ]
          refine takeH (i := 14) 34 (v := .bool false) rfl rfl (by kernel_rfl) (by kernel_rfl) (by kernel_rfl) (fun _ _ _ h => h) (Or.inl ⟨by rfl, ?_⟩) (by assumption) ?_
          · intro w' hSw'
            have q9 := HEQ.out
            go_simp
          simp only [Act.put, List.setIfInBounds_toArray, List.set_cons_zero, List.set_cons_succ]
          refine takeH (i := 15) 35 (v := .bool false) rfl rfl (by kernel_rfl) (by kernel_rfl) (by kernel_rfl) (fun _ _ _ h => h) (Or.inl ⟨by rfl, ?_⟩) (by assumption) ?_
          · intro w' hSw'
            go_simp
          simp only [Act.put, List.setIfInBounds_toArray, List.set_cons_zero, List.set_cons_succ]
          refine takeH (i := 16) 36 (v := .bool false) rfl rfl (by kernel_rfl) (by kernel_rfl) (by kernel_rfl) (fun _ _ _ h => h) (Or.inl ⟨by rfl, ?_⟩) (by assumption) ?_
          · intro w' hSw'
            go_simp
          simp only [Act.put, List.setIfInBounds_toArray, List.set_cons_zero, List.set_cons_succ]
          refine takeH (i := 17) 37 (v := undef) rfl rfl (by kernel_rfl) (by kernel_rfl) (by kernel_rfl) (fun _ _ _ h => h) (Or.inr ⟨by rfl, rfl⟩) (by assumption) ?_
          simp only [Act.put, List.setIfInBounds_toArray, List.set_cons_zero, List.set_cons_succ]
          refine takeH (i := 18) 38 (v := undef) rfl rfl (by kernel_rfl) (by kernel_rfl) (by kernel_rfl) (fun _ _ _ h => h) (Or.inr ⟨by rfl, rfl⟩) (by assumption) ?_
          simp only [Act.put, List.setIfInBounds_toArray, List.set_cons_zero, List.set_cons_succ]
          refine takeH (i := 19) 39 (v := undef) rfl rfl (by kernel_rfl) (by kernel_rfl) (by kernel_rfl) (fun _ _ _ h => h) (Or.inr ⟨by rfl, rfl⟩) (by assumption) ?_
          simp only [Act.put, List.setIfInBounds_toArray, List.set_cons_zero, List.set_cons_succ]
          refine takeH (i := 20) 40 (v := undef) rfl rfl (by kernel_rfl) (by kernel_rfl) (by kernel_rfl) (fun _ _ _ h => h) (Or.inr ⟨by rfl, rfl⟩) (by assumption) ?_
          simp only [Act.put, List.setIfInBounds_toArray, List.set_cons_zero, List.set_cons_succ]
          refine takeH (i := 21) 41 (v := undef) rfl rfl (by kernel_rfl) (by kernel_rfl) (by kernel_rfl) (fun _ _ _ h => h) (Or.inr ⟨by rfl, rfl⟩) (by assumption) ?_
          simp only [Act.put, List.setIfInBounds_toArray, List.set_cons_zero, List.set_cons_succ]
          refine takeH (i := 0x16) 42 (v := undef) rfl rfl (by kernel_rfl) (by kernel_rfl) (by kernel_rfl) (fun _ _ _ h => h) (Or.inr ⟨by rfl, rfl⟩) (by assumption) ?_
          simp only [Act.put, List.setIfInBounds_toArray, List.set_cons_zero, List.set_cons_succ]
          refine takeH (i := 23) 43 (v := undef) rfl rfl (by kernel_rfl) (by kernel_rfl) (by kernel_rfl) (fun _ _ _ h => h) (Or.inr ⟨by rfl, rfl⟩) (by assumption) ?_
          simp only [Act.put, List.setIfInBounds_toArray, List.set_cons_zero, List.set_cons_succ]
          refine takeH (i := 24) 44 (v := undef) rfl rfl (by kernel_rfl) (by kernel_rfl) (by kernel_rfl) (fun _ _ _ h => h) (Or.inr ⟨by rfl, rfl⟩) (by assumption) ?_
          simp only [Act.put, List.setIfInBounds_toArray, List.set_cons_zero, List.set_cons_succ]
          refine takeH (i := 25) 45 (v := .bool false) rfl rfl (by kernel_rfl) (by kernel_rfl) (by kernel_rfl) (fun _ _ _ h => h) (Or.inl ⟨by rfl, ?_⟩) (by assumption) ?_
          · intro w' hSw'
            go_simp
          simp only [Act.put, List.setIfInBounds_toArray, List.set_cons_zero, List.set_cons_succ]
          refine wpAnyH_done (by kernel_rfl) ?_ _
          obtain ⟨wz, hwz⟩ : ∃ wz, wz = w4.drew := ⟨_, rfl⟩
          rw [← hwz]
          have BW : Hid (Below w.heap.size w wz) := by rw [hwz]; exact BWV.out.drew
          have gZ : Hid (wz.heap[E0]? = some (.cells #[.slice ykp ykey.length ykc, .int .i64 yseq, .bool ygone, .slice yvp yval.length yvc] 36)) := by rw [hwz]; exact gV.out
          have CZ : Hid (∀ w', Below wz.heap.size wz w' → w'.cell? ⟨E0, 0, none⟩ = some (.slice ykp ykey.length ykc) ∧ w'.cell? ⟨E0, 1, none⟩ = some (.int .i64 yseq) ∧ w'.cell? ⟨E0, 2, none⟩ = some (.bool ygone) ∧ w'.cell? ⟨E0, 3, none⟩ = some (.slice yvp yval.length yvc)) := fun w' hb => by
            have h := (hb.block E0 (Array.getElem?_eq_some_iff.1 gZ.out).1).trans gZ.out
            exact ⟨cell_of_row _ _ _ _ _ _ h, cell_of_row _ _ _ _ _ _ h, cell_of_row _ _ _ _ _ _ h, cell_of_row _ _ _ _ _ _ h⟩
          have SZ := keep (HS.out.below entKind_ok BW.out)
          have bD : Hid (Below wz.heap.size wz (wz.drew.alloc (.cells #[] 36))) := (Below.refl _ _).drew.alloc (Nat.le_refl _) _
          have OD : Hid ((wz.drew.alloc (.cells #[] 36)).ownsRow wz.heap.size 36 4 (.slice (some ⟨wz.heap.size, 0, none⟩) 0 0) 0 []) := own_emptyS (w := wz.drew) (Nat.le_refl _)
          have H1 := keep (SZ.out.head entKind_ok k hk)
          have H2 : Hid (RSrc entKind wz (some ⟨b, off + k * 4, none⟩) (n - k) (c - k) (ys.drop k)) := SZ.out.tail entKind_ok k hk
          have YZ : Hid (entKind.held wz ⟨ykp, ykc, yvp, yvc, ⟨ykey, yseq, ygone, yval⟩⟩) := by rw [hwz]; exact entKind_ok.below YV.out (Below.refl _ _).drew
          have CP : Hid (∀ w', Below wz.heap.size wz w' → _) := fun w' hb => rcopy_any ⟨ykp, ykc, yvp, yvc, ⟨ykey, yseq, ygone, yval⟩⟩ w' YM.out.1 YM.out.2 (entKind_ok.below YZ.out hb)
          unfold ev at CP
          simp only at CP
          have m0 : (0 : Int) ≤ (k : Int) := by omega
          have mc : (k : Int) ≤ (c : Int) := by omega
          have mn : (k : Int) ≤ (n : Int) := by omega
          have nc : (n : Int) ≤ (c : Int) := by omega
          have nm : ¬ c = k := by omega
          have nm2 : ¬ k = c := by omega
          clear hwz
          go_wp2_with fail
          refine wp_region_held_drew (S := fun w' => Below wz.heap.size wz w') (by kernel_rfl) ((Below.refl _ _).drew) (fun hHeld => ?_)
          refine takeH (i := 1) 48 (v := .slice (some ⟨b, off, none⟩) n c) rfl rfl (by kernel_rfl) (by kernel_rfl) (by kernel_rfl) (fun _ _ _ h => h) (Or.inl ⟨by rfl, ?_⟩) (by assumption) ?_
          · intro w' hSw'
            go_simp
          simp only [Act.put, List.setIfInBounds_toArray, List.set_cons_zero, List.set_cons_succ]
          refine takeH (i := 2) 49 (v := .int .i64 (k : Int)) rfl rfl (by kernel_rfl) (by kernel_rfl) (by kernel_rfl) (fun _ _ _ h => h) (Or.inl ⟨by rfl, ?_⟩) (by assumption) ?_
          · intro w' hSw'
            go_simp
          simp only [Act.put, List.setIfInBounds_toArray, List.set_cons_zero, List.set_cons_succ]
          refine takeH (i := 3) 50 (v := .slice (some ⟨b, off, none⟩) k c) rfl rfl (by kernel_rfl) (by kernel_rfl) (by kernel_rfl) (fun _ _ _ h => h) (Or.inl ⟨by rfl, ?_⟩) (by assumption) ?_
          · intro w' hSw'
            go_simp
          simp only [Act.put, List.setIfInBounds_toArray, List.set_cons_zero, List.set_cons_succ]
          refine takeH (i := 5) 52 (v := .agg #[.slice ykp ykey.length ykc, .int .i64 yseq, .bool ygone, .slice yvp yval.length yvc]) rfl rfl (by kernel_rfl) (by kernel_rfl) (by kernel_rfl) (fun _ _ _ h => h) (Or.inl ⟨by rfl, ?_⟩) (by assumption) ?_
          · intro w' hSw'
            obtain ⟨y0, y1, y2, y3⟩ := CZ.out w' hSw'
            go_simp
          simp only [Act.put, List.setIfInBounds_toArray, List.set_cons_zero, List.set_cons_succ]
          refine takeH (i := 9) 56 (v := .slice (some ⟨b, off, none⟩) n c) rfl rfl (by kernel_rfl) (by kernel_rfl) (by kernel_rfl) (fun _ _ _ h => h) (Or.inl ⟨by rfl, ?_⟩) (by assumption) ?_
          · intro w' hSw'
            go_simp
          simp only [Act.put, List.setIfInBounds_toArray, List.set_cons_zero, List.set_cons_succ]
          refine takeH (i := 10) 57 (v := .int .i64 (k : Int)) rfl rfl (by kernel_rfl) (by kernel_rfl) (by kernel_rfl) (fun _ _ _ h => h) (Or.inl ⟨by rfl, ?_⟩) (by assumption) ?_
          · intro w' hSw'
            go_simp
          simp only [Act.put, List.setIfInBounds_toArray, List.set_cons_zero, List.set_cons_succ]
          refine takeH (i := 11) 58 (v := .slice (some ⟨b, off + k * 4, none⟩) (n - k) (c - k)) rfl rfl (by kernel_rfl) (by kernel_rfl) (by kernel_rfl) (fun _ _ _ h => h) (Or.inl ⟨by rfl, ?_⟩) (by assumption) ?_
          · intro w' hSw'
            go_simp
          simp only [Act.put, List.setIfInBounds_toArray, List.set_cons_zero, List.set_cons_succ]
          refine wpAnyH_ready (rs := [0]) (by kernel_rfl) (by simp) ?_
          refine AllReadyH.cons rfl (fun K hK => ?_) AllReadyH.nil
          go_simp
          refine hK.out _ _ bD.out (fun hA1 => ?_)
          clear hK K
          refine wpAnyH_ready (rs := [4]) (by kernel_rfl) (by simp) ?_
          refine AllReadyH.cons rfl (fun K hK => ?_) AllReadyH.nil
          refine step_append_rows rfl _ _ 24 rfl wz.heap.size 36 i0 _ 4 64 Try.underlying24 hi0 hz0 hz1 hz2 rfl (by decide) (.slice (some ⟨wz.heap.size, 0, none⟩) 0 0) (0) ([]) rfl OD.out (some ⟨b, off, none⟩) (k) (c) (rv entKind (ys.take k)) rfl (H1.out.nil) (by rw [rv_length entKind_ok, H1.out.len]; rfl) ((H1.out.below entKind_ok bD.out).cells) (rv_one entKind_ok _) (by unfold maxLen; omega) (by omega) bD.out.size ?_
          intro a1 c1 x1 ho1 hg1
          simp only [Nat.zero_add, List.nil_append] at ho1 ⊢
          have O1 := keep ho1
          have b1 := keep (bD.out.grown hg1 bD.out.size (fun j hj => by cases hj; exact Nat.le_refl _))
          clear ho1 hg1
          refine hK.out _ _ b1.out (fun hA2 => ?_)
          clear hK K
          refine wpAnyH_ready (rs := [6]) (by kernel_rfl) (by simp) ?_
          refine AllReadyH.cons rfl (fun K hK => ?_) AllReadyH.nil
          go_simp
          refine (CP.out x1 b1.out).mono ?_
          rintro e x2 ⟨v, rfl, hve, hvo, hb2⟩
          have HVE := keep hve
          have b2 := keep (b1.out.trans (hb2.mono b1.out.size))
          have O2 := keep (own_block O1.out (fun g hg => hb2.block g (own_size O1.out hg)))
          have VH := keep hvo.held
          have VO2 := keep (hvo.base b1.out.size)
          obtain ⟨x3, hx3⟩ : ∃ x3, x2.alloc (.cells (entKind.vals v).toArray 36) = x3 := ⟨_, rfl⟩
          have d3 : Hid (Below x2.heap.size x2 x3) := by rw [← hx3]; exact (Below.refl _ _).alloc (Nat.le_refl _) _
          have b3 := keep (b2.out.trans (d3.out.mono b2.out.size))
          have O3 := keep (own_block O2.out (fun g hg => d3.out.block g (own_size O2.out hg)))
          have V3 := keep (VO2.out.block d3.out)
          have RC3 : Hid (RSrc entKind x3 (some ⟨x2.heap.size, 0, none⟩) 1 1 [v]) := by rw [← hx3]; exact RSrc.built1 VH.out
          obtain ⟨vkp, vkc, vvp, vvc, ⟨vkey, vseq, vgone, vval⟩⟩ := v
          simp only [entKind] at hx3
          simp only
          clear hve hvo hb2
          go_wp2_with fail
          refine hK.out _ _ b2.out (fun hA3 => ?_)
          clear hK K
          refine wpAnyH_ready (rs := [7]) (by kernel_rfl) (by simp) ?_
          refine AllReadyH.cons rfl (fun K hK => ?_) AllReadyH.nil
          go_simp
          refine hK.out _ _ b3.out (fun hA4 => ?_)
          clear hK K
          refine wpAnyH_ready (rs := [8]) (by kernel_rfl) (by simp) ?_
          refine AllReadyH.cons rfl (fun K hK => ?_) AllReadyH.nil
          refine step_append_rows rfl _ _ 24 rfl wz.heap.size 36 i0 _ 4 64 Try.underlying24 hi0 hz0 hz1 hz2 rfl (by decide) (.slice a1 k c1) (k) (rv entKind (ys.take k)) rfl O3.out (some ⟨x2.heap.size, 0, none⟩) (1) (1) (rv entKind [⟨vkp, vkc, vvp, vvc, ⟨vkey, vseq, vgone, vval⟩⟩]) rfl (fun h => by cases h) (rfl) (RC3.out.cells) (rv_one entKind_ok _) (by unfold maxLen; omega) (by omega) b3.out.size ?_
          intro a4 c4 x4 ho4 hg4
          have O4 := keep ho4
          have b4 := keep (b3.out.grown hg4 b3.out.size (fun j hj => (O3.out.lt j hj).1))
          have V4 := keep (V3.out.grown O3.out hg4)
          clear ho4 hg4
          refine hK.out _ _ b4.out (fun hA5 => ?_)
          clear hK K
          refine wpAnyH_ready (rs := [12]) (by kernel_rfl) (by simp) ?_
          refine AllReadyH.cons rfl (fun K hK => ?_) AllReadyH.nil
          refine step_append_rows rfl _ _ 24 rfl wz.heap.size 36 i0 _ 4 64 Try.underlying24 hi0 hz0 hz1 hz2 rfl (by decide) (.slice a4 (k + 1) c4) (k + 1) (rv entKind (ys.take k) ++ rv entKind [⟨vkp, vkc, vvp, vvc, ⟨vkey, vseq, vgone, vval⟩⟩]) rfl O4.out (some ⟨b, off + k * 4, none⟩) (n - k) (c - k) (rv entKind (ys.drop k)) rfl (H2.out.nil) (by rw [rv_length entKind_ok, H2.out.len]; rfl) ((H2.out.below entKind_ok b4.out).cells) (rv_one entKind_ok _) (by unfold maxLen; omega) (by omega) b4.out.size ?_
          intro a5 c5 x5 ho5 hg5
          have O5 := keep ho5
          have b5 := keep (b4.out.grown hg5 b4.out.size (fun j hj => (O4.out.lt j hj).1))
          have V5 := keep (V4.out.grown O4.out hg5)
          clear ho5 hg5
          refine hK.out _ _ b5.out (fun hA6 => ?_)
          clear hK K
          refine takeH (i := 13) 4 (v := .slice a5 (k + 1 + (n - k)) c5) rfl rfl (by kernel_rfl) (by kernel_rfl) (by kernel_rfl) (fun _ _ _ h => h) (Or.inl ⟨by rfl, ?_⟩) (by assumption) ?_
          · intro w' hSw'
            go_simp
          simp only [Act.put, List.setIfInBounds_toArray]
          refine wpAnyH_done (by kernel_rfl) ?_ _
          rw [← rv_append, ← rv_append] at O5
          have BZ := keep (BW.out.trans (b5.out.mono BW.out.size))
          go_wp2
          go_ret
          rename_i d0 hd0
          have hd1 : (some 59 : Option Tmp) = some d0 := hd0
          cases hd1
          obtain ⟨ra, rc, er, hr, hrc⟩ := RSrc.own entKind_ok O5.out (fun x hx => by
            rcases List.mem_append.1 hx with hx | hx
            · rcases List.mem_append.1 hx with hx | hx
              · exact HH.out x (List.mem_of_mem_take hx) x5 BZ.out
              · rw [List.mem_singleton.1 hx]; exact V5.out.held
            · exact HH.out x (List.mem_of_mem_drop hx) x5 BZ.out)
          cases er
          refine ⟨_, _, _, by first | rfl | simp | go_simp, _, hr, by omega, hrc, .inr ⟨k, ⟨vkp, vkc, vvp, vvc, ⟨vkey, vseq, vgone, vval⟩⟩, by simp, by omega, HVE.out, HA.out, HN.out⟩, ?_⟩
          first | exact BZ.out | (rw [← hE0]; exact BZ.out)
    · obtain rfl : k = n := by omega
      have d1 : decide ((k : Int) < (k : Int)) = false := decide_eq_false (by omega)
      have ll : ¬ (k : Int) < (k : Int) := by omega
      have HLT : Hid (¬ (k : Int) < (k : Int)) := ll
      have HN : Hid (∀ x, ys[k]? = some x → Mg.ahead x.e ⟨ykey, yseq, ygone, yval⟩ = false ∧ Mg.alike x.e ⟨ykey, yseq, ygone, yval⟩ = false) := fun x h => by
        have := (List.getElem?_eq_some_iff.1 h).1
        rw [HLEN.out] at this
        omega
      go_wp2_with fail
      go_quiet (fail)
      obtain ⟨w4, hw4⟩ : ∃ w4, w4 = wr.drewN nq := ⟨_, rfl⟩
      rw [← hw4]
      have BV : Hid (Below wr.heap.size wr w4) := by rw [hw4]; exact below_drewN (Below.refl _ _) _
      have BWV := keep (BW0.out.trans (BV.out.mono BW0.out.size))
      have gV : Hid (w4.heap[E0]? = some (.cells #[.slice ykp ykey.length ykc, .int .i64 yseq, .bool ygone, .slice yvp yval.length yvc] 36)) := (BV.out.block E0 (Array.getElem?_eq_some_iff.1 gE.out).1).trans gE.out
      have YV := keep (entKind_ok.below YR.out BV.out)
      clear hw4 v0 v1 v2 v3 d1
      go_wp2_with fail
      refine wp_region_held_drew (S := fun w' => Below w4.heap.size w4 w') (by kernel_rfl) ((Below.refl _ _).drew) (fun hZ => ?_)
      refine takeH (i := 0) 20 (v := .int .i64 (k : Int)) rfl rfl (by kernel_rfl) (by kernel_rfl) (by kernel_rfl) (fun _ _ _ h => h) (Or.inl ⟨by rfl, ?_⟩) (by assumption) ?_
      · intro w' hSw'
        go_simp
      simp only [Act.put, List.setIfInBounds_toArray, List.set_cons_zero, List.set_cons_succ]
      refine takeH (i := 1) 21 (v := .slice ao k c) rfl rfl (by kernel_rfl) (by kernel_rfl) (by kernel_rfl) (fun _ _ _ h => h) (Or.inl ⟨by rfl, ?_⟩) (by assumption) ?_
      · intro w' hSw'
        go_simp
      simp only [Act.put, List.setIfInBounds_toArray, List.set_cons_zero, List.set_cons_succ]
      refine takeH (i := 2) 0x16 (v := .int .i64 (k : Int)) rfl rfl (by kernel_rfl) (by kernel_rfl) (by kernel_rfl) (fun _ _ _ h => h) (Or.inl ⟨by rfl, ?_⟩) (by assumption) ?_
      · intro w' hSw'
        go_simp
      simp only [Act.put, List.setIfInBounds_toArray, List.set_cons_zero, List.set_cons_succ]
      refine takeH (i := 3) 23 (v := .bool false) rfl rfl (by kernel_rfl) (by kernel_rfl) (by kernel_rfl) (fun _ _ _ h => h) (Or.inl ⟨by rfl, ?_⟩) (by assumption) ?_
      · intro w' hSw'
        have q9 := HLT.out
        go_simp
      simp only [Act.put, List.setIfInBounds_toArray, List.set_cons_zero, List.set_cons_succ]
      refine takeH (i := 4) 24 (v := .bool false) rfl rfl (by kernel_rfl) (by kernel_rfl) (by kernel_rfl) (fun _ _ _ h => h) (Or.inl ⟨by rfl, ?_⟩) (by assumption) ?_
      · intro w' hSw'
        go_simp
      simp only [Act.put, List.setIfInBounds_toArray, List.set_cons_zero, List.set_cons_succ]
      refine takeH (i := 5) 25 (v := undef) rfl rfl (by kernel_rfl) (by kernel_rfl) (by kernel_rfl) (fun _ _ _ h => h) (Or.inr ⟨by rfl, rfl⟩) (by assumption) ?_
      simp only [Act.put, List.setIfInBounds_toArray, List.set_cons_zero, List.set_cons_succ]
      refine takeH (i := 6) 26 (v := undef) rfl rfl (by kernel_rfl) (by kernel_rfl) (by kernel_rfl) (fun _ _ _ h => h) (Or.inr ⟨by rfl, rfl⟩) (by assumption) ?_
      simp only [Act.put, List.setIfInBounds_toArray, List.set_cons_zero, List.set_cons_succ]
      refine takeH (i := 7) 27 (v := undef) rfl rfl (by kernel_rfl) (by kernel_rfl) (by kernel_rfl) (fun _ _ _ h => h) (Or.inr ⟨by rfl, rfl⟩) (by assumption) ?_
      simp only [Act.put, List.setIfInBounds_toArray, List.set_cons_zero, List.set_cons_succ]
      refine takeH (i := 8) 28 (v := undef) rfl rfl (by kernel_rfl) (by kernel_rfl) (by kernel_rfl) (fun _ _ _ h => h) (Or.inr ⟨by rfl, rfl⟩) (by assumption) ?_
      simp only [Act.put, List.setIfInBounds_toArray, List.set_cons_zero, List.set_cons_succ]
      refine takeH (i := 9) 29 (v := undef) rfl rfl (by kernel_rfl) (by kernel_rfl) (by kernel_rfl) (fun _ _ _ h => h) (Or.inr ⟨by rfl, rfl⟩) (by assumption) ?_
      simp only [Act.put, List.setIfInBounds_toArray, List.set_cons_zero, List.set_cons_succ]
      refine takeH (i := 10) 30 (v := undef) rfl rfl (by kernel_rfl) (by kernel_rfl) (by kernel_rfl) (fun _ _ _ h => h) (Or.inr ⟨by rfl, rfl⟩) (by assumption) ?_
      simp only [Act.put, List.setIfInBounds_toArray, List.set_cons_zero, List.set_cons_succ]
      refine takeH (i := 11) 31 (v := undef) rfl rfl (by kernel_rfl) (by kernel_rfl) (by kernel_rfl) (fun _ _ _ h => h) (Or.inr ⟨by rfl, rfl⟩) (by assumption) ?_
      simp only [Act.put, List.setIfInBounds_toArray, List.set_cons_zero, List.set_cons_succ]
      refine takeH (i := 12) 32 (v := undef) rfl rfl (by kernel_rfl) (by kernel_rfl) (by kernel_rfl) (fun _ _ _ h => h) (Or.inr ⟨by rfl, rfl⟩) (by assumption) ?_
      simp only [Act.put, List.setIfInBounds_toArray, List.set_cons_zero, List.set_cons_succ]
      refine takeH (i := 13) 33 (v := undef) rfl rfl (by kernel_rfl) (by kernel_rfl) (by kernel_rfl) (fun _ _ _ h => h) (Or.inr ⟨by rfl, rfl⟩) (by assumption) ?_
      simp only [Act.put, List.setIfInBounds_toArray, List.set_cons_zero, List.set_cons_succ]
      refine takeH (i := 14) 34 (v := undef) rfl rfl (by kernel_rfl) (by kernel_rfl) (by kernel_rfl) (fun _ _ _ h => h) (Or.inr ⟨by rfl, rfl⟩) (by assumption) ?_
      simp only [Act.put, List.setIfInBounds_toArray, List.set_cons_zero, List.set_cons_succ]
      refine takeH (i := 15) 35 (v := .bool false) rfl rfl (by kernel_rfl) (by kernel_rfl) (by kernel_rfl) (fun _ _ _ h => h) (Or.inl ⟨by rfl, ?_⟩) (by assumption) ?_
      · intro w' hSw'
        go_simp
      simp only [Act.put, List.setIfInBounds_toArray, List.set_cons_zero, List.set_cons_succ]
      refine takeH (i := 16) 36 (v := .bool false) rfl rfl (by kernel_rfl) (by kernel_rfl) (by kernel_rfl) (fun _ _ _ h => h) (Or.inl ⟨by rfl, ?_⟩) (by assumption) ?_
      · intro w' hSw'
        go_simp
      simp only [Act.put, List.setIfInBounds_toArray, List.set_cons_zero, List.set_cons_succ]
      refine takeH (i := 17) 37 (v := undef) rfl rfl (by kernel_rfl) (by kernel_rfl) (by kernel_rfl) (fun _ _ _ h => h) (Or.inr ⟨by rfl, rfl⟩) (by assumption) ?_
      simp only [Act.put, List.setIfInBounds_toArray, List.set_cons_zero, List.set_cons_succ]
      refine takeH (i := 18) 38 (v := undef) rfl rfl (by kernel_rfl) (by kernel_rfl) (by kernel_rfl) (fun _ _ _ h => h) (Or.inr ⟨by rfl, rfl⟩) (by assumption) ?_
      simp only [Act.put, List.setIfInBounds_toArray, List.set_cons_zero, List.set_cons_succ]
      refine takeH (i := 19) 39 (v := undef) rfl rfl (by kernel_rfl) (by kernel_rfl) (by kernel_rfl) (fun _ _ _ h => h) (Or.inr ⟨by rfl, rfl⟩) (by assumption) ?_
      simp only [Act.put, List.setIfInBounds_toArray, List.set_cons_zero, List.set_cons_succ]
      refine takeH (i := 20) 40 (v := undef) rfl rfl (by kernel_rfl) (by kernel_rfl) (by kernel_rfl) (fun _ _ _ h => h) (Or.inr ⟨by rfl, rfl⟩) (by assumption) ?_
      simp only [Act.put, List.setIfInBounds_toArray, List.set_cons_zero, List.set_cons_succ]
      refine takeH (i := 21) 41 (v := undef) rfl rfl (by kernel_rfl) (by kernel_rfl) (by kernel_rfl) (fun _ _ _ h => h) (Or.inr ⟨by rfl, rfl⟩) (by assumption) ?_
      simp only [Act.put, List.setIfInBounds_toArray, List.set_cons_zero, List.set_cons_succ]
      refine takeH (i := 0x16) 42 (v := undef) rfl rfl (by kernel_rfl) (by kernel_rfl) (by kernel_rfl) (fun _ _ _ h => h) (Or.inr ⟨by rfl, rfl⟩) (by assumption) ?_
      simp only [Act.put, List.setIfInBounds_toArray, List.set_cons_zero, List.set_cons_succ]
      refine takeH (i := 23) 43 (v := undef) rfl rfl (by kernel_rfl) (by kernel_rfl) (by kernel_rfl) (fun _ _ _ h => h) (Or.inr ⟨by rfl, rfl⟩) (by assumption) ?_
      simp only [Act.put, List.setIfInBounds_toArray, List.set_cons_zero, List.set_cons_succ]
      refine takeH (i := 24) 44 (v := undef) rfl rfl (by kernel_rfl) (by kernel_rfl) (by kernel_rfl) (fun _ _ _ h => h) (Or.inr ⟨by rfl, rfl⟩) (by assumption) ?_
      simp only [Act.put, List.setIfInBounds_toArray, List.set_cons_zero, List.set_cons_succ]
      refine takeH (i := 25) 45 (v := .bool false) rfl rfl (by kernel_rfl) (by kernel_rfl) (by kernel_rfl) (fun _ _ _ h => h) (Or.inl ⟨by rfl, ?_⟩) (by assumption) ?_
      · intro w' hSw'
        go_simp
      simp only [Act.put, List.setIfInBounds_toArray, List.set_cons_zero, List.set_cons_succ]
      refine wpAnyH_done (by kernel_rfl) ?_ _
      rcases Nat.lt_or_ge k c with hlt | hge
      · have hk0 : 0 < k := by rcases HZ.out with h | h <;> omega
        obtain ⟨b, off, rfl, _, _⟩ := SR.out.form entKind_ok hk0
        obtain ⟨wz, hwz⟩ : ∃ wz, wz = w4.drew := ⟨_, rfl⟩
        rw [← hwz]
        have BW : Hid (Below w.heap.size w wz) := by rw [hwz]; exact BWV.out.drew
        have gZ : Hid (wz.heap[E0]? = some (.cells #[.slice ykp ykey.length ykc, .int .i64 yseq, .bool ygone, .slice yvp yval.length yvc] 36)) := by rw [hwz]; exact gV.out
        have CZ : Hid (∀ w', Below wz.heap.size wz w' → w'.cell? ⟨E0, 0, none⟩ = some (.slice ykp ykey.length ykc) ∧ w'.cell? ⟨E0, 1, none⟩ = some (.int .i64 yseq) ∧ w'.cell? ⟨E0, 2, none⟩ = some (.bool ygone) ∧ w'.cell? ⟨E0, 3, none⟩ = some (.slice yvp yval.length yvc)) := fun w' hb => by
          have h := (hb.block E0 (Array.getElem?_eq_some_iff.1 gZ.out).1).trans gZ.out
          exact ⟨cell_of_row _ _ _ _ _ _ h, cell_of_row _ _ _ _ _ _ h, cell_of_row _ _ _ _ _ _ h, cell_of_row _ _ _ _ _ _ h⟩
        have SZ := keep (HS.out.below entKind_ok BW.out)
        have bD : Hid (Below wz.heap.size wz (wz.drew.alloc (.cells #[] 36))) := (Below.refl _ _).drew.alloc (Nat.le_refl _) _
        have OD : Hid ((wz.drew.alloc (.cells #[] 36)).ownsRow wz.heap.size 36 4 (.slice (some ⟨wz.heap.size, 0, none⟩) 0 0) 0 []) := own_emptyS (w := wz.drew) (Nat.le_refl _)
        have H1 := keep (SZ.out.head entKind_ok k hk)
        have H2 : Hid (RSrc entKind wz (some ⟨b, off + k * 4, none⟩) 0 (c - k) (ys.drop k)) := by have := SZ.out.tail entKind_ok k hk; rw [Nat.sub_self] at this; exact this
        have YZ : Hid (entKind.held wz ⟨ykp, ykc, yvp, yvc, ⟨ykey, yseq, ygone, yval⟩⟩) := by rw [hwz]; exact entKind_ok.below YV.out (Below.refl _ _).drew
        have CP : Hid (∀ w', Below wz.heap.size wz w' → _) := fun w' hb => rcopy_any ⟨ykp, ykc, yvp, yvc, ⟨ykey, yseq, ygone, yval⟩⟩ w' YM.out.1 YM.out.2 (entKind_ok.below YZ.out hb)
        unfold ev at CP
        simp only at CP
        have m0 : (0 : Int) ≤ (k : Int) := by omega
        have mc : (k : Int) ≤ (c : Int) := by omega
        have mn : (k : Int) ≤ (k : Int) := by omega
        have nc : (k : Int) ≤ (c : Int) := by omega
        have nm : ¬ c = k := by omega
        have nm2 : ¬ k = c := by omega
        clear hwz
        go_wp2_with fail
        refine wp_region_held_drew (S := fun w' => Below wz.heap.size wz w') (by kernel_rfl) ((Below.refl _ _).drew) (fun hHeld => ?_)
        refine takeH (i := 1) 48 (v := .slice (some ⟨b, off, none⟩) k c) rfl rfl (by kernel_rfl) (by kernel_rfl) (by kernel_rfl) (fun _ _ _ h => h) (Or.inl ⟨by rfl, ?_⟩) (by assumption) ?_
        · intro w' hSw'
          go_simp
        simp only [Act.put, List.setIfInBounds_toArray, List.set_cons_zero, List.set_cons_succ]
        refine takeH (i := 2) 49 (v := .int .i64 (k : Int)) rfl rfl (by kernel_rfl) (by kernel_rfl) (by kernel_rfl) (fun _ _ _ h => h) (Or.inl ⟨by rfl, ?_⟩) (by assumption) ?_
        · intro w' hSw'
          go_simp
        simp only [Act.put, List.setIfInBounds_toArray, List.set_cons_zero, List.set_cons_succ]
        refine takeH (i := 3) 50 (v := .slice (some ⟨b, off, none⟩) k c) rfl rfl (by kernel_rfl) (by kernel_rfl) (by kernel_rfl) (fun _ _ _ h => h) (Or.inl ⟨by rfl, ?_⟩) (by assumption) ?_
        · intro w' hSw'
          go_simp
        simp only [Act.put, List.setIfInBounds_toArray, List.set_cons_zero, List.set_cons_succ]
        refine takeH (i := 5) 52 (v := .agg #[.slice ykp ykey.length ykc, .int .i64 yseq, .bool ygone, .slice yvp yval.length yvc]) rfl rfl (by kernel_rfl) (by kernel_rfl) (by kernel_rfl) (fun _ _ _ h => h) (Or.inl ⟨by rfl, ?_⟩) (by assumption) ?_
        · intro w' hSw'
          obtain ⟨y0, y1, y2, y3⟩ := CZ.out w' hSw'
          go_simp
        simp only [Act.put, List.setIfInBounds_toArray, List.set_cons_zero, List.set_cons_succ]
        refine takeH (i := 9) 56 (v := .slice (some ⟨b, off, none⟩) k c) rfl rfl (by kernel_rfl) (by kernel_rfl) (by kernel_rfl) (fun _ _ _ h => h) (Or.inl ⟨by rfl, ?_⟩) (by assumption) ?_
        · intro w' hSw'
          go_simp
        simp only [Act.put, List.setIfInBounds_toArray, List.set_cons_zero, List.set_cons_succ]
        refine takeH (i := 10) 57 (v := .int .i64 (k : Int)) rfl rfl (by kernel_rfl) (by kernel_rfl) (by kernel_rfl) (fun _ _ _ h => h) (Or.inl ⟨by rfl, ?_⟩) (by assumption) ?_
        · intro w' hSw'
          go_simp
        simp only [Act.put, List.setIfInBounds_toArray, List.set_cons_zero, List.set_cons_succ]
        refine takeH (i := 11) 58 (v := .slice (some ⟨b, off + k * 4, none⟩) 0 (c - k)) rfl rfl (by kernel_rfl) (by kernel_rfl) (by kernel_rfl) (fun _ _ _ h => h) (Or.inl ⟨by rfl, ?_⟩) (by assumption) ?_
        · intro w' hSw'
          go_simp
        simp only [Act.put, List.setIfInBounds_toArray, List.set_cons_zero, List.set_cons_succ]
        refine wpAnyH_ready (rs := [0]) (by kernel_rfl) (by simp) ?_
        refine AllReadyH.cons rfl (fun K hK => ?_) AllReadyH.nil
        go_simp
        refine hK.out _ _ bD.out (fun hA1 => ?_)
        clear hK K
        refine wpAnyH_ready (rs := [4]) (by kernel_rfl) (by simp) ?_
        refine AllReadyH.cons rfl (fun K hK => ?_) AllReadyH.nil
        refine step_append_rows rfl _ _ 24 rfl wz.heap.size 36 i0 _ 4 64 Try.underlying24 hi0 hz0 hz1 hz2 rfl (by decide) (.slice (some ⟨wz.heap.size, 0, none⟩) 0 0) (0) ([]) rfl OD.out (some ⟨b, off, none⟩) (k) (c) (rv entKind (ys.take k)) rfl (H1.out.nil) (by rw [rv_length entKind_ok, H1.out.len]; rfl) ((H1.out.below entKind_ok bD.out).cells) (rv_one entKind_ok _) (by unfold maxLen; omega) (by omega) bD.out.size ?_
        intro a1 c1 x1 ho1 hg1
        simp only [Nat.zero_add, List.nil_append] at ho1 ⊢
        have O1 := keep ho1
        have b1 := keep (bD.out.grown hg1 bD.out.size (fun j hj => by cases hj; exact Nat.le_refl _))
        clear ho1 hg1
        refine hK.out _ _ b1.out (fun hA2 => ?_)
        clear hK K
        refine wpAnyH_ready (rs := [6]) (by kernel_rfl) (by simp) ?_
        refine AllReadyH.cons rfl (fun K hK => ?_) AllReadyH.nil
        go_simp
        refine (CP.out x1 b1.out).mono ?_
        rintro e x2 ⟨v, rfl, hve, hvo, hb2⟩
        have HVE := keep hve
        have b2 := keep (b1.out.trans (hb2.mono b1.out.size))
        have O2 := keep (own_block O1.out (fun g hg => hb2.block g (own_size O1.out hg)))
        have VH := keep hvo.held
        have VO2 := keep (hvo.base b1.out.size)
        obtain ⟨x3, hx3⟩ : ∃ x3, x2.alloc (.cells (entKind.vals v).toArray 36) = x3 := ⟨_, rfl⟩
        have d3 : Hid (Below x2.heap.size x2 x3) := by rw [← hx3]; exact (Below.refl _ _).alloc (Nat.le_refl _) _
        have b3 := keep (b2.out.trans (d3.out.mono b2.out.size))
        have O3 := keep (own_block O2.out (fun g hg => d3.out.block g (own_size O2.out hg)))
        have V3 := keep (VO2.out.block d3.out)
        have RC3 : Hid (RSrc entKind x3 (some ⟨x2.heap.size, 0, none⟩) 1 1 [v]) := by rw [← hx3]; exact RSrc.built1 VH.out
        obtain ⟨vkp, vkc, vvp, vvc, ⟨vkey, vseq, vgone, vval⟩⟩ := v
        simp only [entKind] at hx3
        simp only
        clear hve hvo hb2
        go_wp2_with fail
        refine hK.out _ _ b2.out (fun hA3 => ?_)
        clear hK K
        refine wpAnyH_ready (rs := [7]) (by kernel_rfl) (by simp) ?_
        refine AllReadyH.cons rfl (fun K hK => ?_) AllReadyH.nil
        go_simp
        refine hK.out _ _ b3.out (fun hA4 => ?_)
        clear hK K
        refine wpAnyH_ready (rs := [8]) (by kernel_rfl) (by simp) ?_
        refine AllReadyH.cons rfl (fun K hK => ?_) AllReadyH.nil
        refine step_append_rows rfl _ _ 24 rfl wz.heap.size 36 i0 _ 4 64 Try.underlying24 hi0 hz0 hz1 hz2 rfl (by decide) (.slice a1 k c1) (k) (rv entKind (ys.take k)) rfl O3.out (some ⟨x2.heap.size, 0, none⟩) (1) (1) (rv entKind [⟨vkp, vkc, vvp, vvc, ⟨vkey, vseq, vgone, vval⟩⟩]) rfl (fun h => by cases h) (rfl) (RC3.out.cells) (rv_one entKind_ok _) (by unfold maxLen; omega) (by omega) b3.out.size ?_
        intro a4 c4 x4 ho4 hg4
        have O4 := keep ho4
        have b4 := keep (b3.out.grown hg4 b3.out.size (fun j hj => (O3.out.lt j hj).1))
        have V4 := keep (V3.out.grown O3.out hg4)
        clear ho4 hg4
        refine hK.out _ _ b4.out (fun hA5 => ?_)
        clear hK K
        refine wpAnyH_ready (rs := [12]) (by kernel_rfl) (by simp) ?_
        refine AllReadyH.cons rfl (fun K hK => ?_) AllReadyH.nil
        refine step_append_rows rfl _ _ 24 rfl wz.heap.size 36 i0 _ 4 64 Try.underlying24 hi0 hz0 hz1 hz2 rfl (by decide) (.slice a4 (k + 1) c4) (k + 1) (rv entKind (ys.take k) ++ rv entKind [⟨vkp, vkc, vvp, vvc, ⟨vkey, vseq, vgone, vval⟩⟩]) rfl O4.out (some ⟨b, off + k * 4, none⟩) (0) (c - k) (rv entKind (ys.drop k)) rfl (H2.out.nil) (by rw [rv_length entKind_ok, H2.out.len]; rfl) ((H2.out.below entKind_ok b4.out).cells) (rv_one entKind_ok _) (by unfold maxLen; omega) (by omega) b4.out.size ?_
        intro a5 c5 x5 ho5 hg5
        have O5 := keep ho5
        have b5 := keep (b4.out.grown hg5 b4.out.size (fun j hj => (O4.out.lt j hj).1))
        have V5 := keep (V4.out.grown O4.out hg5)
        clear ho5 hg5
        refine hK.out _ _ b5.out (fun hA6 => ?_)
        clear hK K
        refine takeH (i := 13) 4 (v := .slice a5 (k + 1 + 0) c5) rfl rfl (by kernel_rfl) (by kernel_rfl) (by kernel_rfl) (fun _ _ _ h => h) (Or.inl ⟨by rfl, ?_⟩) (by assumption) ?_
        · intro w' hSw'
          go_simp
        simp only [Act.put, List.setIfInBounds_toArray]
        refine wpAnyH_done (by kernel_rfl) ?_ _
        rw [← rv_append, ← rv_append] at O5
        have BZ := keep (BW.out.trans (b5.out.mono BW.out.size))
        go_wp2
        go_ret
        rename_i d0 hd0
        have hd1 : (some 59 : Option Tmp) = some d0 := hd0
        cases hd1
        obtain ⟨ra, rc, er, hr, hrc⟩ := RSrc.own entKind_ok O5.out (fun x hx => by
          rcases List.mem_append.1 hx with hx | hx
          · rcases List.mem_append.1 hx with hx | hx
            · exact HH.out x (List.mem_of_mem_take hx) x5 BZ.out
            · rw [List.mem_singleton.1 hx]; exact V5.out.held
          · exact HH.out x (List.mem_of_mem_drop hx) x5 BZ.out)
        cases er
        refine ⟨_, _, _, by first | rfl | simp | go_simp, _, hr, by omega, hrc, .inr ⟨k, ⟨vkp, vkc, vvp, vvc, ⟨vkey, vseq, vgone, vval⟩⟩, by simp, by omega, HVE.out, HA.out, HN.out⟩, ?_⟩
        first | exact BZ.out | (rw [← hE0]; exact BZ.out)
      · obtain rfl : k = c := by omega
        obtain ⟨wz, hwz⟩ : ∃ wz, wz = w4.drew := ⟨_, rfl⟩
        rw [← hwz]
        have BW : Hid (Below w.heap.size w wz) := by rw [hwz]; exact BWV.out.drew
        have gZ : Hid (wz.heap[E0]? = some (.cells #[.slice ykp ykey.length ykc, .int .i64 yseq, .bool ygone, .slice yvp yval.length yvc] 36)) := by rw [hwz]; exact gV.out
        have CZ : Hid (∀ w', Below wz.heap.size wz w' → w'.cell? ⟨E0, 0, none⟩ = some (.slice ykp ykey.length ykc) ∧ w'.cell? ⟨E0, 1, none⟩ = some (.int .i64 yseq) ∧ w'.cell? ⟨E0, 2, none⟩ = some (.bool ygone) ∧ w'.cell? ⟨E0, 3, none⟩ = some (.slice yvp yval.length yvc)) := fun w' hb => by
          have h := (hb.block E0 (Array.getElem?_eq_some_iff.1 gZ.out).1).trans gZ.out
          exact ⟨cell_of_row _ _ _ _ _ _ h, cell_of_row _ _ _ _ _ _ h, cell_of_row _ _ _ _ _ _ h, cell_of_row _ _ _ _ _ _ h⟩
        have SZ := keep (HS.out.below entKind_ok BW.out)
        have bD : Hid (Below wz.heap.size wz (wz.drew.alloc (.cells #[] 36))) := (Below.refl _ _).drew.alloc (Nat.le_refl _) _
        have OD : Hid ((wz.drew.alloc (.cells #[] 36)).ownsRow wz.heap.size 36 4 (.slice (some ⟨wz.heap.size, 0, none⟩) 0 0) 0 []) := own_emptyS (w := wz.drew) (Nat.le_refl _)
        have H1 := keep (SZ.out.head entKind_ok k hk)
        have H2 : Hid (RSrc entKind wz ao 0 0 (ys.drop k)) := by rw [List.drop_of_length_le (by rw [HLEN.out]; exact Nat.le_refl _)]; exact RSrc.empty (fun _ => rfl)
        have YZ : Hid (entKind.held wz ⟨ykp, ykc, yvp, yvc, ⟨ykey, yseq, ygone, yval⟩⟩) := by rw [hwz]; exact entKind_ok.below YV.out (Below.refl _ _).drew
        have CP : Hid (∀ w', Below wz.heap.size wz w' → _) := fun w' hb => rcopy_any ⟨ykp, ykc, yvp, yvc, ⟨ykey, yseq, ygone, yval⟩⟩ w' YM.out.1 YM.out.2 (entKind_ok.below YZ.out hb)
        unfold ev at CP
        simp only at CP
        have m0 : (0 : Int) ≤ (k : Int) := by omega
        have mc : (k : Int) ≤ (k : Int) := by omega
        have mn : (k : Int) ≤ (k : Int) := by omega
        have nc : (k : Int) ≤ (k : Int) := by omega
        clear hwz
        go_wp2_with fail
        refine wp_region_held_drew (S := fun w' => Below wz.heap.size wz w') (by kernel_rfl) ((Below.refl _ _).drew) (fun hHeld => ?_)
        refine takeH (i := 1) 48 (v := .slice ao k k) rfl rfl (by kernel_rfl) (by kernel_rfl) (by kernel_rfl) (fun _ _ _ h => h) (Or.inl ⟨by rfl, ?_⟩) (by assumption) ?_
        · intro w' hSw'
          go_simp
        simp only [Act.put, List.setIfInBounds_toArray, List.set_cons_zero, List.set_cons_succ]
        refine takeH (i := 2) 49 (v := .int .i64 (k : Int)) rfl rfl (by kernel_rfl) (by kernel_rfl) (by kernel_rfl) (fun _ _ _ h => h) (Or.inl ⟨by rfl, ?_⟩) (by assumption) ?_
        · intro w' hSw'
          go_simp
        simp only [Act.put, List.setIfInBounds_toArray, List.set_cons_zero, List.set_cons_succ]
        refine takeH (i := 3) 50 (v := .slice (ao) k k) rfl rfl (by kernel_rfl) (by kernel_rfl) (by kernel_rfl) (fun _ _ _ h => h) (Or.inl ⟨by rfl, ?_⟩) (by assumption) ?_
        · intro w' hSw'
          go_simp
        simp only [Act.put, List.setIfInBounds_toArray, List.set_cons_zero, List.set_cons_succ]
        refine takeH (i := 5) 52 (v := .agg #[.slice ykp ykey.length ykc, .int .i64 yseq, .bool ygone, .slice yvp yval.length yvc]) rfl rfl (by kernel_rfl) (by kernel_rfl) (by kernel_rfl) (fun _ _ _ h => h) (Or.inl ⟨by rfl, ?_⟩) (by assumption) ?_
        · intro w' hSw'
          obtain ⟨y0, y1, y2, y3⟩ := CZ.out w' hSw'
          go_simp
        simp only [Act.put, List.setIfInBounds_toArray, List.set_cons_zero, List.set_cons_succ]
        refine takeH (i := 9) 56 (v := .slice ao k k) rfl rfl (by kernel_rfl) (by kernel_rfl) (by kernel_rfl) (fun _ _ _ h => h) (Or.inl ⟨by rfl, ?_⟩) (by assumption) ?_
        · intro w' hSw'
          go_simp
        simp only [Act.put, List.setIfInBounds_toArray, List.set_cons_zero, List.set_cons_succ]
        refine takeH (i := 10) 57 (v := .int .i64 (k : Int)) rfl rfl (by kernel_rfl) (by kernel_rfl) (by kernel_rfl) (fun _ _ _ h => h) (Or.inl ⟨by rfl, ?_⟩) (by assumption) ?_
        · intro w' hSw'
          go_simp
        simp only [Act.put, List.setIfInBounds_toArray, List.set_cons_zero, List.set_cons_succ]
        refine takeH (i := 11) 58 (v := .slice ao 0 0) rfl rfl (by kernel_rfl) (by kernel_rfl) (by kernel_rfl) (fun _ _ _ h => h) (Or.inl ⟨by rfl, ?_⟩) (by assumption) ?_
        · intro w' hSw'
          go_simp
        simp only [Act.put, List.setIfInBounds_toArray, List.set_cons_zero, List.set_cons_succ]
        refine wpAnyH_ready (rs := [0]) (by kernel_rfl) (by simp) ?_
        refine AllReadyH.cons rfl (fun K hK => ?_) AllReadyH.nil
        go_simp
        refine hK.out _ _ bD.out (fun hA1 => ?_)
        clear hK K
        refine wpAnyH_ready (rs := [4]) (by kernel_rfl) (by simp) ?_
        refine AllReadyH.cons rfl (fun K hK => ?_) AllReadyH.nil
        refine step_append_rows rfl _ _ 24 rfl wz.heap.size 36 i0 _ 4 64 Try.underlying24 hi0 hz0 hz1 hz2 rfl (by decide) (.slice (some ⟨wz.heap.size, 0, none⟩) 0 0) (0) ([]) rfl OD.out (ao) (k) (k) (rv entKind (ys.take k)) rfl (H1.out.nil) (by rw [rv_length entKind_ok, H1.out.len]; rfl) ((H1.out.below entKind_ok bD.out).cells) (rv_one entKind_ok _) (by unfold maxLen; omega) (by omega) bD.out.size ?_
        intro a1 c1 x1 ho1 hg1
        simp only [Nat.zero_add, List.nil_append] at ho1 ⊢
        have O1 := keep ho1
        have b1 := keep (bD.out.grown hg1 bD.out.size (fun j hj => by cases hj; exact Nat.le_refl _))
        clear ho1 hg1
        refine hK.out _ _ b1.out (fun hA2 => ?_)
        clear hK K
        refine wpAnyH_ready (rs := [6]) (by kernel_rfl) (by simp) ?_
        refine AllReadyH.cons rfl (fun K hK => ?_) AllReadyH.nil
        go_simp
        refine (CP.out x1 b1.out).mono ?_
        rintro e x2 ⟨v, rfl, hve, hvo, hb2⟩
        have HVE := keep hve
        have b2 := keep (b1.out.trans (hb2.mono b1.out.size))
        have O2 := keep (own_block O1.out (fun g hg => hb2.block g (own_size O1.out hg)))
        have VH := keep hvo.held
        have VO2 := keep (hvo.base b1.out.size)
        obtain ⟨x3, hx3⟩ : ∃ x3, x2.alloc (.cells (entKind.vals v).toArray 36) = x3 := ⟨_, rfl⟩
        have d3 : Hid (Below x2.heap.size x2 x3) := by rw [← hx3]; exact (Below.refl _ _).alloc (Nat.le_refl _) _
        have b3 := keep (b2.out.trans (d3.out.mono b2.out.size))
        have O3 := keep (own_block O2.out (fun g hg => d3.out.block g (own_size O2.out hg)))
        have V3 := keep (VO2.out.block d3.out)
        have RC3 : Hid (RSrc entKind x3 (some ⟨x2.heap.size, 0, none⟩) 1 1 [v]) := by rw [← hx3]; exact RSrc.built1 VH.out
        obtain ⟨vkp, vkc, vvp, vvc, ⟨vkey, vseq, vgone, vval⟩⟩ := v
        simp only [entKind] at hx3
        simp only
        clear hve hvo hb2
        go_wp2_with fail
        refine hK.out _ _ b2.out (fun hA3 => ?_)
        clear hK K
        refine wpAnyH_ready (rs := [7]) (by kernel_rfl) (by simp) ?_
        refine AllReadyH.cons rfl (fun K hK => ?_) AllReadyH.nil
        go_simp
        refine hK.out _ _ b3.out (fun hA4 => ?_)
        clear hK K
        refine wpAnyH_ready (rs := [8]) (by kernel_rfl) (by simp) ?_
        refine AllReadyH.cons rfl (fun K hK => ?_) AllReadyH.nil
        refine step_append_rows rfl _ _ 24 rfl wz.heap.size 36 i0 _ 4 64 Try.underlying24 hi0 hz0 hz1 hz2 rfl (by decide) (.slice a1 k c1) (k) (rv entKind (ys.take k)) rfl O3.out (some ⟨x2.heap.size, 0, none⟩) (1) (1) (rv entKind [⟨vkp, vkc, vvp, vvc, ⟨vkey, vseq, vgone, vval⟩⟩]) rfl (fun h => by cases h) (rfl) (RC3.out.cells) (rv_one entKind_ok _) (by unfold maxLen; omega) (by omega) b3.out.size ?_
        intro a4 c4 x4 ho4 hg4
        have O4 := keep ho4
        have b4 := keep (b3.out.grown hg4 b3.out.size (fun j hj => (O3.out.lt j hj).1))
        have V4 := keep (V3.out.grown O3.out hg4)
        clear ho4 hg4
        refine hK.out _ _ b4.out (fun hA5 => ?_)
        clear hK K
        refine wpAnyH_ready (rs := [12]) (by kernel_rfl) (by simp) ?_
        refine AllReadyH.cons rfl (fun K hK => ?_) AllReadyH.nil
        refine step_append_rows rfl _ _ 24 rfl wz.heap.size 36 i0 _ 4 64 Try.underlying24 hi0 hz0 hz1 hz2 rfl (by decide) (.slice a4 (k + 1) c4) (k + 1) (rv entKind (ys.take k) ++ rv entKind [⟨vkp, vkc, vvp, vvc, ⟨vkey, vseq, vgone, vval⟩⟩]) rfl O4.out (ao) (0) (0) (rv entKind (ys.drop k)) rfl (H2.out.nil) (by rw [rv_length entKind_ok, H2.out.len]; rfl) ((H2.out.below entKind_ok b4.out).cells) (rv_one entKind_ok _) (by unfold maxLen; omega) (by omega) b4.out.size ?_
        intro a5 c5 x5 ho5 hg5
        have O5 := keep ho5
        have b5 := keep (b4.out.grown hg5 b4.out.size (fun j hj => (O4.out.lt j hj).1))
        have V5 := keep (V4.out.grown O4.out hg5)
        clear ho5 hg5
        refine hK.out _ _ b5.out (fun hA6 => ?_)
        clear hK K
        refine takeH (i := 13) 4 (v := .slice a5 (k + 1 + 0) c5) rfl rfl (by kernel_rfl) (by kernel_rfl) (by kernel_rfl) (fun _ _ _ h => h) (Or.inl ⟨by rfl, ?_⟩) (by assumption) ?_
        · intro w' hSw'
          go_simp
        simp only [Act.put, List.setIfInBounds_toArray]
        refine wpAnyH_done (by kernel_rfl) ?_ _
        rw [← rv_append, ← rv_append] at O5
        have BZ := keep (BW.out.trans (b5.out.mono BW.out.size))
        go_wp2
        go_ret
        rename_i d0 hd0
        have hd1 : (some 59 : Option Tmp) = some d0 := hd0
        cases hd1
        obtain ⟨ra, rc, er, hr, hrc⟩ := RSrc.own entKind_ok O5.out (fun x hx => by
          rcases List.mem_append.1 hx with hx | hx
          · rcases List.mem_append.1 hx with hx | hx
            · exact HH.out x (List.mem_of_mem_take hx) x5 BZ.out
            · rw [List.mem_singleton.1 hx]; exact V5.out.held
          · exact HH.out x (List.mem_of_mem_drop hx) x5 BZ.out)
        cases er
        refine ⟨_, _, _, by first | rfl | simp | go_simp, _, hr, by omega, hrc, .inr ⟨k, ⟨vkp, vkc, vvp, vvc, ⟨vkey, vseq, vgone, vval⟩⟩, by simp, by omega, HVE.out, HA.out, HN.out⟩, ?_⟩
        first | exact BZ.out | (rw [← hE0]; exact BZ.out)
end Go.Proofs.Ytgdggeacjfhkkaa
