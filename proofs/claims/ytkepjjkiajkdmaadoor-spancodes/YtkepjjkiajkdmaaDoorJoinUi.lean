/- The walk of the document's Encode. -/
/- The walk of the document's Decode. -/
import Derived.Test.YtkepjjkiajkdmaaDoorJoinDp
import Derived.Test.YtkepjjkiajkdmaaDoorUb
import Derived.Test.YtkepjjkiajkdmaaDoorVc
namespace Go.Proofs.YtkepjjkiajkdmaaDoor
open Go.RowKit

set_option maxHeartbeats 4000000 in
set_option maxRecDepth 100000 in
theorem rencode16_any (n : Int) (pp : Option Addr) (pm pc : Nat) (ps : List (List UInt8)) (w : World) (hs : RSrc strKind w pp pm pc ps) (hm : pm ≤ 4611686018427387904) :
    Calls Tryd.prog 19 #[.agg #[.int .i64 n, .slice pp pm pc]] w (EnA w (enL n ps) (ckN n ps)) := by
  obtain ⟨i0, hi, hz0, hz1, hz2⟩ := info_parts info5
  obtain ⟨W1, hW1⟩ : ∃ Wn, w.alloc (.cells #[.int .i64 n, .slice pp pm pc] 24) = Wn := ⟨_, rfl⟩
  have b1 : Hid (Below w.heap.size w W1) := by rw [← hW1]; exact (Below.refl _ _).alloc (Nat.le_refl _) _
  have c0 : W1.cell? ⟨w.heap.size, 0, none⟩ = some (.int .i64 n) := by rw [← hW1]; exact cell_of_row _ _ _ _ _ _ (heap_alloc_new w _)
  have c1 : W1.cell? ⟨w.heap.size, 1, none⟩ = some (.slice pp pm pc) := by rw [← hW1]; exact cell_of_row _ _ _ _ _ _ (heap_alloc_new w _)
  have CK := keep (rcheck16_any n pp pm pc ps W1 (hs.below strKind_ok b1.out) hm)
  have HS := keep hs
  have HSL := keep hs.len
  clear hs
  cases hc : ckS n ps with
  | false =>
    have h1 : ckN n ps = 1 := by unfold ckN; rw [hc]; rfl
    have h2 : enL n ps = [] := by unfold enL; rw [hc]; rfl
    rw [h1] at CK
    rw [h1, h2]
    clear hc h1 h2 hi hz0 hz1 hz2
    go_enter Tryd.func19, Tryd.ntmps19
    go_wp2_with fail
    refine CK.out.mono ?_
    rintro e w2 ⟨rfl, hb2⟩
    have B2 := keep (b1.out.trans (hb2.mono b1.out.size))
    clear hb2 CK hW1 c0 c1
    go_wp2
    go_ret2
    exact EnA.none B2.out
  | true =>
    have h1 : ckN n ps = 0 := by unfold ckN; rw [hc]; rfl
    have h2 : enL n ps = num (cl n) ++ ps.flatten := by unfold enL; rw [hc]; rfl
    obtain ⟨g1, g2, g3, g4⟩ := ckS_parts hc
    have hpm : pm ≤ 1099511627776 := by
      have h := ones_le n.toNat
      rw [← g3, HSL.out] at h
      omega
    have G4 := keep (wholeL_mem g4)
    have h9 := num9 n
    rw [h1] at CK
    rw [h1, h2]
    clear hc h1 h2 g1 g2 g3 g4 hm
    go_enter Tryd.func19, Tryd.ntmps19
    go_wp2_with fail
    refine CK.out.mono ?_
    rintro e w2 ⟨rfl, hb2⟩
    have B2 := keep (b1.out.trans (hb2.mono b1.out.size))
    have d0 := below_cell hb2 c0
    have d1 := below_cell hb2 c1
    have PN := keep (rputNum_nil n w2)
    obtain ⟨A, hA⟩ : ∃ A, num (cl n) = A := ⟨_, rfl⟩
    have HA := keep hA
    rw [hA] at PN h9
    clear hb2 CK hW1 c0 c1 hA
    go_wp2_with fail
    refine PN.out.mono ?_
    rintro e w3 ⟨a3, c3, rfl, hn3⟩
    have b3 := keep hn3.2
    have O3 := keep hn3.1
    have D1 := keep d1
    have f1 := below_cell b3.out d1
    clear hn3 PN d0 d1
    go_wp2
    clear f1
    go_loopw [4, 5] (fun v i wr => ∃ k L : Nat, ∃ vp vc, k ≤ pm ∧ v = .slice vp L vc ∧ i = .int .i64 (k : Int) ∧ Hid (L = (A ++ (ps.take k).flatten).length ∧ wr.ownsRow w2.heap.size 5 1 (.slice vp L vc) L (bv (A ++ (ps.take k).flatten)) ∧ Below w2.heap.size w2 wr)) (fun _ i _ => pm - (intOf i).toNat)
    case atStart => exact ⟨0, A.length, a3, c3, Nat.zero_le _, rfl, rfl, by simp, by simpa using O3.out, b3.out⟩
    case round =>
      clear O3 b3
      obtain ⟨k, L, vp, vc, hk, rfl, rfl, hI⟩ := hrel
      have hL := hI.out.1
      have O1 := keep hI.out.2.1
      have B1 := keep hI.out.2.2
      have BB := keep (B2.out.trans (B1.out.mono B2.out.size))
      have f1 := below_cell B1.out D1.out
      clear hI
      have hfl := flat_len G4.out k
      have hLb : L ≤ 9 + 32 * k := by rw [hL, List.length_append]; omega
      have HL := keep hL
      clear hL hfl
      by_cases hkn : k < pm
      · obtain ⟨b, off, rfl, _, hcell⟩ := strs_at HS.out (by omega)
        obtain ⟨s, hsk⟩ : ∃ s, ps[k]? = some s := ⟨ps[k]'(by rw [HSL.out]; exact hkn), List.getElem?_eq_getElem _⟩
        have ck := below_cell BB.out (hcell k s hsk)
        have k0 : (0 : Int) ≤ (k : Int) := by omega
        have k1 : (k : Int) < (pm : Int) := by omega
        have s32 := G4.out s (List.mem_of_getElem? hsk)
        have FS : Hid (A ++ (ps.take (k + 1)).flatten = A ++ (ps.take k).flatten ++ s) := by show _ = _; rw [flat_snoc hsk, List.append_assoc]
        obtain ⟨Cc, hCc⟩ : ∃ C, A ++ (ps.take k).flatten = C := ⟨_, rfl⟩
        rw [hCc] at O1 HL FS
        have S32 := keep s32
        clear hcell hsk hCc
        go_wp2_with (at_builtin; refine wpList_append_own_string_if (by rfl) _ _ 41 9 rfl w2.heap.size i0 Tryd.underlying41 Tryd.underlying9 hi hz0 hz1 hz2 _ L Cc s 32 rfl O1.out rfl S32.out (by omega) B1.out.size ?_; intro v7 w7 ho7 hg7; have b7 := keep (B1.out.grown hg7 B1.out.size (fun j hj => (O1.out.lt j hj).1)); obtain ⟨a7, c7, rfl, _, _⟩ := Src.of_own ho7; have O7 := keep ho7; clear ho7 hg7)
        go_roundw
        case rel => exact ⟨k + 1, L + 32, a7, c7, by omega, rfl, by go_num, by rw [FS.out, List.length_append, S32.out, ← HL.out], by rw [FS.out]; exact O7.out, b7.out⟩
        case measure => simp [intOf]; omega
      · obtain rfl : k = pm := by omega
        have k1 : ¬ (k : Int) < (k : Int) := by omega
        have HT : Hid (ps.take k = ps) := List.take_of_length_le (by rw [HSL.out]; omega)
        rw [HT.out] at O1 HL
        go_wp2
        go_ret2
        exact ⟨_, rfl, by rw [HA.out, ← HL.out]; exact own_low O1.out B2.out.size, BB.out⟩
end Go.Proofs.YtkepjjkiajkdmaaDoor
namespace Go.Proofs.YtkepjjkiajkdmaaDoor
open Go.RowKit

theorem rfrozen {w : World} {R : Nat} {cs : Array Value} {t : TypeId} (h : w.heap[R]? = some (.cells cs t)) (i : Nat) : w.frozen? ⟨R, i, none⟩ = false := by simp [World.frozen?, h]
theorem row_far {w w' : World} {R n : Nat} {v : Value} {xs : List Value} {o : Obj} (hx : w.heap[R]? = some o) (ho : w.ownsRow (R + 1) 9 1 v n xs) (hg : w.grownBy w' v.ownBlock) : w'.heap[R]? = some o :=
  (hg.block R (Array.getElem?_eq_some_iff.1 hx).1 (fun e => by have := (ho.lt _ e.symm).1; omega)).trans hx
/-- What stands at each round. -/
def RdI (w2 wr : World) (N k : Nat) (r : List UInt8) (v : Value) : Prop :=
  wr.heap[w2.heap.size]? = some (.cells #[.int .i64 (N : Int), v] 24) ∧ wr.ownsRow (w2.heap.size + 1) 9 1 v k (rv strKind ((List.range k).map (chk r))) ∧ Below w2.heap.size w2 wr ∧ w2.heap.size + 1 ≤ wr.heap.size
set_option maxHeartbeats 4000000 in
set_option maxRecDepth 100000 in
theorem rdecode16_any (ao : Option Addr) (m c : Nat) (l : List UInt8) (w : World) (hm : m ≤ 140737488355328) (hs : Src w ao m c l) :
    Calls Tryd.prog 21 #[.slice ao m c] w (SpA w (deN l) (deP l) (deE l)) := by
  obtain ⟨i0, hi, hz0, hz1, hz2⟩ := info_partsS infoS
  obtain ⟨W1, hW1⟩ : ∃ Wn, w.alloc (.cells #[.int .i64 0, .slice none 0 0] 24) = Wn := ⟨_, rfl⟩
  have b1 : Hid (Below w.heap.size w W1) := by rw [← hW1]; exact (Below.refl _ _).alloc (Nat.le_refl _) _
  have s1 : Hid (W1.heap.size = w.heap.size + 1) := by show _ = _; rw [← hW1, alloc_size]
  have g1 : Hid (W1.heap[w.heap.size]? = some (.cells #[.int .i64 0, .slice none 0 0] 24)) := by rw [← hW1]; exact heap_alloc_new w _
  have TN := keep (rtakeNum_any ao m c l W1 hm (hs.below b1.out))
  have HLM := hs.len
  clear hs
  cases htk : takeNum l with
  | none =>
    obtain ⟨q1, q2, q3⟩ := de_none (deS_no htk)
    rw [q1, q2, q3]
    have HTK := keep htk
    clear q1 q2 q3 htk hi hz0 hz1 hz2
    go_enter Tryd.func21, Tryd.ntmps21
    go_wp2_with fail
    refine TN.out.mono ?_
    rintro e w2 (⟨n', r', v', hx, _, _⟩ | ⟨_, rfl, hb2⟩)
    · rw [HTK.out] at hx; cases hx
    have G2 : Hid (w2.heap[w.heap.size]? = some (.cells #[.int .i64 0, .slice none 0 0] 24)) := (hb2.block _ (by rw [s1.out]; omega)).trans g1.out
    have B2 := keep (b1.out.trans (hb2.mono b1.out.size))
    clear hb2 TN hW1
    have z0 : w2.cell? ⟨w.heap.size, 0, none⟩ = some (.int .i64 0) := cell_of_row _ _ _ _ _ _ G2.out
    have z1 : w2.cell? ⟨w.heap.size, 1, none⟩ = some (.slice none 0 0) := cell_of_row _ _ _ _ _ _ G2.out
    have f0 := rfrozen G2.out 0
    have f1 := rfrozen G2.out 1
    go_wp2
    have R6 := keep (set2 G2.out (.int .i64 0) (.slice none 0 0))
    refine ⟨rfl, .tuple #[.agg #[.int .i64 0, .slice none 0 0], .int .i64 2], ?_, SpA.none ((B2.out.setCell (p := ⟨w.heap.size, 0, none⟩) (Nat.le_refl _) _).setCell (p := ⟨w.heap.size, 1, none⟩) (Nat.le_refl _) _)⟩
    have r0 : ((w2.setCell ⟨w.heap.size, 0, none⟩ (.int .i64 0)).setCell ⟨w.heap.size, 1, none⟩ (.slice none 0 0)).cell? ⟨w.heap.size, 0, none⟩ = some (.int .i64 0) := cell_of_row _ _ _ _ _ _ R6.out
    have r1 : ((w2.setCell ⟨w.heap.size, 0, none⟩ (.int .i64 0)).setCell ⟨w.heap.size, 1, none⟩ (.slice none 0 0)).cell? ⟨w.heap.size, 1, none⟩ = some (.slice none 0 0) := cell_of_row _ _ _ _ _ _ R6.out
    simp [results, Tryd.f21, go_sem, loadCells, loadCellsFrom, r0, r1]
  | some x =>
    obtain ⟨N, r⟩ := x
    have hDS := deS_of htk
    have htm := takeNum_some htk
    have hrl : r.length ≤ m := by rw [← HLM, htm.2, List.length_append]; omega
    have HTK := keep htk
    have HDS := keep hDS
    obtain ⟨M, hM⟩ : ∃ M, r.length = M := ⟨_, rfl⟩
    have HM := keep hM
    have TK : Hid (∀ (e : Ending) (w2 : World), ((∃ n r v, takeNum l = some (n, r) ∧ e = .returned (.tuple #[.int .i64 (n : Int), v, .int .i64 0]) ∧ New W1 w2 v r.length r) ∨ (takeNum l = none ∧ e = .returned (.tuple #[.int .i64 0, .slice none 0 0, .int .i64 2]) ∧ Below W1.heap.size W1 w2)) → ∃ a2 c2, e = .returned (.tuple #[.int .i64 (N : Int), .slice a2 M c2, .int .i64 0]) ∧ Src w2 a2 M c2 r ∧ Below W1.heap.size W1 w2) := fun e w2 hT => by
      rcases hT with ⟨n', r', v', hx, he, hn⟩ | ⟨hx, _⟩
      · rw [HTK.out] at hx
        cases hx
        obtain ⟨a2, c2, rfl, hs2, _⟩ := hn.src
        rw [hM] at hs2 he
        exact ⟨a2, c2, he, hs2, hn.2⟩
      · rw [HTK.out] at hx; cases hx
    rw [hM] at hrl
    clear htk htm hDS HLM hM
    by_cases hmod : M % 32 = 0
    · have m1 : Int.tmod (M : Int) 32 = 0 := by rw [show Int.tmod (M : Int) 32 = ((M % 32 : Nat) : Int) from (Int.ofNat_tmod M 32).symm, hmod]; rfl
      by_cases hgt : 2048 < M
      · have g2 : (2048 : Int) < (M : Int) := by omega
        have HD : Hid (deS l = none) := by
          show _ = _
          rw [HDS.out, if_neg]
          intro hh
          have := (ck_rest hh).2
          rw [HM.out] at this
          omega
        obtain ⟨q1, q2, q3⟩ := de_none HD.out
        rw [q1, q2, q3]
        clear q1 q2 q3 hi hz0 hz1 hz2
        go_enter Tryd.func21, Tryd.ntmps21
        go_wp2_with fail
        refine TN.out.mono ?_
        intro e w2 hT
        obtain ⟨a2, c2, rfl, _, hb2⟩ := TK.out e w2 hT
        have G2 : Hid (w2.heap[w.heap.size]? = some (.cells #[.int .i64 0, .slice none 0 0] 24)) := (hb2.block _ (by rw [s1.out]; omega)).trans g1.out
        have B2 := keep (b1.out.trans (hb2.mono b1.out.size))
        clear hT hb2 TN hW1 TK
        have z0 : w2.cell? ⟨w.heap.size, 0, none⟩ = some (.int .i64 0) := cell_of_row _ _ _ _ _ _ G2.out
        have z1 : w2.cell? ⟨w.heap.size, 1, none⟩ = some (.slice none 0 0) := cell_of_row _ _ _ _ _ _ G2.out
        have f0 := rfrozen G2.out 0
        have f1 := rfrozen G2.out 1
        go_wp2
        have R6 := keep (set2 G2.out (.int .i64 0) (.slice none 0 0))
        refine ⟨rfl, .tuple #[.agg #[.int .i64 0, .slice none 0 0], .int .i64 2], ?_, SpA.none ((B2.out.setCell (p := ⟨w.heap.size, 0, none⟩) (Nat.le_refl _) _).setCell (p := ⟨w.heap.size, 1, none⟩) (Nat.le_refl _) _)⟩
        have r0 : ((w2.setCell ⟨w.heap.size, 0, none⟩ (.int .i64 0)).setCell ⟨w.heap.size, 1, none⟩ (.slice none 0 0)).cell? ⟨w.heap.size, 0, none⟩ = some (.int .i64 0) := cell_of_row _ _ _ _ _ _ R6.out
        have r1 : ((w2.setCell ⟨w.heap.size, 0, none⟩ (.int .i64 0)).setCell ⟨w.heap.size, 1, none⟩ (.slice none 0 0)).cell? ⟨w.heap.size, 1, none⟩ = some (.slice none 0 0) := cell_of_row _ _ _ _ _ _ R6.out
        simp [results, Tryd.f21, go_sem, loadCells, loadCellsFrom, r0, r1]
      · have g2 : ¬ (2048 : Int) < (M : Int) := by omega
        go_enter Tryd.func21, Tryd.ntmps21
        go_wp2_with fail
        refine TN.out.mono ?_
        intro e w2 hT
        obtain ⟨a2, c2, rfl, hs2, hb2⟩ := TK.out e w2 hT
        have G2 : Hid (w2.heap[w.heap.size]? = some (.cells #[.int .i64 0, .slice none 0 0] 24)) := (hb2.block _ (by rw [s1.out]; omega)).trans g1.out
        have B2 := keep (b1.out.trans (hb2.mono b1.out.size))
        have s2 : Hid (w.heap.size < w2.heap.size) := by have h := hb2.size; rw [s1.out] at h; show _ < _; omega
        have S2 := keep hs2
        have hcap := hs2.cap
        clear hT hs2 hb2 TN hW1 TK
        have I0 : Hid (RdI w2 (w2.alloc (.cells #[.int .i64 (N : Int), .slice none 0 0] 24)) N 0 r (.slice none 0 0)) := ⟨heap_alloc_new w2 _, World.ownsRow_nil _ _ _ _, (Below.refl _ _).alloc (Nat.le_refl _) _, by rw [alloc_size]; exact Nat.le_refl _⟩
        go_wp2
        go_loopw [8] (fun i wr => ∃ k : Nat, 32 * k ≤ M ∧ i = .int .i64 ((32 * k : Nat) : Int) ∧ Hid (∃ av cv, RdI w2 wr N k r (.slice av k cv))) (fun i _ => M - (intOf i).toNat)
        case atStart => exact ⟨0, Nat.zero_le _, rfl, none, 0, I0.out⟩
        case round =>
          clear I0
          obtain ⟨k, hk, rfl, hI⟩ := hrel
          obtain ⟨av, cv, hI⟩ := hI.out
          have HI := keep hI
          clear hI
          have c0 : wr.cell? ⟨w2.heap.size, 0, none⟩ = some (.int .i64 (N : Int)) := cell_of_row _ _ _ _ _ _ HI.out.1
          have c1 : wr.cell? ⟨w2.heap.size, 1, none⟩ = some (.slice av k cv) := cell_of_row _ _ _ _ _ _ HI.out.1
          by_cases hlt : 32 * k < M
          · obtain ⟨b, off, rfl, _, _⟩ := S2.out.form (by omega)
            obtain ⟨q, hq⟩ : ∃ q, 32 * k = q := ⟨_, rfl⟩
            have HQ := keep hq
            rw [hq] at hlt ⊢
            have ll : (q : Int) < (M : Int) := by omega
            have ll0 : (0 : Int) ≤ (q : Int) := by omega
            have sw : IntKind.i64.wrap ((q : Int) + 32) = (q : Int) + 32 := wrap_small _ (by omega) (by omega)
            have e4 : (q : Int) + 32 ≤ (M : Int) := by omega
            have e5 : (q : Int) + 32 ≤ (c2 : Int) := by omega
            have e6 : (0 : Int) ≤ (q : Int) + 32 := by omega
            have e7 : (q : Int) ≤ (q : Int) + 32 := by omega
            have nc : ¬ c2 = q := by omega
            have tq : ((q : Int) + 32).toNat - q = 32 := by omega
            have SC : Hid (Src w2 (some ⟨b, off + q, none⟩) 32 (c2 - q) (chk r k)) := by
              have h1 := (S2.out.tailS q (by omega)).head 32 (by omega)
              have e : (r.drop q).take 32 = chk r k := by unfold chk; rw [HQ.out]
              rw [e] at h1
              exact h1
            obtain ⟨Y, hY⟩ : ∃ Y, chk r k = Y := ⟨_, rfl⟩
            have HY := keep hY
            rw [hY] at SC
            have CV : Hid (∀ w', Below w2.heap.size w2 w' → (convert 41 9 (.slice (some ⟨b, off + q, none⟩) 32 (c2 - q))).run Tryd.prog w' = .ok (.string ⟨Y.toArray⟩) w') := fun w' hb => conv_src (SC.out.below hb)
            have hk64 : k ≤ 64 := by have := HQ.out; omega
            clear hq hY
            go_wp2_with fail
            refine wp_region_held_drew (S := fun w' => Below w2.heap.size w2 w') (by kernel_rfl) (HI.out.2.2.1.drew) (fun hZ => ?_)
            refine takeH (i := 0) 37 (v := .pointer (some ⟨w2.heap.size, 1, none⟩)) rfl rfl (by kernel_rfl) (by kernel_rfl) (by kernel_rfl) (fun _ _ _ h => h) (Or.inl ⟨by rfl, ?_⟩) (by assumption) ?_
            · intro w' hSw'
              go_simp
            simp only [Act.put, List.setIfInBounds_toArray, List.set_cons_zero, List.set_cons_succ]
            refine takeH (i := 2) 39 (v := .slice (some ⟨b, off, none⟩) M c2) rfl rfl (by kernel_rfl) (by kernel_rfl) (by kernel_rfl) (fun _ _ _ h => h) (Or.inl ⟨by rfl, ?_⟩) (by assumption) ?_
            · intro w' hSw'
              go_simp
            simp only [Act.put, List.setIfInBounds_toArray, List.set_cons_zero, List.set_cons_succ]
            refine takeH (i := 3) 40 (v := .int .i64 (q : Int)) rfl rfl (by kernel_rfl) (by kernel_rfl) (by kernel_rfl) (fun _ _ _ h => h) (Or.inl ⟨by rfl, ?_⟩) (by assumption) ?_
            · intro w' hSw'
              go_simp
            simp only [Act.put, List.setIfInBounds_toArray, List.set_cons_zero, List.set_cons_succ]
            refine takeH (i := 4) 41 (v := .int .i64 (q : Int)) rfl rfl (by kernel_rfl) (by kernel_rfl) (by kernel_rfl) (fun _ _ _ h => h) (Or.inl ⟨by rfl, ?_⟩) (by assumption) ?_
            · intro w' hSw'
              go_simp
            simp only [Act.put, List.setIfInBounds_toArray, List.set_cons_zero, List.set_cons_succ]
            refine takeH (i := 5) 42 (v := .int .i64 ((q : Int) + 32)) rfl rfl (by kernel_rfl) (by kernel_rfl) (by kernel_rfl) (fun _ _ _ h => h) (Or.inl ⟨by rfl, ?_⟩) (by assumption) ?_
            · intro w' hSw'
              go_simp
            simp only [Act.put, List.setIfInBounds_toArray, List.set_cons_zero, List.set_cons_succ]
            refine takeH (i := 6) 43 (v := .slice (some ⟨b, off + q, none⟩) 32 (c2 - q)) rfl rfl (by kernel_rfl) (by kernel_rfl) (by kernel_rfl) (fun _ _ _ h => h) (Or.inl ⟨by rfl, ?_⟩) (by assumption) ?_
            · intro w' hSw'
              go_simp
            simp only [Act.put, List.setIfInBounds_toArray, List.set_cons_zero, List.set_cons_succ]
            refine takeH (i := 7) 44 (v := .string ⟨Y.toArray⟩) rfl rfl (by kernel_rfl) (by kernel_rfl) (by kernel_rfl) (fun _ _ _ h => h) (Or.inl ⟨by rfl, ?_⟩) (by assumption) ?_
            · intro w' hSw'
              have z0 := CV.out w' hSw'
              go_simp
            simp only [Act.put, List.setIfInBounds_toArray, List.set_cons_zero, List.set_cons_succ]
            obtain ⟨X1, hX1⟩ : ∃ x, (wr.drew).alloc (.cells #[.string ⟨Y.toArray⟩] 9) = x := ⟨_, rfl⟩
            have b4 : Hid (Below w2.heap.size w2 X1) := by rw [← hX1]; exact HI.out.2.2.1.drew.alloc HI.out.2.2.1.size _
            have rc : Hid (∀ j u, (strKind.vals Y)[j]? = some u → X1.cell? ((⟨wr.heap.size, 0, none⟩ : Addr).add j) = some u) := by rw [← hX1]; exact rec_cells (k := strKind) wr.drew 9 Y
            have O4 : Hid (X1.ownsRow (w2.heap.size + 1) 9 1 (.slice av k cv) k (rv strKind ((List.range k).map (chk r)))) := by rw [← hX1]; exact own_next (own_next HI.out.2.1 (Below.refl _ _).drew) ((Below.refl _ _).alloc (Nat.le_refl _) _)
            have XA : Hid (X1.heap[w2.heap.size]? = some (.cells #[.int .i64 (N : Int), .slice av k cv] 24)) := by rw [← hX1]; exact (Below.heap_alloc _ _ _ (Array.getElem?_eq_some_iff.1 HI.out.1).1).trans HI.out.1
            have sX : Hid (w2.heap.size + 1 ≤ X1.heap.size) := by rw [← hX1]; exact Nat.le_trans HI.out.2.2.2 ((Below.refl wr.heap.size wr).drew.alloc (Nat.le_refl _) (.cells #[.string ⟨Y.toArray⟩] 9)).size
            have c1d := below_cell (Below.refl wr.heap.size wr).drew c1
            have c1x : X1.cell? ⟨w2.heap.size, 1, none⟩ = some (.slice av k cv) := cell_of_row _ _ _ _ _ _ XA.out
            refine wpAnyH_ready (rs := [1, 8]) (by kernel_rfl) (by simp) ?_
            refine AllReadyH.cons rfl (fun K hK => ?_) (AllReadyH.cons rfl (fun K hK => ?_) AllReadyH.nil)
            · go_simp
              refine hK.out _ _ (HI.out.2.2.1.drew) (fun hA0 => ?_)
              clear hK K
              refine wpAnyH_ready (rs := [8]) (by kernel_rfl) (by simp) ?_
              refine AllReadyH.cons rfl (fun K hK => ?_) AllReadyH.nil
              go_simp
              refine hK.out _ _ (b4.out) (fun hA1 => ?_)
              clear hK K
              clear c1d c1x c0 c1 hX1
              refine wpAnyH_ready (rs := [9]) (by kernel_rfl) (by simp) ?_
              refine AllReadyH.cons rfl (fun K hK => ?_) AllReadyH.nil
              refine step_append_recS strKind_ok rfl _ _ 22 9 rfl (w2.heap.size + 1) i0 _ 16 Tryd.underlying22 hi hz0 hz1 hz2 rfl (.slice av k cv) k ((List.range k).map (chk r)) rfl O4.out ⟨wr.heap.size, 0, none⟩ 1 Y rfl rc.out (by unfold maxLen; omega) (by omega) sX.out ?_
              intro v7 w7 ho7 hg7
              refine (show K (Act.put _ (some 46) v7) w7 from ?_)
              simp only [Act.put, List.setIfInBounds_toArray, List.set_cons_zero, List.set_cons_succ]
              obtain ⟨g7, c7, rfl, _⟩ := own_form ho7 (by omega)
              have O7 := keep ho7
              have X7 := keep (row_far XA.out O4.out hg7)
              have B7 : Hid (Below w2.heap.size w2 w7) := b4.out.grown hg7 b4.out.size (fun j hj => Nat.le_trans (Nat.le_succ _) (O4.out.lt j hj).1)
              have s7 : Hid (w2.heap.size + 1 ≤ w7.heap.size) := Nat.le_trans sX.out hg7.size
              clear ho7 hg7
              refine hK.out _ _ (B7.out) (fun hA2 => ?_)
              clear hK K
              refine takeH (i := 10) 47 (v := .pointer (some ⟨w2.heap.size, 1, none⟩)) rfl rfl (by kernel_rfl) (by kernel_rfl) (by kernel_rfl) (fun _ _ _ h => h) (Or.inl ⟨by rfl, ?_⟩) (by assumption) ?_
              · intro w' hSw'
                go_simp
              simp only [Act.put, List.setIfInBounds_toArray, List.set_cons_zero, List.set_cons_succ]
              have z1 : w7.cell? ⟨w2.heap.size, 1, none⟩ = some (.slice av k cv) := cell_of_row _ _ _ _ _ _ X7.out
              have f1 := rfrozen X7.out 1
              refine wpAnyH_ready (rs := [11]) (by kernel_rfl) (by simp) ?_
              refine AllReadyH.cons rfl (fun K hK => ?_) AllReadyH.nil
              go_simp
              refine hK.out _ _ (B7.out.setCell (p := ⟨w2.heap.size, 1, none⟩) (Nat.le_refl _) _) (fun hA3 => ?_)
              clear hK K
              clear z1 f1
              refine wpAnyH_done (by kernel_rfl) ?_ _
              go_wp2
              go_roundw
              case rel =>
                refine ⟨k + 1, by have := HQ.out; omega, by have := HQ.out; first | go_num | (congr 1; omega), some ⟨g7, 0, none⟩, c7, ?_, ?_, B7.out.setCell (p := ⟨w2.heap.size, 1, none⟩) (Nat.le_refl _) _, by rw [World.size_setCell]; exact s7.out⟩
                · have := put_row X7.out 1 (.slice (some ⟨g7, 0, none⟩) (k + 1) c7)
                  simpa using this
                · rw [List.range_succ, List.map_append, List.map_cons, List.map_nil, HY.out]
                  exact own_set O7.out (Nat.lt_succ_self _) _ _
              case measure => simp [intOf]; omega
            · go_simp
              refine hK.out _ _ (b4.out) (fun hA0 => ?_)
              clear hK K
              refine wpAnyH_ready (rs := [1]) (by kernel_rfl) (by simp) ?_
              refine AllReadyH.cons rfl (fun K hK => ?_) AllReadyH.nil
              go_simp
              refine hK.out _ _ (b4.out) (fun hA1 => ?_)
              clear hK K
              clear c1d c1x c0 c1 hX1
              refine wpAnyH_ready (rs := [9]) (by kernel_rfl) (by simp) ?_
              refine AllReadyH.cons rfl (fun K hK => ?_) AllReadyH.nil
              refine step_append_recS strKind_ok rfl _ _ 22 9 rfl (w2.heap.size + 1) i0 _ 16 Tryd.underlying22 hi hz0 hz1 hz2 rfl (.slice av k cv) k ((List.range k).map (chk r)) rfl O4.out ⟨wr.heap.size, 0, none⟩ 1 Y rfl rc.out (by unfold maxLen; omega) (by omega) sX.out ?_
              intro v7 w7 ho7 hg7
              refine (show K (Act.put _ (some 46) v7) w7 from ?_)
              simp only [Act.put, List.setIfInBounds_toArray, List.set_cons_zero, List.set_cons_succ]
              obtain ⟨g7, c7, rfl, _⟩ := own_form ho7 (by omega)
              have O7 := keep ho7
              have X7 := keep (row_far XA.out O4.out hg7)
              have B7 : Hid (Below w2.heap.size w2 w7) := b4.out.grown hg7 b4.out.size (fun j hj => Nat.le_trans (Nat.le_succ _) (O4.out.lt j hj).1)
              have s7 : Hid (w2.heap.size + 1 ≤ w7.heap.size) := Nat.le_trans sX.out hg7.size
              clear ho7 hg7
              refine hK.out _ _ (B7.out) (fun hA2 => ?_)
              clear hK K
              refine takeH (i := 10) 47 (v := .pointer (some ⟨w2.heap.size, 1, none⟩)) rfl rfl (by kernel_rfl) (by kernel_rfl) (by kernel_rfl) (fun _ _ _ h => h) (Or.inl ⟨by rfl, ?_⟩) (by assumption) ?_
              · intro w' hSw'
                go_simp
              simp only [Act.put, List.setIfInBounds_toArray, List.set_cons_zero, List.set_cons_succ]
              have z1 : w7.cell? ⟨w2.heap.size, 1, none⟩ = some (.slice av k cv) := cell_of_row _ _ _ _ _ _ X7.out
              have f1 := rfrozen X7.out 1
              refine wpAnyH_ready (rs := [11]) (by kernel_rfl) (by simp) ?_
              refine AllReadyH.cons rfl (fun K hK => ?_) AllReadyH.nil
              go_simp
              refine hK.out _ _ (B7.out.setCell (p := ⟨w2.heap.size, 1, none⟩) (Nat.le_refl _) _) (fun hA3 => ?_)
              clear hK K
              clear z1 f1
              refine wpAnyH_done (by kernel_rfl) ?_ _
              go_wp2
              go_roundw
              case rel =>
                refine ⟨k + 1, by have := HQ.out; omega, by have := HQ.out; first | go_num | (congr 1; omega), some ⟨g7, 0, none⟩, c7, ?_, ?_, B7.out.setCell (p := ⟨w2.heap.size, 1, none⟩) (Nat.le_refl _) _, by rw [World.size_setCell]; exact s7.out⟩
                · have := put_row X7.out 1 (.slice (some ⟨g7, 0, none⟩) (k + 1) c7)
                  simpa using this
                · rw [List.range_succ, List.map_append, List.map_cons, List.map_nil, HY.out]
                  exact own_set O7.out (Nat.lt_succ_self _) _ _
              case measure => simp [intOf]; omega
          · have ll : ¬ ((32 * k : Nat) : Int) < (M : Int) := by omega
            have hkc : k = cnt r.length := by rw [HM.out]; unfold cnt; omega
            have hO := HI.out.2.1
            have hch : (List.range k).map (chk r) = chs r := by unfold chs; rw [← hkc]
            rw [hch] at hO
            have O1 := keep hO
            have RS : Hid (RSrc strKind wr av k cv (chs r)) := by
              obtain ⟨ao', c', e2, hr, _⟩ := RSrc.own strKind_ok hO (fun _ _ => trivial)
              obtain ⟨e3, _, e5⟩ := Value.slice.inj e2
              subst e3
              subst e5
              exact hr
            have CK := keep (rcheck16_any (N : Int) av k cv (chs r) wr RS.out (by omega))
            have HKC := keep hkc
            have B1 := keep (B2.out.trans (HI.out.2.2.1.mono B2.out.size))
            have GR : Hid (wr.heap[w.heap.size]? = some (.cells #[.int .i64 0, .slice none 0 0] 24)) := (HI.out.2.2.1.block _ s2.out).trans G2.out
            have SZ := keep HI.out.2.2.2
            clear hO hch hkc
            cases hc : ckS (N : Int) (chs r) with
            | false =>
              have h1 : ckN (N : Int) (chs r) = 1 := by unfold ckN; rw [hc]; rfl
              have HD : Hid (deS l = none) := by show _ = _; rw [HDS.out, hc]; rfl
              rw [h1] at CK
              clear h1 hc
              go_wp2_with fail
              refine CK.out.mono ?_
              rintro e w5 ⟨rfl, hb5⟩
              have G5 : Hid (w5.heap[w.heap.size]? = some (.cells #[.int .i64 0, .slice none 0 0] 24)) := (hb5.block _ (Array.getElem?_eq_some_iff.1 GR.out).1).trans GR.out
              have B5 := keep (B1.out.trans (hb5.mono B1.out.size))
              clear hb5 CK c0 c1
              have z0 : w5.cell? ⟨w.heap.size, 0, none⟩ = some (.int .i64 0) := cell_of_row _ _ _ _ _ _ G5.out
              have z1 : w5.cell? ⟨w.heap.size, 1, none⟩ = some (.slice none 0 0) := cell_of_row _ _ _ _ _ _ G5.out
              have f0 := rfrozen G5.out 0
              have f1 := rfrozen G5.out 1
              go_wp2
              have R6 := keep (set2 G5.out (.int .i64 0) (.slice none 0 0))
              refine ⟨rfl, .tuple #[.agg #[.int .i64 0, .slice none 0 0], .int .i64 2], ?_, (by obtain ⟨q1, q2, q3⟩ := de_none HD.out; rw [q1, q2, q3]; exact SpA.none ((B5.out.setCell (p := ⟨w.heap.size, 0, none⟩) (Nat.le_refl _) _).setCell (p := ⟨w.heap.size, 1, none⟩) (Nat.le_refl _) _))⟩
              have r0 : ((w5.setCell ⟨w.heap.size, 0, none⟩ (.int .i64 0)).setCell ⟨w.heap.size, 1, none⟩ (.slice none 0 0)).cell? ⟨w.heap.size, 0, none⟩ = some (.int .i64 0) := cell_of_row _ _ _ _ _ _ R6.out
              have r1 : ((w5.setCell ⟨w.heap.size, 0, none⟩ (.int .i64 0)).setCell ⟨w.heap.size, 1, none⟩ (.slice none 0 0)).cell? ⟨w.heap.size, 1, none⟩ = some (.slice none 0 0) := cell_of_row _ _ _ _ _ _ R6.out
              simp [results, Tryd.f21, go_sem, loadCells, loadCellsFrom, r0, r1]
            | true =>
              have h1 : ckN (N : Int) (chs r) = 0 := by unfold ckN; rw [hc]; rfl
              have HD : Hid (deS l = some (N, chs r)) := by show _ = _; rw [HDS.out, hc]; rfl
              rw [h1] at CK
              clear h1 hc
              go_wp2_with fail
              refine CK.out.mono ?_
              rintro e w5 ⟨rfl, hb5⟩
              have G5 : Hid (w5.heap[w.heap.size]? = some (.cells #[.int .i64 0, .slice none 0 0] 24)) := (hb5.block _ (Array.getElem?_eq_some_iff.1 GR.out).1).trans GR.out
              have B5 := keep (B1.out.trans (hb5.mono B1.out.size))
              have O5 := keep (own_next O1.out hb5)
              have z0 : w5.cell? ⟨w.heap.size, 0, none⟩ = some (.int .i64 0) := cell_of_row _ _ _ _ _ _ G5.out
              have z1 : w5.cell? ⟨w.heap.size, 1, none⟩ = some (.slice none 0 0) := cell_of_row _ _ _ _ _ _ G5.out
              have f0 := rfrozen G5.out 0
              have f1 := rfrozen G5.out 1
              have x0 := below_cell hb5 c0
              have x1 := below_cell hb5 c1
              clear hb5 CK c0 c1
              go_wp2
              have R6 := keep (set2 G5.out (.int .i64 (N : Int)) (.slice av k cv))
              refine ⟨rfl, .tuple #[.agg #[.int .i64 (N : Int), .slice av k cv], .int .i64 0], ?_, ?_⟩
              · have r0 : ((w5.setCell ⟨w.heap.size, 0, none⟩ (.int .i64 (N : Int))).setCell ⟨w.heap.size, 1, none⟩ (.slice av k cv)).cell? ⟨w.heap.size, 0, none⟩ = some (.int .i64 (N : Int)) := cell_of_row _ _ _ _ _ _ R6.out
                have r1 : ((w5.setCell ⟨w.heap.size, 0, none⟩ (.int .i64 (N : Int))).setCell ⟨w.heap.size, 1, none⟩ (.slice av k cv)).cell? ⟨w.heap.size, 1, none⟩ = some (.slice av k cv) := cell_of_row _ _ _ _ _ _ R6.out
                simp [results, Tryd.f21, go_sem, loadCells, loadCellsFrom, r0, r1]
              · obtain ⟨q1, q2, q3⟩ := de_some HD.out
                rw [q1, q2, q3]
                have hlz : w.heap.size < w2.heap.size + 1 := by have := s2.out; omega
                refine ⟨_, rfl, ?_, (B5.out.setCell (p := ⟨w.heap.size, 0, none⟩) (Nat.le_refl _) _).setCell (p := ⟨w.heap.size, 1, none⟩) (Nat.le_refl _) _⟩
                rw [chs_len, ← HKC.out]
                exact own_low (own_set (own_set O5.out hlz _ _) hlz _ _) (Nat.le_of_lt hlz)
    · have m1 : ¬ Int.tmod (M : Int) 32 = 0 := by rw [show Int.tmod (M : Int) 32 = ((M % 32 : Nat) : Int) from (Int.ofNat_tmod M 32).symm]; omega
      have m2 : (Int.tmod (M : Int) 32 != 0) = true := by simpa using m1
      have HD : Hid (deS l = none) := by
        show _ = _
        rw [HDS.out, if_neg]
        intro hh
        have := (ck_rest hh).1
        rw [HM.out] at this
        omega
      obtain ⟨q1, q2, q3⟩ := de_none HD.out
      rw [q1, q2, q3]
      clear q1 q2 q3 hi hz0 hz1 hz2
      go_enter Tryd.func21, Tryd.ntmps21
      go_wp2_with fail
      refine TN.out.mono ?_
      intro e w2 hT
      obtain ⟨a2, c2, rfl, _, hb2⟩ := TK.out e w2 hT
      have G2 : Hid (w2.heap[w.heap.size]? = some (.cells #[.int .i64 0, .slice none 0 0] 24)) := (hb2.block _ (by rw [s1.out]; omega)).trans g1.out
      have B2 := keep (b1.out.trans (hb2.mono b1.out.size))
      clear hT hb2 TN hW1 TK
      have z0 : w2.cell? ⟨w.heap.size, 0, none⟩ = some (.int .i64 0) := cell_of_row _ _ _ _ _ _ G2.out
      have z1 : w2.cell? ⟨w.heap.size, 1, none⟩ = some (.slice none 0 0) := cell_of_row _ _ _ _ _ _ G2.out
      have f0 := rfrozen G2.out 0
      have f1 := rfrozen G2.out 1
      go_wp2
      have R6 := keep (set2 G2.out (.int .i64 0) (.slice none 0 0))
      refine ⟨rfl, .tuple #[.agg #[.int .i64 0, .slice none 0 0], .int .i64 2], ?_, SpA.none ((B2.out.setCell (p := ⟨w.heap.size, 0, none⟩) (Nat.le_refl _) _).setCell (p := ⟨w.heap.size, 1, none⟩) (Nat.le_refl _) _)⟩
      have r0 : ((w2.setCell ⟨w.heap.size, 0, none⟩ (.int .i64 0)).setCell ⟨w.heap.size, 1, none⟩ (.slice none 0 0)).cell? ⟨w.heap.size, 0, none⟩ = some (.int .i64 0) := cell_of_row _ _ _ _ _ _ R6.out
      have r1 : ((w2.setCell ⟨w.heap.size, 0, none⟩ (.int .i64 0)).setCell ⟨w.heap.size, 1, none⟩ (.slice none 0 0)).cell? ⟨w.heap.size, 1, none⟩ = some (.slice none 0 0) := cell_of_row _ _ _ _ _ _ R6.out
      simp [results, Tryd.f21, go_sem, loadCells, loadCellsFrom, r0, r1]
end Go.Proofs.YtkepjjkiajkdmaaDoor
