/- The walk of the document's Push. -/
import Derived.Test.YtkepjjkiajkdmaaDoorUx
import Derived.Test.YtkepjjkiajkdmaaDoorKa
import Derived.Test.YtkepjjkiajkdmaaDoorVc
namespace Go.Proofs.YtkepjjkiajkdmaaDoor
open Go.RowKit

theorem own_empty {w : World} {B : Nat} (h : B ≤ w.heap.size) : (w.alloc (.cells #[] 9)).ownsRow B 9 1 (.slice (some ⟨w.heap.size, 0, none⟩) 0 0) 0 (rv strKind []) :=
  ⟨rfl, .inr ⟨_, _, _, rfl, h, heap_alloc_new w _, Nat.le_refl _, by decide, by simp, by simp [rv]⟩⟩
theorem step_append_rowS {P : Program} {w : World} {ops : Array Oper} {o : Oper} {a : Act} {C : Act → World → Prop} {Q : Exit → Act → World → Prop} {E : Prop} (hgd : o.guard = none) (s x : Operand) (t : TypeId)
    (ho : o.op = .call { callee := .builtin .append, args := #[s, x], argTypes := #[t, t] })
    (base : Nat) (i : TypeInfo) (z : Value) (ht : P.underlying t = some (.slice 9)) (hi : P.info? 9 = some i) (hz : i.zero = some z)
    (hsize : i.size = 1) (hby : i.bytes = 16) (hzs : z.cells.size = 1)
    (v : Value) (n : Nat) (k : List (List UInt8)) (hs : a.eval s = v) (hown : w.ownsRow base 9 1 v n (rv strKind k))
    (ad : Addr) (m c : Nat) (l : List (List UInt8)) (hx : a.eval x = .slice (some ad) m c) (hsrc : RSrc strKind w (some ad) m c l)
    (hb : n + m ≤ 8796093022208) (hbase : base ≤ w.heap.size)
    (h : ∀ v' w', w'.ownsRow base 9 1 v' (n + m) (rv strKind (k ++ l)) → w.grownBy w' v.ownBlock → C (a.put o.dst v') w') : if Region.wanted o (yielded ops a.tmps) = true then Oper.wp P o a w C Q else E := by
  have hw : Region.wanted o (yielded ops a.tmps) = true := by simp [Region.wanted, hgd]
  rw [if_pos hw]
  obtain ⟨v', w', hrun, h1, h2, _⟩ := run_append_own (P := P) w base t o.type 9 i z 1 16 ht hi hz hsize hby hzs (by decide) v n (rv strKind k) hown ad m c (rv strKind l) (by rw [rv_length strKind_ok, hsrc.len]; rfl) (hsrc.cells ad rfl) (rv_one strKind_ok l) (by unfold maxLen; omega) (by omega) hbase
  unfold Oper.wp
  simp [execOp, ho, resolve, invoke, builtin, hs, hx, hrun, Result.andThen]
  refine h v' w' ?_ h2
  rw [rv_append]
  exact h1
set_option maxHeartbeats 4000000 in
set_option maxRecDepth 100000 in
theorem rpush16_any (n : Int) (pp : Option Addr) (pm pc : Nat) (ps : List (List UInt8)) (leaf : List UInt8) (w : World) (hs : RSrc strKind w pp pm pc ps) (hm : pm ≤ 4611686018427387904) :
    Calls Tryd.prog 11 #[.agg #[.int .i64 n, .slice pp pm pc], .string ⟨leaf.toArray⟩] w (SpA w (pN n ps leaf) (pL n ps leaf) (pE n ps leaf)) := by
  obtain ⟨i0, hi, hz0, hz1, hz2⟩ := info_partsS infoS
  obtain ⟨W1, hW1⟩ : ∃ Wn, w.alloc (.cells #[.int .i64 n, .slice pp pm pc] 24) = Wn := ⟨_, rfl⟩
  have b1 : Hid (Below w.heap.size w W1) := by rw [← hW1]; exact (Below.refl _ _).alloc (Nat.le_refl _) _
  have s1 : W1.heap.size = w.heap.size + 1 := by rw [← hW1, alloc_size]
  have g1 : W1.heap[w.heap.size]? = some (.cells #[.int .i64 n, .slice pp pm pc] 24) := by rw [← hW1]; exact heap_alloc_new w _
  obtain ⟨W2, hW2⟩ : ∃ Wn, W1.alloc (.cells #[.int .i64 0, .slice none 0 0] 24) = Wn := ⟨_, rfl⟩
  have b2 : Hid (Below W1.heap.size W1 W2) := by rw [← hW2]; exact (Below.refl _ _).alloc (Nat.le_refl _) _
  have s2 : Hid (W2.heap.size = w.heap.size + 2) := by show _ = _; rw [← hW2, alloc_size, s1]
  have G2 : Hid (W2.heap[w.heap.size]? = some (.cells #[.int .i64 n, .slice pp pm pc] 24) ∧ W2.heap[w.heap.size + 1]? = some (.cells #[.int .i64 0, .slice none 0 0] 24)) := ⟨(b2.out.block _ (by omega)).trans g1, by rw [← s1, ← hW2]; exact heap_alloc_new W1 _⟩
  have B2 := keep (b1.out.trans (b2.out.mono b1.out.size))
  have c0 : W2.cell? ⟨w.heap.size, 0, none⟩ = some (.int .i64 n) := cell_of_row _ _ _ _ _ _ G2.out.1
  have c1 : W2.cell? ⟨w.heap.size, 1, none⟩ = some (.slice pp pm pc) := cell_of_row _ _ _ _ _ _ G2.out.1
  have CK := keep (rcheck16_any n pp pm pc ps W2 (hs.below strKind_ok B2.out) hm)
  have HS := keep hs
  have HSL := keep hs.len
  clear hs g1
  have NONE : Hid (∀ w' er, Below W2.heap.size W2 w' → w'.heap[w.heap.size + 1]? = some (.cells #[.int .i64 0, .slice none 0 0] 24) ∧ Below w.heap.size w ((w'.setCell ⟨w.heap.size + 1, 0, none⟩ (.int .i64 0)).setCell ⟨w.heap.size + 1, 1, none⟩ (.slice none 0 0)) ∧ SpA w 0 [] er (.returned (.tuple #[.agg #[.int .i64 0, .slice none 0 0], .int .i64 er])) ((w'.setCell ⟨w.heap.size + 1, 0, none⟩ (.int .i64 0)).setCell ⟨w.heap.size + 1, 1, none⟩ (.slice none 0 0))) := fun w' er hb => by
    have h1 := ((B2.out.trans (hb.mono B2.out.size)).setCell (p := ⟨w.heap.size + 1, 0, none⟩) (Nat.le_succ _) (.int .i64 0)).setCell (p := ⟨w.heap.size + 1, 1, none⟩) (Nat.le_succ _) (.slice none 0 0)
    exact ⟨(hb.block _ (by rw [s2.out]; omega)).trans G2.out.2, h1, SpA.none h1⟩
  cases hc : ckS n ps with
  | false =>
    have h1 : ckN n ps = 1 := by unfold ckN; rw [hc]; rfl
    obtain ⟨q1, q2, q3⟩ := p_no (leaf := leaf) (show pOk n ps leaf = false by unfold pOk; rw [hc]; rfl)
    rw [h1] at CK
    rw [q1, q2, q3]
    clear hc h1 q1 q2 q3 HS HSL hi hz0 hz1 hz2
    go_enter Tryd.func11, Tryd.ntmps11
    go_wp2_with fail
    refine CK.out.mono ?_
    rintro e w3 ⟨rfl, hb3⟩
    have N3 := keep (NONE.out w3 1 hb3)
    clear hb3 CK hW1 hW2 c0 c1 s1 NONE
    have z0 : w3.cell? ⟨w.heap.size + 1, 0, none⟩ = some (.int .i64 0) := cell_of_row _ _ _ _ _ _ N3.out.1
    have z1 : w3.cell? ⟨w.heap.size + 1, 1, none⟩ = some (.slice none 0 0) := cell_of_row _ _ _ _ _ _ N3.out.1
    have f0 : w3.frozen? ⟨w.heap.size + 1, 0, none⟩ = false := by simp [World.frozen?, N3.out.1]
    have f1 : w3.frozen? ⟨w.heap.size + 1, 1, none⟩ = false := by simp [World.frozen?, N3.out.1]
    go_wp2
    have R6 := keep (set2 N3.out.1 (.int .i64 0) (.slice none 0 0))
    refine ⟨rfl, .tuple #[.agg #[.int .i64 0, .slice none 0 0], .int .i64 1], ?_, N3.out.2.2⟩
    have r0 : ((w3.setCell ⟨w.heap.size + 1, 0, none⟩ (.int .i64 0)).setCell ⟨w.heap.size + 1, 1, none⟩ (.slice none 0 0)).cell? ⟨w.heap.size + 1, 0, none⟩ = some (.int .i64 0) := cell_of_row _ _ _ _ _ _ R6.out
    have r1 : ((w3.setCell ⟨w.heap.size + 1, 0, none⟩ (.int .i64 0)).setCell ⟨w.heap.size + 1, 1, none⟩ (.slice none 0 0)).cell? ⟨w.heap.size + 1, 1, none⟩ = some (.slice none 0 0) := cell_of_row _ _ _ _ _ _ R6.out
    simp [results, Tryd.f11, go_sem, loadCells, loadCellsFrom, r0, r1]
  | true =>
    have h1 : ckN n ps = 0 := by unfold ckN; rw [hc]; rfl
    obtain ⟨d1, d2, d3, d4⟩ := ckS_parts hc
    rw [h1] at CK
    by_cases hmax : n = 1099511627776
    · subst hmax
      obtain ⟨q1, q2, q3⟩ := p_no (leaf := leaf) (show pOk 1099511627776 ps leaf = false by unfold pOk; rw [hc]; rfl)
      rw [q1, q2, q3]
      clear hc h1 q1 q2 q3 HS HSL d1 d2 d3 d4 hi hz0 hz1 hz2
      go_enter Tryd.func11, Tryd.ntmps11
      go_wp2_with fail
      refine CK.out.mono ?_
      rintro e w3 ⟨rfl, hb3⟩
      have N3 := keep (NONE.out w3 1 hb3)
      have e0 := below_cell hb3 c0
      clear hb3 CK hW1 hW2 c0 c1 s1 NONE
      have z0 : w3.cell? ⟨w.heap.size + 1, 0, none⟩ = some (.int .i64 0) := cell_of_row _ _ _ _ _ _ N3.out.1
      have z1 : w3.cell? ⟨w.heap.size + 1, 1, none⟩ = some (.slice none 0 0) := cell_of_row _ _ _ _ _ _ N3.out.1
      have f0 : w3.frozen? ⟨w.heap.size + 1, 0, none⟩ = false := by simp [World.frozen?, N3.out.1]
      have f1 : w3.frozen? ⟨w.heap.size + 1, 1, none⟩ = false := by simp [World.frozen?, N3.out.1]
      go_wp2
      have R6 := keep (set2 N3.out.1 (.int .i64 0) (.slice none 0 0))
      refine ⟨rfl, .tuple #[.agg #[.int .i64 0, .slice none 0 0], .int .i64 1], ?_, N3.out.2.2⟩
      have r0 : ((w3.setCell ⟨w.heap.size + 1, 0, none⟩ (.int .i64 0)).setCell ⟨w.heap.size + 1, 1, none⟩ (.slice none 0 0)).cell? ⟨w.heap.size + 1, 0, none⟩ = some (.int .i64 0) := cell_of_row _ _ _ _ _ _ R6.out
      have r1 : ((w3.setCell ⟨w.heap.size + 1, 0, none⟩ (.int .i64 0)).setCell ⟨w.heap.size + 1, 1, none⟩ (.slice none 0 0)).cell? ⟨w.heap.size + 1, 1, none⟩ = some (.slice none 0 0) := cell_of_row _ _ _ _ _ _ R6.out
      simp [results, Tryd.f11, go_sem, loadCells, loadCellsFrom, r0, r1]
    · obtain ⟨N, rfl⟩ : ∃ N : Nat, n = (N : Int) := ⟨n.toNat, by omega⟩
      rw [Int.toNat_natCast, HSL.out] at d3
      have hne : ¬ (N : Int) = 1099511627776 := by omega
      have hne2 : ((N : Int) == 1099511627776) = false := by simp; omega
      have hle : (N : Int) < 1099511627776 := by omega
      by_cases h32 : leaf.length = 32
      · have l32 : (leaf.length : Int) = 32 := by omega
        obtain ⟨q1, q2, q3⟩ := p_yes (leaf := leaf) (show pOk (N : Int) ps leaf = true by unfold pOk; rw [hc, decide_eq_false hne, decide_eq_true h32]; rfl)
        rw [Int.toNat_natCast] at q1
        rw [q1, q2, q3]
        have H32 := keep h32
        have D3 := keep d3
        have D4 := keep d4
        have hon := ones_le' N
        have hpm : pm ≤ 1099511627776 := by omega
        obtain ⟨T, hT⟩ : ∃ T, Mt.mrg nodeL N (ps ++ [leaf]) = T := ⟨_, rfl⟩
        have HT := keep hT
        rw [hT]
        have N0 : (0 : Int) ≤ (N : Int) := by omega
        clear hc h1 q1 q2 q3 d1 d2 d3 d4 h32 hT hmax hon
        go_enter Tryd.func11, Tryd.ntmps11
        go_wp2_with fail
        refine CK.out.mono ?_
        rintro e w2 ⟨rfl, hb2⟩
        have e0 := below_cell hb2 c0
        have e1 := below_cell hb2 c1
        have C2 := keep hb2
        clear hb2 CK hW1 hW2 c0 c1 s1 NONE
        have L2 : Hid (Below w.heap.size w w2) := B2.out.trans (C2.out.mono B2.out.size)
        obtain ⟨W3, hW3⟩ : ∃ Wn, w2.alloc (.cells #[] 9) = Wn := ⟨_, rfl⟩
        have b3 : Hid (Below w2.heap.size w2 W3) := by rw [← hW3]; exact (Below.refl _ _).alloc (Nat.le_refl _) _
        have f1 := below_cell b3.out e1
        have O3 : Hid (W3.ownsRow w2.heap.size 9 1 (.slice (some ⟨w2.heap.size, 0, none⟩) 0 0) 0 (rv strKind [])) := by rw [← hW3]; exact own_empty (Nat.le_refl _)
        have L3 := keep (L2.out.trans (b3.out.mono L2.out.size))
        have N1 : (N : Int) ≤ 1099511627776 := by omega
        clear hle
        go_wp2_with (first
          | (at_builtin; refine wpList_append_recsS rfl _ _ 22 rfl w2.heap.size i0 _ Tryd.underlying22 hi hz0 hz1 hz2 rfl _ 0 [] rfl O3.out _ pm pc ps rfl (HS.out.below strKind_ok L3.out) (by omega) b3.out.size ?_; intro v4 w4 ho4 hg4; rw [Nat.zero_add, List.nil_append] at ho4; have B4 := keep (b3.out.grown hg4 b3.out.size (fun j hj => (O3.out.lt j hj).1)); have O4 : Hid ((w4.alloc (.cells #[.string ⟨leaf.toArray⟩] 9)).ownsRow w2.heap.size 9 1 v4 pm (rv strKind ps)) := own_next ho4 ((Below.refl _ _).alloc (Nat.le_refl _) _); have R4 := keep (one_text w4 leaf); have C4 : Hid (Below w2.heap.size w2 (w4.alloc (.cells #[.string ⟨leaf.toArray⟩] 9))) := B4.out.alloc B4.out.size _; clear ho4 hg4)
          | (at_builtin; refine wpList_append_recsS rfl _ _ 22 rfl w2.heap.size i0 _ Tryd.underlying22 hi hz0 hz1 hz2 rfl _ pm ps rfl O4.out _ 1 1 [leaf] rfl R4.out (by omega) C4.out.size ?_; intro v5 w5 ho5 hg5; have B5 := keep (C4.out.grown hg5 C4.out.size (fun j hj => (O4.out.lt j hj).1)); obtain ⟨g5, c5, rfl, hc5⟩ := own_form ho5 (by omega); have O5 := keep ho5; have h5 := below_cell B5.out e0; clear ho5 hg5))
        have GG : Hid (∀ w', Below w2.heap.size w2 w' → w'.heap[w.heap.size]? = some (.cells #[.int .i64 (N : Int), .slice pp pm pc] 24) ∧ w'.heap[w.heap.size + 1]? = some (.cells #[.int .i64 0, .slice none 0 0] 24)) := fun w' hb => by
          have h0 := C2.out.size
          have h1 := (C2.out.block _ (by rw [s2.out]; omega)).trans G2.out.1
          have h2 := (C2.out.block _ (by rw [s2.out]; omega)).trans G2.out.2
          rw [s2.out] at h0
          exact ⟨(hb.block _ (by omega)).trans h1, (hb.block _ (by omega)).trans h2⟩
        have HSZ : Hid (w.heap.size + 2 ≤ w2.heap.size) := by have h0 := C2.out.size; rw [s2.out] at h0; exact h0
        clear hW3 e1 f1 h5 e0 O3 b3 L3
        have JJ0 : Hid (JI w2 w5 g5 c5 (pm + 1) N (ps ++ [leaf]) T) := ⟨O5.out, B5.out, fun e he => by
          rcases List.mem_append.1 he with he | he
          · rw [wholeL_mem D4.out e he]; decide
          · rw [List.mem_singleton.1 he, H32.out]; decide, HT.out, by rw [List.length_append, HSL.out]; rfl⟩
        go_loopw [6, 7] (fun l i wr => ∃ M n g cap : Nat, ∃ es, l = .slice (some ⟨g, 0, none⟩) n cap ∧ i = .int .i64 (M : Int) ∧ M ≤ 1099511627776 ∧ n ≤ cap ∧ Hid (n = Mt.ones M + 1 ∧ JI w2 wr g cap n M es T)) (fun _ i _ => (intOf i).toNat)
        case atStart => exact ⟨N, pm + 1, g5, c5, ps ++ [leaf], rfl, rfl, by omega, hc5, by rw [D3.out], JJ0.out⟩
        case round =>
          clear JJ0 O5 B5 O4 R4 C4 B4 hc5
          obtain ⟨M, n, g, cap, es, rfl, rfl, hM, hcap, hI⟩ := hrel
          have HI := keep hI.out.2
          have HN := keep hI.out.1
          have hle := ones_le' M
          have hn2 : n ≤ 1099511627777 := by have := HN.out; omega
          clear hI
          by_cases hodd : M % 2 = 1
          · have hM1 : 1 ≤ M := by omega
            have A1 : Int.tmod (M : Int) 2 = 1 := by rw [show Int.tmod (M : Int) 2 = ((M % 2 : Nat) : Int) from (Int.ofNat_tmod M 2).symm, hodd]; rfl
            have hon := Mt.ones_pos hM1
            have hhalf : Int.tdiv (M : Int) 2 = ((M / 2 : Nat) : Int) := (Int.ofNat_tdiv M 2).symm
            obtain ⟨N2, hN2⟩ : ∃ y, M / 2 = y := ⟨_, rfl⟩
            have HN2 := keep hN2
            have HODD := keep hodd
            rw [hN2] at hon hhalf
            rw [hodd] at hon
            have hlt : N2 < M := by omega
            have hnn := HN.out
            obtain ⟨l, a, b, rfl, hl⟩ := two_last es (by rw [HI.out.2.2.2.2]; omega)
            obtain ⟨m, hm'⟩ : ∃ m, n - 2 = m := ⟨_, rfl⟩
            obtain ⟨q, hq⟩ : ∃ q, n - 1 = q := ⟨_, rfl⟩
            have hlm : Hid (l.length = m) := by show _ = _; rw [hl, HI.out.2.2.2.2]; exact hm'
            have CE := keep (last_cells HI.out.1 HI.out.2.2.2.2)
            rw [hm', hq] at CE
            have ca := CE.out.1
            have cb := CE.out.2
            clear CE
            have e1 : (n : Int) - 1 = (q : Int) := by omega
            have e2 : (n : Int) - 2 = (m : Int) := by omega
            have m0 : (0 : Int) ≤ (m : Int) := by omega
            have q0 : (0 : Int) ≤ (q : Int) := by omega
            have m1 : (m : Int) < (n : Int) := by omega
            have q1 : (q : Int) < (n : Int) := by omega
            have m2 : (m : Int) ≤ (cap : Int) := by omega
            have m4 : ¬ (cap : Int) < (m : Int) := by omega
            have HM1 : Hid (Mt.ones N2 + 1 = m + 1) := by show _ = _; omega
            have hm8 : m ≤ 1099511627777 := by omega
            have hmn : m < n := by omega
            have mw : IntKind.i64.wrap (m : Int) = (m : Int) := wrap_i64 m (by omega)
            have qw : IntKind.i64.wrap (q : Int) = (q : Int) := wrap_i64 q (by omega)
            have sa := HI.out.2.2.1 a (by simp)
            have sb := HI.out.2.2.1 b (by simp)
            obtain ⟨X, hX⟩ : ∃ X, nodeL a b = X := ⟨_, rfl⟩
            have HX := keep hX
            have NN : Hid (∀ w', Calls Tryd.prog 32 #[.string ⟨a.toArray⟩, .string ⟨b.toArray⟩] w' fun e w'' => e = .returned (.string ⟨X.toArray⟩) ∧ Below w'.heap.size w' w'') := fun w' => by
              rw [← HX.out]
              exact rnode_any a b w' (by omega)
            have hn0 : 0 < n := by omega
            clear hX hodd hl hm' hq hon hN2 sa sb hle hnn
            have PRE : Hid (RSrc strKind wr (some ⟨g, 0, none⟩) m cap l) := by
              obtain ⟨ao', c', e', hr, _⟩ := RSrc.own strKind_ok (own_pre HI.out.1 m (by omega)) (fun _ _ => trivial)
              obtain ⟨e3, _, e5⟩ := Value.slice.inj e'
              subst e3
              subst e5
              rw [List.append_assoc, List.take_left' hlm.out] at hr
              exact hr
            go_wp2_with fail
            refine wp_region_held_drew (S := fun w' => Below wr.heap.size wr w') (by kernel_rfl) ((Below.refl wr.heap.size wr).drew) (fun hZ => ?_)
            refine takeH (i := 1) 40 (v := .slice (some ⟨g, 0, none⟩) n cap) rfl rfl (by kernel_rfl) (by kernel_rfl) (by kernel_rfl) (fun _ _ _ h => h) (Or.inl ⟨by rfl, ?_⟩) (by assumption) ?_
            · intro w' hSw'
              go_simp
            simp only [Act.put, List.setIfInBounds_toArray, List.set_cons_zero, List.set_cons_succ]
            refine takeH (i := 2) 41 (v := .int .i64 (n : Int)) rfl rfl (by kernel_rfl) (by kernel_rfl) (by kernel_rfl) (fun _ _ _ h => h) (Or.inl ⟨by rfl, ?_⟩) (by assumption) ?_
            · intro w' hSw'
              go_simp
            simp only [Act.put, List.setIfInBounds_toArray, List.set_cons_zero, List.set_cons_succ]
            refine takeH (i := 3) 42 (v := .int .i64 (m : Int)) rfl rfl (by kernel_rfl) (by kernel_rfl) (by kernel_rfl) (fun _ _ _ h => h) (Or.inl ⟨by rfl, ?_⟩) (by assumption) ?_
            · intro w' hSw'
              go_simp
            simp only [Act.put, List.setIfInBounds_toArray, List.set_cons_zero, List.set_cons_succ]
            refine takeH (i := 4) 43 (v := .slice (some ⟨g, 0, none⟩) m cap) rfl rfl (by kernel_rfl) (by kernel_rfl) (by kernel_rfl) (fun _ _ _ h => h) (Or.inl ⟨by rfl, ?_⟩) (by assumption) ?_
            · intro w' hSw'
              go_simp
            simp only [Act.put, List.setIfInBounds_toArray, List.set_cons_zero, List.set_cons_succ]
            refine takeH (i := 6) 45 (v := .slice (some ⟨g, 0, none⟩) n cap) rfl rfl (by kernel_rfl) (by kernel_rfl) (by kernel_rfl) (fun _ _ _ h => h) (Or.inl ⟨by rfl, ?_⟩) (by assumption) ?_
            · intro w' hSw'
              go_simp
            simp only [Act.put, List.setIfInBounds_toArray, List.set_cons_zero, List.set_cons_succ]
            refine takeH (i := 7) 46 (v := .int .i64 (n : Int)) rfl rfl (by kernel_rfl) (by kernel_rfl) (by kernel_rfl) (fun _ _ _ h => h) (Or.inl ⟨by rfl, ?_⟩) (by assumption) ?_
            · intro w' hSw'
              go_simp
            simp only [Act.put, List.setIfInBounds_toArray, List.set_cons_zero, List.set_cons_succ]
            refine takeH (i := 8) 47 (v := .int .i64 (m : Int)) rfl rfl (by kernel_rfl) (by kernel_rfl) (by kernel_rfl) (fun _ _ _ h => h) (Or.inl ⟨by rfl, ?_⟩) (by assumption) ?_
            · intro w' hSw'
              go_simp
            simp only [Act.put, List.setIfInBounds_toArray, List.set_cons_zero, List.set_cons_succ]
            refine takeH (i := 9) 48 (v := .pointer (some ⟨g, m, none⟩)) rfl rfl (by kernel_rfl) (by kernel_rfl) (by kernel_rfl) (fun _ _ _ h => h) (Or.inl ⟨by rfl, ?_⟩) (by assumption) ?_
            · intro w' hSw'
              go_simp
            simp only [Act.put, List.setIfInBounds_toArray, List.set_cons_zero, List.set_cons_succ]
            refine takeH (i := 10) 49 (v := .string ⟨a.toArray⟩) rfl rfl (by kernel_rfl) (by kernel_rfl) (by kernel_rfl) (fun _ _ _ h => h) (Or.inl ⟨by rfl, ?_⟩) (by assumption) ?_
            · intro w' hSw'
              have z0 := below_cell hSw' ca
              go_simp
            simp only [Act.put, List.setIfInBounds_toArray, List.set_cons_zero, List.set_cons_succ]
            refine takeH (i := 11) 50 (v := .slice (some ⟨g, 0, none⟩) n cap) rfl rfl (by kernel_rfl) (by kernel_rfl) (by kernel_rfl) (fun _ _ _ h => h) (Or.inl ⟨by rfl, ?_⟩) (by assumption) ?_
            · intro w' hSw'
              go_simp
            simp only [Act.put, List.setIfInBounds_toArray, List.set_cons_zero, List.set_cons_succ]
            refine takeH (i := 12) 51 (v := .int .i64 (n : Int)) rfl rfl (by kernel_rfl) (by kernel_rfl) (by kernel_rfl) (fun _ _ _ h => h) (Or.inl ⟨by rfl, ?_⟩) (by assumption) ?_
            · intro w' hSw'
              go_simp
            simp only [Act.put, List.setIfInBounds_toArray, List.set_cons_zero, List.set_cons_succ]
            refine takeH (i := 13) 52 (v := .int .i64 (q : Int)) rfl rfl (by kernel_rfl) (by kernel_rfl) (by kernel_rfl) (fun _ _ _ h => h) (Or.inl ⟨by rfl, ?_⟩) (by assumption) ?_
            · intro w' hSw'
              go_simp
            simp only [Act.put, List.setIfInBounds_toArray, List.set_cons_zero, List.set_cons_succ]
            refine takeH (i := 14) 53 (v := .pointer (some ⟨g, q, none⟩)) rfl rfl (by kernel_rfl) (by kernel_rfl) (by kernel_rfl) (fun _ _ _ h => h) (Or.inl ⟨by rfl, ?_⟩) (by assumption) ?_
            · intro w' hSw'
              go_simp
            simp only [Act.put, List.setIfInBounds_toArray, List.set_cons_zero, List.set_cons_succ]
            refine takeH (i := 15) 54 (v := .string ⟨b.toArray⟩) rfl rfl (by kernel_rfl) (by kernel_rfl) (by kernel_rfl) (fun _ _ _ h => h) (Or.inl ⟨by rfl, ?_⟩) (by assumption) ?_
            · intro w' hSw'
              have z0 := below_cell hSw' cb
              go_simp
            simp only [Act.put, List.setIfInBounds_toArray, List.set_cons_zero, List.set_cons_succ]
            have b3 := keep ((Below.refl wr.heap.size wr).drew.alloc (Nat.le_refl _) (.cells #[] 9))
            have O3 : Hid (((wr.drew).alloc (.cells #[] 9)).ownsRow wr.heap.size 9 1 (.slice (some ⟨(wr.drew).heap.size, 0, none⟩) 0 0) 0 (rv strKind [])) := own_empty (Nat.le_refl _)
            refine wpAnyH_ready (rs := [0]) (by kernel_rfl) (by simp) ?_
            refine AllReadyH.cons rfl (fun K hK => ?_) AllReadyH.nil
            go_simp
            refine hK.out _ _ (b3.out) (fun hZ1 => ?_)
            clear hK K
            refine wpAnyH_ready (rs := [5]) (by kernel_rfl) (by simp) ?_
            refine AllReadyH.cons rfl (fun K hK => ?_) AllReadyH.nil
            refine step_append_rowS rfl _ _ 22 rfl wr.heap.size i0 _ Tryd.underlying22 hi hz0 hz1 hz2 rfl _ 0 [] rfl O3.out _ m cap l rfl (PRE.out.below strKind_ok b3.out) (by omega) b3.out.size ?_
            intro v5 w5 ho hg
            refine (show K (Act.put _ (some 44) v5) w5 from ?_)
            simp only [Act.put, List.setIfInBounds_toArray, List.set_cons_zero, List.set_cons_succ]
            have O5 := keep ho
            have b5 := keep (b3.out.grown hg b3.out.size (fun j hj => (O3.out.lt j hj).1))
            clear ho hg
            refine hK.out _ _ (b5.out) (fun hZ2 => ?_)
            clear hK K
            rw [Nat.zero_add, List.nil_append] at O5
            refine wpAnyH_ready (rs := [16]) (by kernel_rfl) (by simp) ?_
            refine AllReadyH.cons rfl (fun K hK => ?_) AllReadyH.nil
            go_simp
            refine (NN.out w5).mono ?_
            rintro e w6 ⟨rfl, hb6⟩
            have b6 := keep (b5.out.trans (hb6.mono b5.out.size))
            have O6p := keep (own_next O5.out hb6)
            clear hb6
            go_wp2_with fail
            refine hK.out _ _ (b6.out) (fun hZ3 => ?_)
            clear hK K
            have b6a := keep (b6.out.alloc b6.out.size (.cells #[.string ⟨X.toArray⟩] 9))
            have O6 : Hid ((w6.alloc (.cells #[.string ⟨X.toArray⟩] 9)).ownsRow wr.heap.size 9 1 v5 m (rv strKind l)) := own_next O6p.out ((Below.refl _ _).alloc (Nat.le_refl _) _)
            refine wpAnyH_ready (rs := [17]) (by kernel_rfl) (by simp) ?_
            refine AllReadyH.cons rfl (fun K hK => ?_) AllReadyH.nil
            go_simp
            refine hK.out _ _ (b6a.out) (fun hZ4 => ?_)
            clear hK K
            refine wpAnyH_ready (rs := [18]) (by kernel_rfl) (by simp) ?_
            refine AllReadyH.cons rfl (fun K hK => ?_) AllReadyH.nil
            refine step_append_rowS rfl _ _ 22 rfl wr.heap.size i0 _ Tryd.underlying22 hi hz0 hz1 hz2 rfl _ m l rfl O6.out _ 1 1 [X] rfl (one_text w6 X) (by omega) b6a.out.size ?_
            intro v7 w7 ho hg
            refine (show K (Act.put _ (some 57) v7) w7 from ?_)
            simp only [Act.put, List.setIfInBounds_toArray, List.set_cons_zero, List.set_cons_succ]
            have O7 := keep ho
            have b7 := keep (b6a.out.grown hg b6a.out.size (fun j hj => (O6.out.lt j hj).1))
            clear ho hg
            refine hK.out _ _ (b7.out) (fun hZ5 => ?_)
            clear hK K
            refine takeH (i := 19) 6 (v := v7) rfl rfl (by kernel_rfl) (by kernel_rfl) (by kernel_rfl) (fun _ _ _ h => h) (Or.inl ⟨by rfl, ?_⟩) (by assumption) ?_
            · intro w' hSw'
              go_simp
            simp only [Act.put, List.setIfInBounds_toArray, List.set_cons_zero, List.set_cons_succ]
            refine wpAnyH_done (by kernel_rfl) ?_ _
            clear NN ca cb
            go_wp2
            go_roundw
            case rel =>
              obtain ⟨g7, c7, rfl, hc7⟩ := own_form O7.out (by omega)
              have BB := HI.out.2.1.trans (b7.out.mono HI.out.2.1.size)
              refine ⟨N2, m + 1, g7, c7, l ++ [X], rfl, rfl, by omega, hc7, HM1.out.symm, own_low O7.out HI.out.2.1.size, BB, ?_, ?_, by rw [List.length_append, hlm.out]; rfl⟩
              · intro e he
                rcases List.mem_append.1 he with he | he
                · exact HI.out.2.2.1 e (by simp [he])
                · rw [List.mem_singleton.1 he, ← HX.out, nodeL_len]; decide
              · rw [← HI.out.2.2.2.1, Mt.mrg_odd nodeL HODD.out, HN2.out, HX.out]
            case measure => simp [intOf]; omega
          · have A0 : Int.tmod (M : Int) 2 = 0 := by rw [show Int.tmod (M : Int) 2 = ((M % 2 : Nat) : Int) from (Int.ofNat_tmod M 2).symm, show M % 2 = 0 by omega]; rfl
            have HODD := keep hodd
            clear hodd hle
            have hG := GG.out wr HI.out.2.1
            have c0 : wr.cell? ⟨w.heap.size, 0, none⟩ = some (.int .i64 (N : Int)) := cell_of_row _ _ _ _ _ _ hG.1
            have z0 : wr.cell? ⟨w.heap.size + 1, 0, none⟩ = some (.int .i64 0) := cell_of_row _ _ _ _ _ _ hG.2
            have z1 : wr.cell? ⟨w.heap.size + 1, 1, none⟩ = some (.slice none 0 0) := cell_of_row _ _ _ _ _ _ hG.2
            have f0 : wr.frozen? ⟨w.heap.size + 1, 0, none⟩ = false := by simp [World.frozen?, hG.2]
            have f1 : wr.frozen? ⟨w.heap.size + 1, 1, none⟩ = false := by simp [World.frozen?, hG.2]
            have nw : IntKind.i64.wrap ((N : Int) + 1) = (N : Int) + 1 := wrap_small _ (by omega) (by omega)
            have H2 := keep hG.2
            clear hG
            go_wp2
            have R6 := keep (set2 H2.out (.int .i64 ((N : Int) + 1)) (.slice (some ⟨g, 0, none⟩) n cap))
            refine ⟨rfl, .tuple #[.agg #[.int .i64 ((N : Int) + 1), .slice (some ⟨g, 0, none⟩) n cap], .int .i64 0], ?_, ?_⟩
            · have r0 : ((wr.setCell ⟨w.heap.size + 1, 0, none⟩ (.int .i64 ((N : Int) + 1))).setCell ⟨w.heap.size + 1, 1, none⟩ (.slice (some ⟨g, 0, none⟩) n cap)).cell? ⟨w.heap.size + 1, 0, none⟩ = some (.int .i64 ((N : Int) + 1)) := cell_of_row _ _ _ _ _ _ R6.out
              have r1 : ((wr.setCell ⟨w.heap.size + 1, 0, none⟩ (.int .i64 ((N : Int) + 1))).setCell ⟨w.heap.size + 1, 1, none⟩ (.slice (some ⟨g, 0, none⟩) n cap)).cell? ⟨w.heap.size + 1, 1, none⟩ = some (.slice (some ⟨g, 0, none⟩) n cap) := cell_of_row _ _ _ _ _ _ R6.out
              simp [results, Tryd.f11, go_sem, loadCells, loadCellsFrom, r0, r1]
            · have h4 := HI.out.2.2.2.1
              rw [Mt.mrg_even nodeL HODD.out] at h4
              subst h4
              have hO := HI.out.1
              have hl := HI.out.2.2.2.2
              have B9 := L2.out.trans (HI.out.2.1.mono L2.out.size)
              rw [← hl] at hO ⊢
              exact ⟨_, rfl, own_low (own_set (own_set hO (by have := HSZ.out; omega) _ _) (by have := HSZ.out; omega) _ _) L2.out.size, (B9.setCell (p := ⟨w.heap.size + 1, 0, none⟩) (Nat.le_succ _) _).setCell (p := ⟨w.heap.size + 1, 1, none⟩) (Nat.le_succ _) _⟩
      · have l32 : ¬ (leaf.length : Int) = 32 := by omega
        have l33 : ((leaf.length : Int) != 32) = true := by simp; omega
        obtain ⟨q1, q2, q3⟩ := p_no (leaf := leaf) (show pOk (N : Int) ps leaf = false by unfold pOk; rw [hc, decide_eq_false h32, Bool.and_false, Bool.and_false])
        rw [q1, q2, q3]
        clear hc h1 q1 q2 q3 HS HSL d1 d2 d3 d4 h32 hmax hi hz0 hz1 hz2
        go_enter Tryd.func11, Tryd.ntmps11
        go_wp2_with fail
        refine CK.out.mono ?_
        rintro e w3 ⟨rfl, hb3⟩
        have N3 := keep (NONE.out w3 1 hb3)
        have e0 := below_cell hb3 c0
        clear hb3 CK hW1 hW2 c0 c1 s1 NONE
        have z0 : w3.cell? ⟨w.heap.size + 1, 0, none⟩ = some (.int .i64 0) := cell_of_row _ _ _ _ _ _ N3.out.1
        have z1 : w3.cell? ⟨w.heap.size + 1, 1, none⟩ = some (.slice none 0 0) := cell_of_row _ _ _ _ _ _ N3.out.1
        have f0 : w3.frozen? ⟨w.heap.size + 1, 0, none⟩ = false := by simp [World.frozen?, N3.out.1]
        have f1 : w3.frozen? ⟨w.heap.size + 1, 1, none⟩ = false := by simp [World.frozen?, N3.out.1]
        go_wp2
        have R6 := keep (set2 N3.out.1 (.int .i64 0) (.slice none 0 0))
        refine ⟨rfl, .tuple #[.agg #[.int .i64 0, .slice none 0 0], .int .i64 1], ?_, N3.out.2.2⟩
        have r0 : ((w3.setCell ⟨w.heap.size + 1, 0, none⟩ (.int .i64 0)).setCell ⟨w.heap.size + 1, 1, none⟩ (.slice none 0 0)).cell? ⟨w.heap.size + 1, 0, none⟩ = some (.int .i64 0) := cell_of_row _ _ _ _ _ _ R6.out
        have r1 : ((w3.setCell ⟨w.heap.size + 1, 0, none⟩ (.int .i64 0)).setCell ⟨w.heap.size + 1, 1, none⟩ (.slice none 0 0)).cell? ⟨w.heap.size + 1, 1, none⟩ = some (.slice none 0 0) := cell_of_row _ _ _ _ _ _ R6.out
        simp [results, Tryd.f11, go_sem, loadCells, loadCellsFrom, r0, r1]
end Go.Proofs.YtkepjjkiajkdmaaDoor
