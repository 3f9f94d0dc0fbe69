/- The walk of joined. -/
import Derived.Test.YtkepjjkiajkdmaaDoorVb
import Derived.Test.YtkepjjkiajkdmaaDoorPb
import Derived.Test.YtkepjjkiajkdmaaDoorPl
import Derived.Test.YtkepjjkiajkdmaaDoorMs
import Derived.WalkMore
import Derived.ScopeJumps
namespace Go.Proofs.YtkepjjkiajkdmaaDoor
open Go.RowKit

theorem two_last {α : Type} (es : List α) (h : 2 ≤ es.length) : ∃ l a b, es = l ++ [a] ++ [b] ∧ l.length = es.length - 2 := by
  refine ⟨es.take (es.length - 2), es[es.length - 2], es[es.length - 1], ?_, by rw [List.length_take]; omega⟩
  have h1 : es = es.take (es.length - 1) ++ [es[es.length - 1]] := by
    conv => lhs; rw [← List.take_append_drop (es.length - 1) es]
    rw [List.drop_eq_getElem_cons (by omega), List.drop_of_length_le (by omega)]
  have h2 : es.take (es.length - 1) = es.take (es.length - 2) ++ [es[es.length - 2]] := by
    rw [show es.length - 1 = es.length - 2 + 1 by omega, List.take_add_one, List.getElem?_eq_getElem (by omega)]
    rfl
  rw [← h2]
  exact h1
theorem own_form {w : World} {B n : Nat} {v : Value} {es : List (List UInt8)} (h : w.ownsRow B 9 1 v n (rv strKind es)) (hn : 0 < n) : ∃ g cap, v = .slice (some ⟨g, 0, none⟩) n cap ∧ n ≤ cap := by
  rcases h.2 with ⟨_, h0⟩ | ⟨g, cap, cur, rfl, _, _, h3, _⟩
  · omega
  · exact ⟨g, cap, rfl, h3⟩
theorem own_pre {w : World} {B g n cap : Nat} {es : List (List UInt8)} (h : w.ownsRow B 9 1 (.slice (some ⟨g, 0, none⟩) n cap) n (rv strKind es)) (m : Nat) (hm : m ≤ n) : w.ownsRow B 9 1 (.slice (some ⟨g, 0, none⟩) m cap) m (rv strKind (es.take m)) := by
  have hl := h.1
  rw [rv_length strKind_ok] at hl
  have hl2 : es.length = n := by simpa [strKind] using hl
  refine ⟨by rw [rv_length strKind_ok, List.length_take, Nat.min_eq_left (by omega)]; rfl, .inr ?_⟩
  rcases h.2 with ⟨h0, _⟩ | ⟨g', cap', cur, he, h1, h2, h3, h4, h5, h6⟩
  · cases h0
  · cases he
    refine ⟨g, cap, cur, rfl, h1, h2, by omega, h4, h5, ?_⟩
    have hsp : rv strKind es = rv strKind (es.take m) ++ rv strKind (es.drop m) := by rw [← rv_append, List.take_append_drop]
    have hlm : (rv strKind (es.take m)).length = m := by rw [rv_length strKind_ok, List.length_take, Nat.min_eq_left (by omega)]; simp [strKind]
    have h7 : cur.toList.take m = (cur.toList.take n).take m := by rw [List.take_take, Nat.min_eq_left hm]
    rw [Nat.mul_one] at h6 ⊢
    rw [h7, h6, hsp, List.take_left' hlm]
theorem one_text (w : World) (s : List UInt8) : RSrc strKind (w.alloc (.cells #[.string ⟨s.toArray⟩] 9)) (some ⟨w.heap.size, 0, none⟩) 1 1 [s] := by
  have h : (w.alloc (.cells #[.string ⟨s.toArray⟩] 9)).ownsRow w.heap.size 9 1 (.slice (some ⟨w.heap.size, 0, none⟩) 1 1) 1 (rv strKind [s]) := own_one (Nat.le_refl _)
  obtain ⟨ao, c, e, hr, _⟩ := RSrc.own strKind_ok h (fun _ _ => trivial)
  obtain ⟨e1, _, e3⟩ := Value.slice.inj e
  subst e1
  subst e3
  exact hr
theorem last_cells {w : World} {B g n cap : Nat} {l : List (List UInt8)} {a b : List UInt8} (h : w.ownsRow B 9 1 (.slice (some ⟨g, 0, none⟩) n cap) n (rv strKind (l ++ [a] ++ [b]))) (hl : (l ++ [a] ++ [b]).length = n) : w.cell? ⟨g, n - 2, none⟩ = some (.string ⟨a.toArray⟩) ∧ w.cell? ⟨g, n - 1, none⟩ = some (.string ⟨b.toArray⟩) := by
  obtain ⟨ao, c, e, hr, _⟩ := RSrc.own strKind_ok h (fun _ _ => trivial)
  obtain ⟨e1, _, e3⟩ := Value.slice.inj e
  subst e1
  subst e3
  have hl2 : l.length + 2 = n := by simpa using hl
  obtain ⟨b', off, he, _, hc⟩ := strs_at hr (by omega)
  cases he
  have h1 := hc (n - 2) a (by rw [show n - 2 = l.length by omega]; simp)
  have h2 := hc (n - 1) b (by rw [show n - 1 = l.length + 1 by omega]; simp)
  rw [Nat.zero_add] at h1 h2
  exact ⟨h1, h2⟩
/-- What stands at each jump. -/
def JI (w0 w' : World) (g cap n N : Nat) (es T : List (List UInt8)) : Prop :=
  w'.ownsRow w0.heap.size 9 1 (.slice (some ⟨g, 0, none⟩) n cap) n (rv strKind es) ∧ Below w0.heap.size w0 w' ∧ short es ∧ Mt.mrg nodeL N es = T ∧ es.length = n
theorem ones_le' : ∀ x, Mt.ones x ≤ x := by
  intro x
  induction x using Nat.strongRecOn with
  | _ x ih =>
    rcases Nat.eq_zero_or_pos x with h | h
    · subst h; exact Nat.le_refl _
    · rw [Mt.ones_pos h]
      have := ih (x / 2) (by omega)
      omega
set_option maxHeartbeats 4000000 in
set_option maxRecDepth 100000 in
theorem joined_any (w0 : World) (hL : Ld w0) (g cap n N : Nat) (es T : List (List UInt8)) (wr : World) (hN : n = Mt.ones N + 1) (hNm : N ≤ 1099511627776) (hcap : n ≤ cap) (hI : JI w0 wr g cap n N es T) :
    Calls Tryd.prog 31 #[.slice (some ⟨g, 0, none⟩) n cap, .int .i64 (N : Int)] wr fun e w' => ∃ v, e = .returned v ∧ w'.ownsRow w0.heap.size 9 1 v T.length (rv strKind T) ∧ Below w0.heap.size w0 w' := by
  obtain ⟨i0, hi, hz0, hz1, hz2⟩ := info_partsS infoS
  have HLd := keep hL
  have HI := keep hI
  have hle := ones_le' N
  clear hL hI
  go_enter Tryd.func31, Tryd.ntmps31
  go_wp2
  refine wp_scope_jumps 0 (fun a' w' => ∃ (N n g cap : Nat) (es : List (List UInt8)), (∃ u5 u6 u7 u8 u9 u10 u11 u12 u13 u14 u15 u16 u17 u18 u19 u20 u21 u22 u23 u24 u25 u26 u27 u28 u29 u30 u31 u32 : Value, a' = { tmps := #[.slice (some ⟨g, 0, none⟩) n cap, .int .i64 (N : Int), undef, undef, .slice none 0 0, u5, u6, u7, u8, u9, u10, u11, u12, u13, u14, u15, u16, u17, u18, u19, u20, u21, u22, u23, u24, u25, u26, u27, u28, u29, u30, u31, u32], defers := [] }) ∧ n = Mt.ones N + 1 ∧ N ≤ 1099511627776 ∧ n ≤ cap ∧ JI w0 w' g cap n N es T) (fun a' _ => (intOf (a'.tmps.getD 1 undef)).toNat) rfl ?_ ?_
  · go_wp2
    go_step3
    by_cases hodd : N % 2 = 1
    · have A1 : bits .and .i64 (N : Int) 1 = 1 := by rw [show (1 : Int) = ((1 : Nat) : Int) from rfl, and_i64 N 1 (by omega) (by decide), Nat.and_one_is_mod, hodd]
      have hN1 : 1 ≤ N := by omega
      have hon := Mt.ones_pos hN1
      have hhalf : (N : Int) / 2 = ((N / 2 : Nat) : Int) := by omega
      obtain ⟨N2, hN2⟩ : ∃ y, N / 2 = y := ⟨_, rfl⟩
      have HN2 := keep hN2
      have HODD := keep hodd
      rw [hN2] at hon hhalf
      rw [hodd] at hon
      have hlt : N2 < N := by omega
      obtain ⟨l, a, b, rfl, hl⟩ := two_last es (by rw [HI.out.2.2.2.2]; omega)
      obtain ⟨m, hm⟩ : ∃ m, n - 2 = m := ⟨_, rfl⟩
      obtain ⟨q, hq⟩ : ∃ q, n - 1 = q := ⟨_, rfl⟩
      have hlm : Hid (l.length = m) := by show _ = _; rw [hl, HI.out.2.2.2.2]; exact hm
      have CE := keep (last_cells HI.out.1 HI.out.2.2.2.2)
      rw [hm, hq] at CE
      have ca := CE.out.1
      have cb := CE.out.2
      clear CE
      have e1 : (n : Int) - 1 = (q : Int) := by omega
      have e2 : (q : Int) - 1 = (m : Int) := by omega
      have m0 : (0 : Int) ≤ (m : Int) := by omega
      have q0 : (0 : Int) ≤ (q : Int) := by omega
      have m1 : (m : Int) < (n : Int) := by omega
      have q1 : (q : Int) < (n : Int) := by omega
      have m2 : (m : Int) ≤ (cap : Int) := by omega
      have HM1 : Hid (Mt.ones N2 + 1 = m + 1) := by show _ = _; omega
      have hn2 : n ≤ 1099511627777 := by omega
      have m3 : (m : Int) ≤ 1099511627777 := by omega
      have q3 : (q : Int) ≤ 1099511627777 := by omega
      have hm8 : m ≤ 1099511627777 := by omega
      have sa := HI.out.2.2.1 a (by simp)
      have sb := HI.out.2.2.1 b (by simp)
      obtain ⟨X, hX⟩ : ∃ X, nodeL a b = X := ⟨_, rfl⟩
      have HX := keep hX
      have NN : Hid (∀ w', Below wr.heap.size wr w' → Calls Tryd.prog 34 #[.string ⟨a.toArray⟩, .string ⟨b.toArray⟩] w' fun e w'' => e = .returned (.string ⟨X.toArray⟩) ∧ Below w'.heap.size w' w'') := fun w' hb => by
        rw [← HX.out]
        exact node_any a b w' (by omega) (HLd.out.below (HI.out.2.1.trans (hb.mono HI.out.2.1.size)))
      have hn0 : 0 < n := by omega
      have hmn : m < n := by omega
      have mw : IntKind.i64.wrap (m : Int) = (m : Int) := wrap_i64 m (by omega)
      clear hX hodd hl hm hq hon hN2 sa sb hN hle
      go_wp2_with fail
      refine wp_region_held_drew (S := fun w' => Below wr.heap.size wr w') (by kernel_rfl) ((Below.refl wr.heap.size wr).drew) (fun hZ => ?_)
      refine takeH (i := 0) 13 (v := .slice (some ⟨g, 0, none⟩) n cap) rfl rfl (by kernel_rfl) (by kernel_rfl) (by kernel_rfl) (fun _ _ _ h => h) (Or.inl ⟨by rfl, ?_⟩) (by assumption) ?_
      · intro w' hSw'
        go_simp
      simp only [Act.put, List.setIfInBounds_toArray, List.set_cons_zero, List.set_cons_succ]
      refine takeH (i := 1) 14 (v := .int .i64 (q : Int)) rfl rfl (by kernel_rfl) (by kernel_rfl) (by kernel_rfl) (fun _ _ _ h => h) (Or.inl ⟨by rfl, ?_⟩) (by assumption) ?_
      · intro w' hSw'
        go_simp
      simp only [Act.put, List.setIfInBounds_toArray, List.set_cons_zero, List.set_cons_succ]
      refine takeH (i := 2) 15 (v := .int .i64 (m : Int)) rfl rfl (by kernel_rfl) (by kernel_rfl) (by kernel_rfl) (fun _ _ _ h => h) (Or.inl ⟨by rfl, ?_⟩) (by assumption) ?_
      · intro w' hSw'
        go_simp
      simp only [Act.put, List.setIfInBounds_toArray, List.set_cons_zero, List.set_cons_succ]
      refine takeH (i := 3) 16 (v := .pointer (some ⟨g, m, none⟩)) rfl rfl (by kernel_rfl) (by kernel_rfl) (by kernel_rfl) (fun _ _ _ h => h) (Or.inl ⟨by rfl, ?_⟩) (by assumption) ?_
      · intro w' hSw'
        go_simp
      simp only [Act.put, List.setIfInBounds_toArray, List.set_cons_zero, List.set_cons_succ]
      refine takeH (i := 4) 17 (v := .string ⟨a.toArray⟩) rfl rfl (by kernel_rfl) (by kernel_rfl) (by kernel_rfl) (fun _ _ _ h => h) (Or.inl ⟨by rfl, ?_⟩) (by assumption) ?_
      · intro w' hSw'
        have z0 := below_cell hSw' ca
        go_simp
      simp only [Act.put, List.setIfInBounds_toArray, List.set_cons_zero, List.set_cons_succ]
      refine takeH (i := 5) 18 (v := .slice (some ⟨g, 0, none⟩) n cap) rfl rfl (by kernel_rfl) (by kernel_rfl) (by kernel_rfl) (fun _ _ _ h => h) (Or.inl ⟨by rfl, ?_⟩) (by assumption) ?_
      · intro w' hSw'
        go_simp
      simp only [Act.put, List.setIfInBounds_toArray, List.set_cons_zero, List.set_cons_succ]
      refine takeH (i := 6) 19 (v := .int .i64 (q : Int)) rfl rfl (by kernel_rfl) (by kernel_rfl) (by kernel_rfl) (fun _ _ _ h => h) (Or.inl ⟨by rfl, ?_⟩) (by assumption) ?_
      · intro w' hSw'
        go_simp
      simp only [Act.put, List.setIfInBounds_toArray, List.set_cons_zero, List.set_cons_succ]
      refine takeH (i := 7) 20 (v := .pointer (some ⟨g, q, none⟩)) rfl rfl (by kernel_rfl) (by kernel_rfl) (by kernel_rfl) (fun _ _ _ h => h) (Or.inl ⟨by rfl, ?_⟩) (by assumption) ?_
      · intro w' hSw'
        go_simp
      simp only [Act.put, List.setIfInBounds_toArray, List.set_cons_zero, List.set_cons_succ]
      refine takeH (i := 8) 21 (v := .string ⟨b.toArray⟩) rfl rfl (by kernel_rfl) (by kernel_rfl) (by kernel_rfl) (fun _ _ _ h => h) (Or.inl ⟨by rfl, ?_⟩) (by assumption) ?_
      · intro w' hSw'
        have z0 := below_cell hSw' cb
        go_simp
      simp only [Act.put, List.setIfInBounds_toArray, List.set_cons_zero, List.set_cons_succ]
      refine wpAnyH_ready (rs := [9]) (by kernel_rfl) (by simp) ?_
      refine AllReadyH.cons rfl (fun K hK => ?_) AllReadyH.nil
      go_simp
      refine (NN.out _ (Below.refl wr.heap.size wr).drew).mono ?_
      rintro e w5 ⟨rfl, hb5⟩
      have b5 : Hid (Below wr.heap.size wr w5) := (Below.refl wr.heap.size wr).drew.trans (hb5.mono (Nat.le_refl _))
      clear hb5
      go_wp2_with fail
      refine hK.out _ _ (b5.out) (fun hZ1 => ?_)
      clear hK K
      refine takeH (i := 10) 6 (v := .string ⟨X.toArray⟩) rfl rfl (by kernel_rfl) (by kernel_rfl) (by kernel_rfl) (fun _ _ _ h => h) (Or.inl ⟨by rfl, ?_⟩) (by assumption) ?_
      · intro w' hSw'
        go_simp
      simp only [Act.put, List.setIfInBounds_toArray, List.set_cons_zero, List.set_cons_succ]
      refine wpAnyH_done (by kernel_rfl) ?_ _
      clear NN ca cb
      have O6 : Hid ((w5.alloc (.cells #[.string ⟨X.toArray⟩] 9)).ownsRow w0.heap.size 9 1 (.slice (some ⟨g, 0, none⟩) m cap) m (rv strKind l)) := by
        have h1 := own_pre HI.out.1 m (by omega)
        rw [List.append_assoc, List.take_left' hlm.out] at h1
        exact own_next (own_next h1 b5.out) ((Below.refl _ _).alloc (Nat.le_refl _) _)
      have R6 : Hid (RSrc strKind (w5.alloc (.cells #[.string ⟨X.toArray⟩] 9)) (some ⟨w5.heap.size, 0, none⟩) 1 1 [X]) := one_text w5 X
      have B6 : Hid (Below w0.heap.size w0 (w5.alloc (.cells #[.string ⟨X.toArray⟩] 9))) := (HI.out.2.1.trans (b5.out.mono HI.out.2.1.size)).alloc (HI.out.2.1.trans (b5.out.mono HI.out.2.1.size)).size _
      go_wp2_with (at_builtin; refine wpList_append_recsS rfl _ _ 22 rfl w0.heap.size i0 _ Tryd.underlying22 hi hz0 hz1 hz2 rfl _ m l rfl O6.out _ 1 1 [X] rfl R6.out (by omega) B6.out.size ?_; intro v7 w7 ho7 hg7; have B7 := keep (B6.out.grown hg7 B6.out.size (fun j hj => (O6.out.lt j hj).1)); obtain ⟨g7, c7, rfl, hc7⟩ := own_form ho7 (by omega); have O7 := keep ho7; clear ho7 hg7)
      go_step3
      have hJI : JI w0 w7 g7 c7 (m + 1) N2 (l ++ [X]) T := by
        refine ⟨O7.out, B7.out, ?_, ?_, by rw [List.length_append, hlm.out]; rfl⟩
        · intro e he
          rcases List.mem_append.1 he with he | he
          · exact HI.out.2.2.1 e (by simp [he])
          · rw [List.mem_singleton.1 he, ← HX.out, nodeL_len]; decide
        · rw [← HI.out.2.2.2.1, Mt.mrg_odd nodeL HODD.out, HN2.out, HX.out]
      have hmu : N2 < N := hlt
      exact ⟨rfl, N2, m + 1, g7, c7, l ++ [X], ⟨_, _, _, _, _, _, _, _, _, _, _, _, _, _, _, _, _, _, _, _, _, _, _, _, _, _, _, _, rfl⟩, HM1.out.symm, by omega, hc7, hJI⟩
    · have hz : N % 2 = 0 := by omega
      have A0 : bits .and .i64 (N : Int) 1 = 0 := by rw [show (1 : Int) = ((1 : Nat) : Int) from rfl, and_i64 N 1 (by omega) (by decide), Nat.and_one_is_mod, hz]; rfl
      have HODD := keep hodd
      have hn2 : n ≤ 1099511627777 := by omega
      clear hodd hz hN hle
      go_wp2
      simp only [Exit.jump]
      go_ret
      have h4 := HI.out.2.2.2.1
      rw [Mt.mrg_even nodeL HODD.out] at h4
      subst h4
      exact ⟨_, rfl, by rw [HI.out.2.2.2.2]; exact HI.out.1, HI.out.2.1⟩
  · clear HI hle hN hNm hcap n g cap N es wr
    rintro a' wr ⟨N, n, g, cap, es, ⟨u5, u6, u7, u8, u9, u10, u11, u12, u13, u14, u15, u16, u17, u18, u19, u20, u21, u22, u23, u24, u25, u26, u27, u28, u29, u30, u31, u32, rfl⟩, hN, hNm, hcap, hI⟩
    have HI := keep hI
    have hle := ones_le' N
    clear hI
    by_cases hodd : N % 2 = 1
    · have A1 : bits .and .i64 (N : Int) 1 = 1 := by rw [show (1 : Int) = ((1 : Nat) : Int) from rfl, and_i64 N 1 (by omega) (by decide), Nat.and_one_is_mod, hodd]
      have hN1 : 1 ≤ N := by omega
      have hon := Mt.ones_pos hN1
      have hhalf : (N : Int) / 2 = ((N / 2 : Nat) : Int) := by omega
      obtain ⟨N2, hN2⟩ : ∃ y, N / 2 = y := ⟨_, rfl⟩
      have HN2 := keep hN2
      have HODD := keep hodd
      rw [hN2] at hon hhalf
      rw [hodd] at hon
      have hlt : N2 < N := by omega
      obtain ⟨l, a, b, rfl, hl⟩ := two_last es (by rw [HI.out.2.2.2.2]; omega)
      obtain ⟨m, hm⟩ : ∃ m, n - 2 = m := ⟨_, rfl⟩
      obtain ⟨q, hq⟩ : ∃ q, n - 1 = q := ⟨_, rfl⟩
      have hlm : Hid (l.length = m) := by show _ = _; rw [hl, HI.out.2.2.2.2]; exact hm
      have CE := keep (last_cells HI.out.1 HI.out.2.2.2.2)
      rw [hm, hq] at CE
      have ca := CE.out.1
      have cb := CE.out.2
      clear CE
      have e1 : (n : Int) - 1 = (q : Int) := by omega
      have e2 : (q : Int) - 1 = (m : Int) := by omega
      have m0 : (0 : Int) ≤ (m : Int) := by omega
      have q0 : (0 : Int) ≤ (q : Int) := by omega
      have m1 : (m : Int) < (n : Int) := by omega
      have q1 : (q : Int) < (n : Int) := by omega
      have m2 : (m : Int) ≤ (cap : Int) := by omega
      have HM1 : Hid (Mt.ones N2 + 1 = m + 1) := by show _ = _; omega
      have hn2 : n ≤ 1099511627777 := by omega
      have m3 : (m : Int) ≤ 1099511627777 := by omega
      have q3 : (q : Int) ≤ 1099511627777 := by omega
      have hm8 : m ≤ 1099511627777 := by omega
      have sa := HI.out.2.2.1 a (by simp)
      have sb := HI.out.2.2.1 b (by simp)
      obtain ⟨X, hX⟩ : ∃ X, nodeL a b = X := ⟨_, rfl⟩
      have HX := keep hX
      have NN : Hid (∀ w', Below wr.heap.size wr w' → Calls Tryd.prog 34 #[.string ⟨a.toArray⟩, .string ⟨b.toArray⟩] w' fun e w'' => e = .returned (.string ⟨X.toArray⟩) ∧ Below w'.heap.size w' w'') := fun w' hb => by
        rw [← HX.out]
        exact node_any a b w' (by omega) (HLd.out.below (HI.out.2.1.trans (hb.mono HI.out.2.1.size)))
      have hn0 : 0 < n := by omega
      have hmn : m < n := by omega
      have mw : IntKind.i64.wrap (m : Int) = (m : Int) := wrap_i64 m (by omega)
      clear hX hodd hl hm hq hon hN2 sa sb hN hle
      go_wp2_with fail
      refine wp_region_held_drew (S := fun w' => Below wr.heap.size wr w') (by kernel_rfl) ((Below.refl wr.heap.size wr).drew) (fun hZ => ?_)
      refine takeH (i := 0) 13 (v := .slice (some ⟨g, 0, none⟩) n cap) rfl rfl (by kernel_rfl) (by kernel_rfl) (by kernel_rfl) (fun _ _ _ h => h) (Or.inl ⟨by rfl, ?_⟩) (by assumption) ?_
      · intro w' hSw'
        go_simp
      simp only [Act.put, List.setIfInBounds_toArray, List.set_cons_zero, List.set_cons_succ]
      refine takeH (i := 1) 14 (v := .int .i64 (q : Int)) rfl rfl (by kernel_rfl) (by kernel_rfl) (by kernel_rfl) (fun _ _ _ h => h) (Or.inl ⟨by rfl, ?_⟩) (by assumption) ?_
      · intro w' hSw'
        go_simp
      simp only [Act.put, List.setIfInBounds_toArray, List.set_cons_zero, List.set_cons_succ]
      refine takeH (i := 2) 15 (v := .int .i64 (m : Int)) rfl rfl (by kernel_rfl) (by kernel_rfl) (by kernel_rfl) (fun _ _ _ h => h) (Or.inl ⟨by rfl, ?_⟩) (by assumption) ?_
      · intro w' hSw'
        go_simp
      simp only [Act.put, List.setIfInBounds_toArray, List.set_cons_zero, List.set_cons_succ]
      refine takeH (i := 3) 16 (v := .pointer (some ⟨g, m, none⟩)) rfl rfl (by kernel_rfl) (by kernel_rfl) (by kernel_rfl) (fun _ _ _ h => h) (Or.inl ⟨by rfl, ?_⟩) (by assumption) ?_
      · intro w' hSw'
        go_simp
      simp only [Act.put, List.setIfInBounds_toArray, List.set_cons_zero, List.set_cons_succ]
      refine takeH (i := 4) 17 (v := .string ⟨a.toArray⟩) rfl rfl (by kernel_rfl) (by kernel_rfl) (by kernel_rfl) (fun _ _ _ h => h) (Or.inl ⟨by rfl, ?_⟩) (by assumption) ?_
      · intro w' hSw'
        have z0 := below_cell hSw' ca
        go_simp
      simp only [Act.put, List.setIfInBounds_toArray, List.set_cons_zero, List.set_cons_succ]
      refine takeH (i := 5) 18 (v := .slice (some ⟨g, 0, none⟩) n cap) rfl rfl (by kernel_rfl) (by kernel_rfl) (by kernel_rfl) (fun _ _ _ h => h) (Or.inl ⟨by rfl, ?_⟩) (by assumption) ?_
      · intro w' hSw'
        go_simp
      simp only [Act.put, List.setIfInBounds_toArray, List.set_cons_zero, List.set_cons_succ]
      refine takeH (i := 6) 19 (v := .int .i64 (q : Int)) rfl rfl (by kernel_rfl) (by kernel_rfl) (by kernel_rfl) (fun _ _ _ h => h) (Or.inl ⟨by rfl, ?_⟩) (by assumption) ?_
      · intro w' hSw'
        go_simp
      simp only [Act.put, List.setIfInBounds_toArray, List.set_cons_zero, List.set_cons_succ]
      refine takeH (i := 7) 20 (v := .pointer (some ⟨g, q, none⟩)) rfl rfl (by kernel_rfl) (by kernel_rfl) (by kernel_rfl) (fun _ _ _ h => h) (Or.inl ⟨by rfl, ?_⟩) (by assumption) ?_
      · intro w' hSw'
        go_simp
      simp only [Act.put, List.setIfInBounds_toArray, List.set_cons_zero, List.set_cons_succ]
      refine takeH (i := 8) 21 (v := .string ⟨b.toArray⟩) rfl rfl (by kernel_rfl) (by kernel_rfl) (by kernel_rfl) (fun _ _ _ h => h) (Or.inl ⟨by rfl, ?_⟩) (by assumption) ?_
      · intro w' hSw'
        have z0 := below_cell hSw' cb
        go_simp
      simp only [Act.put, List.setIfInBounds_toArray, List.set_cons_zero, List.set_cons_succ]
      refine wpAnyH_ready (rs := [9]) (by kernel_rfl) (by simp) ?_
      refine AllReadyH.cons rfl (fun K hK => ?_) AllReadyH.nil
      go_simp
      refine (NN.out _ (Below.refl wr.heap.size wr).drew).mono ?_
      rintro e w5 ⟨rfl, hb5⟩
      have b5 : Hid (Below wr.heap.size wr w5) := (Below.refl wr.heap.size wr).drew.trans (hb5.mono (Nat.le_refl _))
      clear hb5
      go_wp2_with fail
      refine hK.out _ _ (b5.out) (fun hZ1 => ?_)
      clear hK K
      refine takeH (i := 10) 6 (v := .string ⟨X.toArray⟩) rfl rfl (by kernel_rfl) (by kernel_rfl) (by kernel_rfl) (fun _ _ _ h => h) (Or.inl ⟨by rfl, ?_⟩) (by assumption) ?_
      · intro w' hSw'
        go_simp
      simp only [Act.put, List.setIfInBounds_toArray, List.set_cons_zero, List.set_cons_succ]
      refine wpAnyH_done (by kernel_rfl) ?_ _
      clear NN ca cb
      have O6 : Hid ((w5.alloc (.cells #[.string ⟨X.toArray⟩] 9)).ownsRow w0.heap.size 9 1 (.slice (some ⟨g, 0, none⟩) m cap) m (rv strKind l)) := by
        have h1 := own_pre HI.out.1 m (by omega)
        rw [List.append_assoc, List.take_left' hlm.out] at h1
        exact own_next (own_next h1 b5.out) ((Below.refl _ _).alloc (Nat.le_refl _) _)
      have R6 : Hid (RSrc strKind (w5.alloc (.cells #[.string ⟨X.toArray⟩] 9)) (some ⟨w5.heap.size, 0, none⟩) 1 1 [X]) := one_text w5 X
      have B6 : Hid (Below w0.heap.size w0 (w5.alloc (.cells #[.string ⟨X.toArray⟩] 9))) := (HI.out.2.1.trans (b5.out.mono HI.out.2.1.size)).alloc (HI.out.2.1.trans (b5.out.mono HI.out.2.1.size)).size _
      go_wp2_with (at_builtin; refine wpList_append_recsS rfl _ _ 22 rfl w0.heap.size i0 _ Tryd.underlying22 hi hz0 hz1 hz2 rfl _ m l rfl O6.out _ 1 1 [X] rfl R6.out (by omega) B6.out.size ?_; intro v7 w7 ho7 hg7; have B7 := keep (B6.out.grown hg7 B6.out.size (fun j hj => (O6.out.lt j hj).1)); obtain ⟨g7, c7, rfl, hc7⟩ := own_form ho7 (by omega); have O7 := keep ho7; clear ho7 hg7)
      go_step3
      have hJI : JI w0 w7 g7 c7 (m + 1) N2 (l ++ [X]) T := by
        refine ⟨O7.out, B7.out, ?_, ?_, by rw [List.length_append, hlm.out]; rfl⟩
        · intro e he
          rcases List.mem_append.1 he with he | he
          · exact HI.out.2.2.1 e (by simp [he])
          · rw [List.mem_singleton.1 he, ← HX.out, nodeL_len]; decide
        · rw [← HI.out.2.2.2.1, Mt.mrg_odd nodeL HODD.out, HN2.out, HX.out]
      have hmu : N2 < N := hlt
      refine ⟨rfl, ⟨N2, m + 1, g7, c7, l ++ [X], ⟨_, _, _, _, _, _, _, _, _, _, _, _, _, _, _, _, _, _, _, _, _, _, _, _, _, _, _, _, rfl⟩, HM1.out.symm, by omega, hc7, hJI⟩, ?_⟩
      simp [intOf]
      omega
    · have hz : N % 2 = 0 := by omega
      have A0 : bits .and .i64 (N : Int) 1 = 0 := by rw [show (1 : Int) = ((1 : Nat) : Int) from rfl, and_i64 N 1 (by omega) (by decide), Nat.and_one_is_mod, hz]; rfl
      have HODD := keep hodd
      have hn2 : n ≤ 1099511627777 := by omega
      clear hodd hz hN hle
      go_wp2
      simp only [Exit.jump]
      go_ret
      have h4 := HI.out.2.2.2.1
      rw [Mt.mrg_even nodeL HODD.out] at h4
      subst h4
      exact ⟨_, rfl, by rw [HI.out.2.2.2.2]; exact HI.out.1, HI.out.2.1⟩
end Go.Proofs.YtkepjjkiajkdmaaDoor
