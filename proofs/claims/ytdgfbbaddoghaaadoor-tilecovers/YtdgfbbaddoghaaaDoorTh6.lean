/- The walk of the program's ProofNodes. -/
import Derived.Test.YtdgfbbaddoghaaaDoorJoinTv
import Derived.Test.YtdgfbbaddoghaaaDoorJoinTh5
namespace Go.Proofs.YtdgfbbaddoghaaaDoor
open Go.RowKit
open Mt (Pos)

set_option maxHeartbeats 400000 in
set_option maxRecDepth 100000 in
theorem proofnodes_bad (m n : Int) (w : World) (h : m < 1 ∨ n < m ∨ 1099511627776 < n) : Calls Tryd.prog 13 #[.int .i64 m, .int .i64 n] w (RowsA 41 36 w [] 8) := by
  obtain ⟨W1, hW1⟩ : ∃ Wn, w.alloc (.cells #[.int .i64 m] 3) = Wn := ⟨_, rfl⟩
  have b1 : Hid (Below w.heap.size w W1) := by rw [← hW1]; exact (Below.refl _ _).alloc (Nat.le_refl _) _
  have c1 : W1.cell? ⟨w.heap.size, 0, none⟩ = some (.int .i64 m) := by rw [← hW1]; exact cell_of_row _ _ _ _ _ _ (heap_alloc_new w _)
  go_enter Tryd.func13, Tryd.ntmps13
  by_cases h1 : m < 1
  · go_wp2
    go_ret2
    exact RowsA.noneP b1.out
  by_cases h2 : n < m
  · go_wp2
    go_ret2
    exact RowsA.noneP b1.out
  · have h4 : 1099511627776 < n := by omega
    go_wp2
    go_ret2
    exact RowsA.noneP b1.out
theorem way_some {E : Nat → Nat → Bool} {i a b : Nat} (hE : ∀ a, a ≤ i → i < a + 1 → E a (a + 1) = true) (ha : a ≤ i) (hb : i < b) (h : (Mt.way E i a b).2 ≠ a) : 1 ≤ (Mt.way E i a b).1.length := by
  cases hee : E a b with
  | true => rw [Mt.way_end hee] at h; exact absurd rfl h
  | false =>
    have h2 : 2 ≤ b - a := by
      rcases Nat.lt_or_ge (b - a) 2 with h | h
      · have : b = a + 1 := by omega
        subst this
        rw [hE a ha (by omega)] at hee
        cases hee
      · exact h
    by_cases hi : i < a + Mt.cut (b - a)
    · rw [Mt.way_left hee h2 hi, List.length_append]; simp
    · rw [Mt.way_right hee h2 hi, List.length_append]; simp
set_option maxHeartbeats 1000000 in
set_option maxRecDepth 100000 in
theorem proofnodes_any (m n : Nat) (w : World) (h1 : 1 ≤ m) (hmn : m ≤ n) (hn : n ≤ 1099511627776) : Calls Tryd.prog 13 #[.int .i64 (m : Int), .int .i64 (n : Int)] w (RowsA 41 36 w (subN m true 0 n) 0) := by
  obtain ⟨W1, hW1⟩ : ∃ Wn, w.alloc (.cells #[.int .i64 (m : Int)] 3) = Wn := ⟨_, rfl⟩
  have b1 : Hid (Below w.heap.size w W1) := by rw [← hW1]; exact (Below.refl _ _).alloc (Nat.le_refl _) _
  have s1 : Hid (W1.heap.size = w.heap.size + 1) := by show _ = _; rw [← hW1, alloc_size]
  have c1 : W1.cell? ⟨w.heap.size, 0, none⟩ = some (.int .i64 (m : Int)) := by rw [← hW1]; exact cell_of_row _ _ _ _ _ _ (heap_alloc_new w _)
  have PA := keep (beside_any 28 #[.pointer (some ⟨w.heap.size, 0, none⟩)] (Mt.endE m) (m - 1) n W1 (by omega) hn enterQ (fun a h2 h3 => Mt.endE_one h1 a h2 h3) (fun a b w' _ _ hb => endQ w.heap.size m a b w' (below_cell hb c1)))
  have WI := Mt.way_in (E := Mt.endE m) (i := m - 1) (fun a h2 h3 => Mt.endE_one h1 a h2 h3) n 0 n (by omega) (Nat.zero_le _) (by omega)
  have WS := way_some (E := Mt.endE m) (i := m - 1) (a := 0) (b := n) (fun a h2 h3 => Mt.endE_one h1 a h2 h3) (Nat.zero_le _) (by omega)
  have hSub : subN m true 0 n = (if (Mt.way (Mt.endE m) (m - 1) 0 n).2 = 0 then [] else [Mt.cov (Mt.way (Mt.endE m) (m - 1) 0 n).2 m]) ++ wayN (Mt.way (Mt.endE m) (m - 1) 0 n).1 := by
    unfold subN
    simp only [Bool.true_and, decide_eq_true_eq]
  rw [hSub]
  obtain ⟨⟨L, en⟩, hL⟩ : ∃ L, Mt.way (Mt.endE m) (m - 1) 0 n = L := ⟨_, rfl⟩
  rw [hL] at PA WI WS ⊢
  simp only at PA WI WS ⊢
  have hLl := Nat.le_trans WI.2.2.2 (lv_40 hn)
  have hen := WI.2.2.1
  have m1 : (m : Int) - 1 = ((m - 1 : Nat) : Int) := by omega
  have ND := keep (fun w' => nodes_any en m w' (by omega) (by omega))
  have m0 : ¬ (m : Int) < 1 := by omega
  have m2 : ¬ (n : Int) < (m : Int) := by omega
  have m3 : ¬ (1099511627776 : Int) < (n : Int) := by omega
  obtain ⟨q, hq⟩ : ∃ q, m - 1 = q := ⟨_, rfl⟩
  rw [hq] at PA m1 hen
  have q0 : (0 : Int) ≤ (q : Int) := by omega
  have q1 : (q : Int) ≤ 1099511627776 := by omega
  obtain ⟨P, hP⟩ : ∃ P, wayN L = P := ⟨_, rfl⟩
  have hPl : P.length = L.length := by rw [← hP, wayN_len]
  rw [hP] at PA ⊢
  by_cases he : en = 0
  · rw [if_pos he, List.nil_append]
    subst he
    clear hSub hL WI WS hLl hen ND hq hP hPl hmn hn h1
    go_enter Tryd.func13, Tryd.ntmps13
    go_wp2_with fail
    refine PA.out.mono ?_
    rintro e w2 ⟨v, rfl, hr, hb⟩
    have R := keep (hr.low b1.out.size)
    have B := keep (b1.out.trans (hb.mono b1.out.size))
    obtain ⟨p, c, _, e7, _, _, _⟩ := hr.src
    subst e7
    clear hr hb PA c1 hW1
    go_wp2
    go_ret2
    exact ⟨_, rfl, R.out, B.out⟩
  · rw [if_neg he]
    have hP1 : 1 ≤ P.length := by rw [hPl]; exact WS he
    have hP2 : P.length ≤ 100 := by omega
    have e0 : (0 : Int) < (en : Int) := by omega
    have e1 : (en : Int) ≤ 1099511627776 := by omega
    obtain ⟨C, hC⟩ : ∃ C, Mt.cov en m = C := ⟨_, rfl⟩
    rw [hC] at ND ⊢
    obtain ⟨N, hN⟩ : ∃ N, P.length = N := ⟨_, rfl⟩
    have HN := keep hN
    rw [hN] at hP1 hP2
    have HN1 := keep hP1
    have HN2 := keep hP2
    clear hSub hL WI WS hLl hen hq hP hPl hmn hn h1 he hC hN hP1 hP2
    go_enter Tryd.func13, Tryd.ntmps13
    go_wp2_with fail
    refine PA.out.mono ?_
    rintro e w2 ⟨v, rfl, hr, hb⟩
    obtain ⟨xs, hxs, ho, hh⟩ := hr.is
    rw [HN.out] at ho
    obtain ⟨g, cap, rfl, hg2, _⟩ := own_some ho HN1.out
    have HXS := keep hxs
    have HO := keep (own_low ho b1.out.size)
    have HH := keep hh
    have HG := keep hg2
    have B2 := keep (b1.out.trans (hb.mono b1.out.size))
    have c2 := below_cell hb c1
    clear hr hxs ho hh hg2 hb PA c1 hW1
    go_wp2_with fail
    refine (ND.out w2).mono ?_
    rintro e w3 ⟨v3, rfl, ho3, hb3⟩
    obtain ⟨p3, c3, rfl⟩ := own_is ho3
    have O3 := keep (own_low ho3 (Nat.zero_le _))
    have B3 := keep hb3
    have B13 := keep (B2.out.trans (hb3.mono B2.out.size))
    clear ho3 hb3 ND c2
    have bb := keep ((Below.refl w3.heap.size w3).alloc (Nat.le_refl _) (.cells #[.slice p3 C.length c3] 36))
    have O4 : Hid ((w3.alloc (.cells #[.slice p3 C.length c3] 36)).ownsRow w.heap.size 36 1 (.slice (some ⟨g, 0, none⟩) N cap) N (rv (rowKind 41) xs)) := own_next (own_next HO.out B3.out) bb.out
    have IA := keep (insert_any w.heap.size g N cap w3.heap.size (rv (rowKind 41) xs) (.slice p3 C.length c3) (w3.alloc (.cells #[.slice p3 C.length c3] 36)) O4.out HN1.out HN2.out (heap_alloc_new w3 _) (by have := HG.out; have := B3.out.size; omega) rfl (fun x hx => rv_one (rowKind_ok 41) xs x hx))
    go_wp2_with fail
    refine IA.out.mono ?_
    rintro e w5 ⟨v5, rfl, ho5, hg5⟩
    obtain ⟨p5, c5, rfl⟩ := own_is ho5
    have R5 : Hid (RowsV 41 36 w5 w.heap.size (.slice p5 (N + 1) c5) ([C] ++ P)) := ⟨⟨p3, c3, C⟩ :: xs, by rw [List.map_cons, HXS.out]; rfl, by
      have e1 : ([C] ++ P).length = N + 1 := by rw [List.length_append, HN.out]; simp; omega
      rw [e1]
      exact ho5, fun x hx => by
      rcases List.mem_cons.1 hx with rfl | hx
      · exact own_grown (by decide) (own_next O3.out bb.out) O4.out hg5
      · exact own_grown (by decide) (own_next (own_next (HH.out x hx) B3.out) bb.out) O4.out hg5⟩
    have B5 : Hid (Below w.heap.size w w5) := (B13.out.alloc B13.out.size _).grown hg5 (le_alloc B13.out.size _) (fun k hk => (O4.out.lt k hk).1)
    clear ho5 hg5 IA
    go_wp2
    go_ret2
    exact ⟨_, rfl, R5.out, B5.out⟩
end Go.Proofs.YtdgfbbaddoghaaaDoor
