/- The walks of the two ends, of beside. -/
import Derived.Test.YtdgfbbaddoghaaaTh2
import Derived.Test.YtdgfbbaddoghaaaTw
import Derived.Deep.LoopGhost
import Derived.BigQuiet
namespace Go.Proofs.Ytdgfbbaddoghaaa
open Go.RowKit
open Mt (Pos)

theorem enterP (args : Array Value) (w : World) : (callFunc 22 args).run Try.prog w = .ok (.enter 22 args) w := by
  simp [callFunc, Try.func22]
  rfl
theorem enterQ (args : Array Value) (w : World) : (callFunc 24 args).run Try.prog w = .ok (.enter 24 args) w := by
  simp [callFunc, Try.func24]
  rfl
set_option maxHeartbeats 1000000 in
set_option maxRecDepth 100000 in
theorem endP (a b : Nat) (w : World) (hab : a < b) (hb : b ≤ 1099511627776) :
    Calls Try.prog 22 (#[.int .i64 (a : Int), .int .i64 (b : Int)] ++ #[]) w fun e w' => e = .returned (.bool (Mt.leafE a b)) ∧ w' = w := by
  have e1 : (b : Int) - (a : Int) = ((b - a : Nat) : Int) := by omega
  have h0 : (0 : Int) ≤ ((b - a : Nat) : Int) := by omega
  have h1 : ((b - a : Nat) : Int) ≤ 1099511627776 := by omega
  have hl : Mt.leafE a b = decide (((b - a : Nat) : Int) = 1) := by
    unfold Mt.leafE
    by_cases h : b - a = 1
    · rw [decide_eq_true h, decide_eq_true (by omega)]
    · rw [decide_eq_false h, decide_eq_false (by omega)]
  rw [hl]
  obtain ⟨x, hx⟩ : ∃ x, b - a = x := ⟨_, rfl⟩
  rw [hx] at e1 h0 h1 ⊢
  clear hl hx
  simp only [Array.append_empty]
  go_enter Try.func22, Try.ntmps22
  go_wp2
  go_ret
  exact ⟨rfl, rfl⟩
set_option maxHeartbeats 1000000 in
set_option maxRecDepth 100000 in
theorem endQ (q m a b : Nat) (w : World) (hq : w.cell? ⟨q, 0, none⟩ = some (.int .i64 (m : Int))) :
    Calls Try.prog 24 (#[.int .i64 (a : Int), .int .i64 (b : Int)] ++ #[.pointer (some ⟨q, 0, none⟩)]) w fun e w' => e = .returned (.bool (Mt.endE m a b)) ∧ w' = w := by
  have hl : Mt.endE m a b = decide ((b : Int) = (m : Int)) := by
    unfold Mt.endE
    by_cases h : b = m
    · rw [decide_eq_true h, decide_eq_true (by omega)]
    · rw [decide_eq_false h, decide_eq_false (by omega)]
  rw [hl]
  clear hl
  simp only [List.append_toArray, List.cons_append, List.nil_append]
  go_enter Try.func24, Try.ntmps24
  go_wp2
  go_ret
  exact ⟨rfl, rfl⟩
/-- The rows so far, the way from here on. -/
structure BsI (E : Nat → Nat → Bool) (i n : Nat) (w0 wr : World) (a b : Nat) (v : Value) (S : List Mt.Sd) : Prop where
  at' : Bs w0.heap.size i w0 wr a b
  ai : a ≤ i
  ib : i < b
  bn : b ≤ n
  way : Mt.way E i 0 n = ((Mt.way E i a b).1 ++ S, (Mt.way E i a b).2)
  row : RowsV 45 23 wr (w0.heap.size + 3) v (wayN S).reverse
theorem BsI.len {E : Nat → Nat → Bool} {i n : Nat} {w0 wr : World} {a b : Nat} {v : Value} {S : List Mt.Sd} (h : BsI E i n w0 wr a b v S) (hE1 : ∀ a, a ≤ i → i < a + 1 → E a (a + 1) = true) (hi : i < n) (hn : n ≤ 1099511627776) : (Mt.way E i a b).1.length + S.length ≤ 40 := by
  have h1 := (Mt.way_in (E := E) (i := i) hE1 n 0 n (by omega) (Nat.zero_le _) hi).2.2.2
  have h2 := lv_40 hn
  rw [h.way, List.length_append] at h1
  omega
theorem rv_rev {T : TypeId} (xs : List PV) : rv (rowKind T) xs.reverse = (rv (rowKind T) xs).reverse := by
  induction xs with
  | nil => rfl
  | cons x t ih =>
    rw [List.reverse_cons, rv_append, ih]
    show _ = ([Value.slice x.p x.ps.length x.c] ++ rv (rowKind T) t).reverse
    rw [List.reverse_append]
    rfl
set_option maxHeartbeats 400000 in
set_option maxRecDepth 100000 in
theorem reverse_nil (w : World) : Calls Try.prog 29 #[.slice none 0 0] w fun e w' => e = .returned (.tuple #[]) ∧ w' = w := by
  go_enter Try.func29, Try.ntmps29
  go_wp2
  go_loopw [2, 3] (fun i j wr => i = .int .i64 0 ∧ j = .int .i64 (-1) ∧ wr = w) (fun i _ _ => 0)
  case atStart => exact ⟨rfl, rfl, rfl⟩
  case round =>
    obtain ⟨rfl, rfl, rfl⟩ := hrel
    go_wp2
    go_end0
    exact ⟨rfl, rfl⟩
set_option maxHeartbeats 1000000 in
set_option maxRecDepth 100000 in
theorem beside_any (F : Nat) (lb : Array Value) (E : Nat → Nat → Bool) (i n : Nat) (w : World) (hi : i < n) (hn : n ≤ 1099511627776) (hF : ∀ (args : Array Value) (w : World), (callFunc F args).run Try.prog w = .ok (.enter F args) w) (hE1 : ∀ a, a ≤ i → i < a + 1 → E a (a + 1) = true)
    (hEc : ∀ (a b : Nat) (w' : World), a < b → b ≤ 1099511627776 → Below w.heap.size w w' → Calls Try.prog F (#[.int .i64 (a : Int), .int .i64 (b : Int)] ++ lb) w' fun e w'' => e = .returned (.bool (E a b)) ∧ w'' = w') :
    Calls Try.prog 21 #[.int .i64 (i : Int), .int .i64 (n : Int), .func (.func F) #[] lb] w fun e w' =>
      ∃ v, e = .returned (.tuple #[v, .int .i64 ((Mt.way E i 0 n).2 : Int)]) ∧ RowsV 45 23 w' w.heap.size v (wayN (Mt.way E i 0 n).1) ∧ Below w.heap.size w w' := by
  obtain ⟨i0, hi0, hz0, hz1, hz2⟩ := info_partsS infoPP
  have HF := keep hF
  have HE1 := keep hE1
  have HEC := keep hEc
  have HIN := keep hi
  have HNN := keep hn
  clear hF hE1 hEc
  obtain ⟨H, hH⟩ : ∃ H, w.heap.size = H := ⟨_, rfl⟩
  obtain ⟨W1, hW1⟩ : ∃ Wn, w.alloc (.cells #[.int .i64 (i : Int)] 3) = Wn := ⟨_, rfl⟩
  have b1 : Below w.heap.size w W1 := by rw [← hW1]; exact (Below.refl _ _).alloc (Nat.le_refl _) _
  have s1 : W1.heap.size = H + 1 := by rw [← hW1, alloc_size, hH]
  have g1 : W1.heap[H]? = some (.cells #[.int .i64 (i : Int)] 3) := by rw [← hW1, ← hH]; exact heap_alloc_new w _
  obtain ⟨W2, hW2⟩ : ∃ Wn, W1.alloc (.cells #[.int .i64 0] 3) = Wn := ⟨_, rfl⟩
  have b2 : Below W1.heap.size W1 W2 := by rw [← hW2]; exact (Below.refl _ _).alloc (Nat.le_refl _) _
  have s2 : W2.heap.size = H + 1 + 1 := by rw [← hW2, alloc_size, s1]
  have g2 : W2.heap[H + 1]? = some (.cells #[.int .i64 0] 3) := by rw [← hW2, ← s1]; exact heap_alloc_new W1 _
  obtain ⟨W3, hW3⟩ : ∃ Wn, W2.alloc (.cells #[.int .i64 0] 3) = Wn := ⟨_, rfl⟩
  have b3 : Below W2.heap.size W2 W3 := by rw [← hW3]; exact (Below.refl _ _).alloc (Nat.le_refl _) _
  have s3 : W3.heap.size = H + 1 + 1 + 1 := by rw [← hW3, alloc_size, s2]
  have g3 : W3.heap[H + 1 + 1]? = some (.cells #[.int .i64 0] 3) := by rw [← hW3, ← s2]; exact heap_alloc_new W2 _
  have k2 : W3.heap[H + 1]? = some (.cells #[.int .i64 0] 3) := (b3.block _ (by omega)).trans g2
  have c2 : W3.cell? ⟨H + 1, 0, none⟩ = some (.int .i64 0) := cell_of_row _ _ _ _ _ _ k2
  have c3 : W3.cell? ⟨H + 1 + 1, 0, none⟩ = some (.int .i64 0) := cell_of_row _ _ _ _ _ _ g3
  have f2 : W3.frozen? ⟨H + 1, 0, none⟩ = false := by simp [World.frozen?, k2]
  have f3 : W3.frozen? ⟨H + 1 + 1, 0, none⟩ = false := by simp [World.frozen?, g3]
  clear hn hi
  go_enter Try.func21, Try.ntmps21
  go_wp2_with fail
  obtain ⟨W5, hW5⟩ : ∃ Wn, (W3.setCell ⟨H + 1, 0, none⟩ (.int .i64 0)).setCell ⟨H + 1 + 1, 0, none⟩ (.int .i64 (n : Int)) = Wn := ⟨_, rfl⟩
  rw [hW5]
  have I0 : Hid (BsI E i n w W5 0 n (.slice none 0 0) []) := by
    have B3 : Bs H i w W3 0 0 := by
      refine ⟨by omega, ?_, k2, g3, ?_⟩
      · exact (b3.block _ (by omega)).trans ((b2.block _ (by omega)).trans g1)
      · rw [← hH]; exact b1.trans ((b2.trans (b3.mono b2.size)).mono b1.size)
    refine ⟨?_, Nat.zero_le _, HIN.out, Nat.le_refl _, by rw [List.append_nil], RowsV.nil⟩
    rw [hH, ← hW5]
    exact (B3.setA 0).setB n
  clear b1 s1 g1 b2 s2 g2 b3 s3 g3 k2 c2 c3 f2 f3 hW1 hW2 hW3 hW5
  go_loopg [11] n (fun m v wr => ∃ (a b : Nat) (S : List Mt.Sd), b - a ≤ m ∧ Hid (BsI E i n w wr a b v S))
  case atStart => exact ⟨0, n, [], by omega, I0⟩
  case round =>
    clear I0
    obtain ⟨a, b, S, hm, hI⟩ := hrel
    have AT := keep hI.out.at'
    rw [hH] at AT
    obtain ⟨x0, x1, x2, _, _⟩ := AT.out.cells
    have x1 : wr.cell? ⟨H + 1 + 1, 0, none⟩ = some (.int .i64 (b : Int)) := x1
    have hai := hI.out.ai
    have hib := hI.out.ib
    have hbn := Nat.le_trans hI.out.bn HNN.out
    have EC := keep (HEC.out a b wr (by omega) hbn (by rw [hH]; exact AT.out.low))
    have HS := keep (hI.out.len HE1.out HIN.out HNN.out)
    cases hee : E a b with
    | true =>
      rw [hee] at EC
      have HW : Hid (Mt.way E i 0 n = (S, a)) := by
        have hw := hI.out.way
        rw [Mt.way_end hee, List.nil_append] at hw
        exact hw
      have HSL : Hid (S.length ≤ 40) := by
        have := HS.out
        rw [Mt.way_end hee] at this
        simp only [List.length_nil] at this
        show _ ≤ _
        omega
      obtain ⟨xs, hxs, ho, hh⟩ := hI.out.row.is
      rw [hH] at ho
      have hSb := HS.out
      have hxl : xs.length = (wayN S).reverse.length := by rw [← hxs, List.length_map]
      have a1 : (a : Int) ≤ 1099511627776 := by omega
      obtain ⟨N, hN⟩ : ∃ N, (wayN S).reverse.length = N := ⟨_, rfl⟩
      rw [hN] at ho
      rcases ho.2 with ⟨rfl, h0⟩ | ⟨g, cap, cur, rfl, hg, hgg, r⟩
      · have HS0 : Hid (S = []) := by
          rw [← hN, List.length_reverse, wayN_len] at h0
          exact List.length_eq_zero_iff.1 h0
        clear hI hee hm hai hib hbn HS hxs ho hh hSb hxl h0 hN
        go_wp2_with fail
        rw [HF.out, Oper.upon_enter]
        refine EC.out.mono ?_
        rintro e w1 ⟨rfl, rfl⟩
        go_wp2_with fail
        refine (reverse_nil w1).mono ?_
        rintro e w2 ⟨rfl, rfl⟩
        go_wp2_with fail
        go_region
        go_wp2
        go_ret2
        refine ⟨.slice none 0 0, ?_, ?_, by rw [hH]; exact AT.out.low.drew⟩
        · first | (rw [HW.out]; done) | (rw [HW.out]; rfl)
        · rw [HW.out, HS0.out]
          exact RowsV.nil
      · have hNl : N ≤ 100 := by rw [← hN, List.length_reverse, wayN_len]; have := HSL.out; omega
        have RV := keep (reverse_any (H + 3) g N cap (rv (rowKind 45) xs) wr ho (fun u hu => by
          obtain ⟨j, hj⟩ := List.getElem?_of_mem hu
          obtain ⟨q, r, e, _, hr, _, hv⟩ := rv_get (rowKind_ok 45) hj
          have hr0 : r = 0 := by have : (rowKind 45).size = 1 := rfl; omega
          subst hr0
          simp only [rowKind, List.getElem?_cons_zero, Option.some.injEq] at hv
          exact ⟨_, _, _, hv.symm⟩) hNl)
        have HO := keep ho
        have HH := keep hh
        have HXS := keep hxs
        have HN := keep hN
        clear hI hee hm hai hib hbn HS hxs ho hh hSb hxl r hgg hN hNl
        go_wp2_with fail
        rw [HF.out, Oper.upon_enter]
        refine EC.out.mono ?_
        rintro e w1 ⟨rfl, rfl⟩
        go_wp2_with fail
        refine RV.out.mono ?_
        rintro e w2 ⟨rfl, ho2, hg2⟩
        have O2 := keep ho2
        have B2 : Hid (Below (H + 3) w1 w2) := (Below.refl (H + 3) w1).grown hg2 AT.out.sz (fun k hk => by cases hk; exact hg)
        have R2 : Hid (RowsV 45 23 w2 (H + 3) (.slice (some ⟨g, 0, none⟩) N cap) (wayN S)) :=
          ⟨xs.reverse, by rw [List.map_reverse, HXS.out, List.reverse_reverse], by
            have e1 : (wayN S).length = N := by rw [← HN.out, List.length_reverse]
            rw [e1, rv_rev]
            exact O2.out, fun x hx => own_grown (by decide) (HH.out x (List.mem_reverse.1 hx)) HO.out hg2⟩
        have L2 : Hid (Below H w w2) := AT.out.low.trans (B2.out.mono (by omega))
        have z0 := (AT.out.below B2.out).cells.1
        clear ho2 hg2 RV x0 x1 x2
        go_wp2_with fail
        go_region
        go_wp2
        go_ret2
        refine ⟨.slice (some ⟨g, 0, none⟩) N cap, ?_, ?_, by rw [hH]; exact L2.out.drew⟩
        · first | (rw [HW.out]; done) | (rw [HW.out]; rfl)
        · rw [HW.out]
          rw [hH]
          exact (R2.out.low (by omega)).next (Below.refl _ _).drew
    | false =>
      rw [hee] at EC
      have h2 : 2 ≤ b - a := by
        rcases Nat.lt_or_ge (b - a) 2 with h | h
        · have : b = a + 1 := by omega
          subst this
          rw [HE1.out a hai (by omega)] at hee
          cases hee
        · exact h
      have hlt := Mt.cut_lt h2
      have hpo := Mt.cut_pos (b - a)
      have OA := keep (other_any H i w wr a b AT.out h2 hbn)
      have RR := keep hI.out.row
      rw [hH] at RR
      obtain ⟨Q, hQ⟩ : ∃ Q, (wayN S).reverse = Q := ⟨_, rfl⟩
      rw [hQ] at RR
      obtain ⟨p, c, _, e5, _, _, _⟩ := RR.out.src
      subst e5
      have PL : Hid (Q.length + 1 ≤ 1000) := by have := HS.out; show _ ≤ _; rw [← hQ, List.length_reverse, wayN_len]; omega
      by_cases hi : i < a + Mt.cut (b - a)
      · have NX : Hid (∀ wr' v', Bs H i w wr' a (a + Mt.cut (b - a)) → RowsV 45 23 wr' (H + 3) v' (Q ++ [Mt.cov (a + Mt.cut (b - a)) b]) → BsI E i n w wr' a (a + Mt.cut (b - a)) v' (⟨a + Mt.cut (b - a), b, false⟩ :: S)) := fun wr' v' hB hR => by
          have hw := hI.out.way
          rw [Mt.way_left hee h2 hi] at hw
          refine ⟨by rw [hH]; exact hB, hai, hi, by have := hI.out.bn; omega, by rw [hw, List.append_assoc]; rfl, ?_⟩
          rw [hH]
          have e : (wayN (⟨a + Mt.cut (b - a), b, false⟩ :: S)).reverse = Q ++ [Mt.cov (a + Mt.cut (b - a)) b] := by rw [← hQ]; unfold wayN; rw [List.map_cons, List.reverse_cons]
          rw [e]
          exact hR
        have OB : Hid (Calls Try.prog 28 #[.pointer (some ⟨H + 1, 0, none⟩), .pointer (some ⟨H + 1 + 1, 0, none⟩), .pointer (some ⟨H, 0, none⟩)] wr (OthA H i w wr a (a + Mt.cut (b - a)) (Mt.cov (a + Mt.cut (b - a)) b))) := OA.out.mono (fun e w' h => by rw [if_pos hi] at h; exact h)
        obtain ⟨k, hk⟩ : ∃ k, Mt.cut (b - a) = k := ⟨_, rfl⟩
        rw [hk] at hlt hpo NX OB
        obtain ⟨C, hC⟩ : ∃ C, Mt.cov (a + k) b = C := ⟨_, rfl⟩
        rw [hC] at NX OB
        have HM := keep hm
        have HK : Hid (a + k - a < b - a) := by show _ < _; omega
        clear hI hee hm hai hib hbn HS hi h2 hlt hpo hk hC hQ OA
        go_wp2_with fail
        rw [HF.out, Oper.upon_enter]
        refine EC.out.mono ?_
        rintro e w1 ⟨rfl, rfl⟩
        go_wp2_with fail
        refine OB.out.mono ?_
        rintro e w3 ⟨v3, rfl, ho3, hB3, hk3⟩
        obtain ⟨p3, c3, rfl⟩ := own_is ho3
        have O3 := keep (own_low ho3 (Nat.zero_le _))
        have D3 := keep hB3
        have R3 := keep (hk3.rows (by decide) (by decide) RR.out)
        clear ho3 hB3 hk3 x0 x1 x2 OB RR
        have c4 : Hid ((w3.alloc (.cells #[.slice p3 C.length c3] 23)).cell? (Addr.add ⟨w3.heap.size, 0, none⟩ 0) = some (.slice p3 C.length c3)) := cell_of_row _ _ _ _ _ _ (heap_alloc_new w3 _)
        go_wp2_with (at_builtin; go_loud (refine wpList_append_row rfl _ _ 34 45 23 (by decide) rfl (H + 3) i0 Try.underlying34 hi0 hz0 hz1 hz2 w3 _ Q rfl R3.out ⟨p3, c3, C⟩ O3.out ((Below.refl _ _).alloc (Nat.le_refl _) _) _ rfl c4.out PL.out (le_alloc D3.out.sz _) ?_); intro v7 w7 hr7 hb7; have R7 := keep hr7; have B7 := keep hb7; clear hr7 hb7)
        have D7 := keep ((D3.out.mono ((Below.refl _ _).alloc (Nat.le_refl _) (.cells #[.slice p3 C.length c3] 23))).below B7.out)
        go_roundg (a + k - a)
        case rel => exact ⟨a, a + k, _, Nat.le_refl _, NX.out _ _ D7.out R7.out⟩
        case measure => have := HM.out; have := HK.out; omega
      · have NX : Hid (∀ wr' v', Bs H i w wr' (a + Mt.cut (b - a)) b → RowsV 45 23 wr' (H + 3) v' (Q ++ [Mt.cov a (a + Mt.cut (b - a))]) → BsI E i n w wr' (a + Mt.cut (b - a)) b v' (⟨a, a + Mt.cut (b - a), true⟩ :: S)) := fun wr' v' hB hR => by
          have hw := hI.out.way
          rw [Mt.way_right hee h2 hi] at hw
          refine ⟨by rw [hH]; exact hB, by omega, hib, hI.out.bn, by rw [hw, List.append_assoc]; rfl, ?_⟩
          rw [hH]
          have e : (wayN (⟨a, a + Mt.cut (b - a), true⟩ :: S)).reverse = Q ++ [Mt.cov a (a + Mt.cut (b - a))] := by rw [← hQ]; unfold wayN; rw [List.map_cons, List.reverse_cons]
          rw [e]
          exact hR
        have OB : Hid (Calls Try.prog 28 #[.pointer (some ⟨H + 1, 0, none⟩), .pointer (some ⟨H + 1 + 1, 0, none⟩), .pointer (some ⟨H, 0, none⟩)] wr (OthA H i w wr (a + Mt.cut (b - a)) b (Mt.cov a (a + Mt.cut (b - a))))) := OA.out.mono (fun e w' h => by rw [if_neg hi] at h; exact h)
        obtain ⟨k, hk⟩ : ∃ k, Mt.cut (b - a) = k := ⟨_, rfl⟩
        rw [hk] at hlt hpo NX OB
        obtain ⟨C, hC⟩ : ∃ C, Mt.cov a (a + k) = C := ⟨_, rfl⟩
        rw [hC] at NX OB
        have HM := keep hm
        have HK : Hid (b - (a + k) < b - a) := by show _ < _; omega
        clear hI hee hm hai hib hbn HS hi h2 hlt hpo hk hC hQ OA
        go_wp2_with fail
        rw [HF.out, Oper.upon_enter]
        refine EC.out.mono ?_
        rintro e w1 ⟨rfl, rfl⟩
        go_wp2_with fail
        refine OB.out.mono ?_
        rintro e w3 ⟨v3, rfl, ho3, hB3, hk3⟩
        obtain ⟨p3, c3, rfl⟩ := own_is ho3
        have O3 := keep (own_low ho3 (Nat.zero_le _))
        have D3 := keep hB3
        have R3 := keep (hk3.rows (by decide) (by decide) RR.out)
        clear ho3 hB3 hk3 x0 x1 x2 OB RR
        have c4 : Hid ((w3.alloc (.cells #[.slice p3 C.length c3] 23)).cell? (Addr.add ⟨w3.heap.size, 0, none⟩ 0) = some (.slice p3 C.length c3)) := cell_of_row _ _ _ _ _ _ (heap_alloc_new w3 _)
        go_wp2_with (at_builtin; go_loud (refine wpList_append_row rfl _ _ 34 45 23 (by decide) rfl (H + 3) i0 Try.underlying34 hi0 hz0 hz1 hz2 w3 _ Q rfl R3.out ⟨p3, c3, C⟩ O3.out ((Below.refl _ _).alloc (Nat.le_refl _) _) _ rfl c4.out PL.out (le_alloc D3.out.sz _) ?_); intro v7 w7 hr7 hb7; have R7 := keep hr7; have B7 := keep hb7; clear hr7 hb7)
        have D7 := keep ((D3.out.mono ((Below.refl _ _).alloc (Nat.le_refl _) (.cells #[.slice p3 C.length c3] 23))).below B7.out)
        go_roundg (b - (a + k))
        case rel => exact ⟨a + k, b, _, Nat.le_refl _, NX.out _ _ D7.out R7.out⟩
        case measure => have := HM.out; have := HK.out; omega
end Go.Proofs.Ytdgfbbaddoghaaa
