/- The walks of the two ends, of beside. -/
/- The walk of the program's PathNodes. -/
/- The walk of the law's awake. -/
import Derived.Test.YtdgfbbaddoghaaaDoorTh2
import Derived.Test.YtdgfbbaddoghaaaDoorTw
import Derived.Deep.LoopGhost
import Derived.BigQuiet
import Derived.Test.YtdgfbbaddoghaaaDoorTe
namespace Go.Proofs.YtdgfbbaddoghaaaDoor
open Go.RowKit
open Mt (Pos)

theorem enterP (args : Array Value) (w : World) : (callFunc 27 args).run Tryd.prog w = .ok (.enter 27 args) w := by
  simp [callFunc, Tryd.func27]
  rfl
theorem enterQ (args : Array Value) (w : World) : (callFunc 28 args).run Tryd.prog w = .ok (.enter 28 args) w := by
  simp [callFunc, Tryd.func28]
  rfl
set_option maxHeartbeats 1000000 in
set_option maxRecDepth 100000 in
theorem endP (a b : Nat) (w : World) (hab : a < b) (hb : b ≤ 1099511627776) :
    Calls Tryd.prog 27 (#[.int .i64 (a : Int), .int .i64 (b : Int)] ++ #[]) w fun e w' => e = .returned (.bool (Mt.leafE a b)) ∧ w' = w := by
  have e1 : (b : Int) - (a : Int) = ((b - a : Nat) : Int) := by omega
  have h0 : (0 : Int) ≤ ((b - a : Nat) : Int) := by omega
  have h1 : ((b - a : Nat) : Int) ≤ 1099511627776 := by omega
  have hl : Mt.leafE a b = decide (((b - a : Nat) : Int) = 1) := by
    unfold Mt.leafE
    by_cases h : b - a = 1
    · rw [decide_eq_true h, decide_eq_true (by omega)]
    · rw [decide_eq_false h, decide_eq_false (by omega)]
  rw [hl]
  obtain ⟨x, hx⟩ : ∃ x, b - a = x := ⟨_, rfl⟩
  rw [hx] at e1 h0 h1 ⊢
  clear hl hx
  simp only [Array.append_empty]
  go_enter Tryd.func27, Tryd.ntmps27
  go_wp2
  go_ret
  exact ⟨rfl, rfl⟩
set_option maxHeartbeats 1000000 in
set_option maxRecDepth 100000 in
theorem endQ (q m a b : Nat) (w : World) (hq : w.cell? ⟨q, 0, none⟩ = some (.int .i64 (m : Int))) :
    Calls Tryd.prog 28 (#[.int .i64 (a : Int), .int .i64 (b : Int)] ++ #[.pointer (some ⟨q, 0, none⟩)]) w fun e w' => e = .returned (.bool (Mt.endE m a b)) ∧ w' = w := by
  have hl : Mt.endE m a b = decide ((b : Int) = (m : Int)) := by
    unfold Mt.endE
    by_cases h : b = m
    · rw [decide_eq_true h, decide_eq_true (by omega)]
    · rw [decide_eq_false h, decide_eq_false (by omega)]
  rw [hl]
  clear hl
  simp only [List.append_toArray, List.cons_append, List.nil_append]
  go_enter Tryd.func28, Tryd.ntmps28
  go_wp2
  go_ret
  exact ⟨rfl, rfl⟩
/-- The rows so far, the way from here on. -/
structure BsI (E : Nat → Nat → Bool) (i n : Nat) (w0 wr : World) (a b : Nat) (v : Value) (S : List Mt.Sd) : Prop where
  at' : Bs w0.heap.size i w0 wr a b
  ai : a ≤ i
  ib : i < b
  bn : b ≤ n
  way : Mt.way E i 0 n = ((Mt.way E i a b).1 ++ S, (Mt.way E i a b).2)
  row : RowsV 41 36 wr (w0.heap.size + 3) v (wayN S).reverse
theorem BsI.len {E : Nat → Nat → Bool} {i n : Nat} {w0 wr : World} {a b : Nat} {v : Value} {S : List Mt.Sd} (h : BsI E i n w0 wr a b v S) (hE1 : ∀ a, a ≤ i → i < a + 1 → E a (a + 1) = true) (hi : i < n) (hn : n ≤ 1099511627776) : (Mt.way E i a b).1.length + S.length ≤ 40 := by
  have h1 := (Mt.way_in (E := E) (i := i) hE1 n 0 n (by omega) (Nat.zero_le _) hi).2.2.2
  have h2 := lv_40 hn
  rw [h.way, List.length_append] at h1
  omega
theorem rv_rev {T : TypeId} (xs : List PV) : rv (rowKind T) xs.reverse = (rv (rowKind T) xs).reverse := by
  induction xs with
  | nil => rfl
  | cons x t ih =>
    rw [List.reverse_cons, rv_append, ih]
    show _ = ([Value.slice x.p x.ps.length x.c] ++ rv (rowKind T) t).reverse
    rw [List.reverse_append]
    rfl
set_option maxHeartbeats 400000 in
set_option maxRecDepth 100000 in
theorem reverse_nil (w : World) : Calls Tryd.prog 44 #[.slice none 0 0] w fun e w' => e = .returned (.tuple #[]) ∧ w' = w := by
  go_enter Tryd.func44, Tryd.ntmps44
  go_wp2
  go_loopw [2, 3] (fun i j wr => i = .int .i64 0 ∧ j = .int .i64 (-1) ∧ wr = w) (fun i _ _ => 0)
  case atStart => exact ⟨rfl, rfl, rfl⟩
  case round =>
    obtain ⟨rfl, rfl, rfl⟩ := hrel
    go_wp2
    go_end0
    exact ⟨rfl, rfl⟩
set_option maxHeartbeats 1000000 in
set_option maxRecDepth 100000 in
theorem beside_any (F : Nat) (lb : Array Value) (E : Nat → Nat → Bool) (i n : Nat) (w : World) (hi : i < n) (hn : n ≤ 1099511627776) (hF : ∀ (args : Array Value) (w : World), (callFunc F args).run Tryd.prog w = .ok (.enter F args) w) (hE1 : ∀ a, a ≤ i → i < a + 1 → E a (a + 1) = true)
    (hEc : ∀ (a b : Nat) (w' : World), a < b → b ≤ 1099511627776 → Below w.heap.size w w' → Calls Tryd.prog F (#[.int .i64 (a : Int), .int .i64 (b : Int)] ++ lb) w' fun e w'' => e = .returned (.bool (E a b)) ∧ w'' = w') :
    Calls Tryd.prog 26 #[.int .i64 (i : Int), .int .i64 (n : Int), .func (.func F) #[] lb] w fun e w' =>
      ∃ v, e = .returned (.tuple #[v, .int .i64 ((Mt.way E i 0 n).2 : Int)]) ∧ RowsV 41 36 w' w.heap.size v (wayN (Mt.way E i 0 n).1) ∧ Below w.heap.size w w' := by
  obtain ⟨i0, hi0, hz0, hz1, hz2⟩ := info_partsS infoPP
  have HF := keep hF
  have HE1 := keep hE1
  have HEC := keep hEc
  have HIN := keep hi
  have HNN := keep hn
  clear hF hE1 hEc
  obtain ⟨H, hH⟩ : ∃ H, w.heap.size = H := ⟨_, rfl⟩
  obtain ⟨W1, hW1⟩ : ∃ Wn, w.alloc (.cells #[.int .i64 (i : Int)] 3) = Wn := ⟨_, rfl⟩
  have b1 : Below w.heap.size w W1 := by rw [← hW1]; exact (Below.refl _ _).alloc (Nat.le_refl _) _
  have s1 : W1.heap.size = H + 1 := by rw [← hW1, alloc_size, hH]
  have g1 : W1.heap[H]? = some (.cells #[.int .i64 (i : Int)] 3) := by rw [← hW1, ← hH]; exact heap_alloc_new w _
  obtain ⟨W2, hW2⟩ : ∃ Wn, W1.alloc (.cells #[.int .i64 0] 3) = Wn := ⟨_, rfl⟩
  have b2 : Below W1.heap.size W1 W2 := by rw [← hW2]; exact (Below.refl _ _).alloc (Nat.le_refl _) _
  have s2 : W2.heap.size = H + 1 + 1 := by rw [← hW2, alloc_size, s1]
  have g2 : W2.heap[H + 1]? = some (.cells #[.int .i64 0] 3) := by rw [← hW2, ← s1]; exact heap_alloc_new W1 _
  obtain ⟨W3, hW3⟩ : ∃ Wn, W2.alloc (.cells #[.int .i64 0] 3) = Wn := ⟨_, rfl⟩
  have b3 : Below W2.heap.size W2 W3 := by rw [← hW3]; exact (Below.refl _ _).alloc (Nat.le_refl _) _
  have s3 : W3.heap.size = H + 1 + 1 + 1 := by rw [← hW3, alloc_size, s2]
  have g3 : W3.heap[H + 1 + 1]? = some (.cells #[.int .i64 0] 3) := by rw [← hW3, ← s2]; exact heap_alloc_new W2 _
  have k2 : W3.heap[H + 1]? = some (.cells #[.int .i64 0] 3) := (b3.block _ (by omega)).trans g2
  have c2 : W3.cell? ⟨H + 1, 0, none⟩ = some (.int .i64 0) := cell_of_row _ _ _ _ _ _ k2
  have c3 : W3.cell? ⟨H + 1 + 1, 0, none⟩ = some (.int .i64 0) := cell_of_row _ _ _ _ _ _ g3
  have f2 : W3.frozen? ⟨H + 1, 0, none⟩ = false := by simp [World.frozen?, k2]
  have f3 : W3.frozen? ⟨H + 1 + 1, 0, none⟩ = false := by simp [World.frozen?, g3]
  clear hn hi
  go_enter Tryd.func26, Tryd.ntmps26
  go_wp2_with fail
  obtain ⟨W5, hW5⟩ : ∃ Wn, (W3.setCell ⟨H + 1, 0, none⟩ (.int .i64 0)).setCell ⟨H + 1 + 1, 0, none⟩ (.int .i64 (n : Int)) = Wn := ⟨_, rfl⟩
  rw [hW5]
  have I0 : Hid (BsI E i n w W5 0 n (.slice none 0 0) []) := by
    have B3 : Bs H i w W3 0 0 := by
      refine ⟨by omega, ?_, k2, g3, ?_⟩
      · exact (b3.block _ (by omega)).trans ((b2.block _ (by omega)).trans g1)
      · rw [← hH]; exact b1.trans ((b2.trans (b3.mono b2.size)).mono b1.size)
    refine ⟨?_, Nat.zero_le _, HIN.out, Nat.le_refl _, by rw [List.append_nil], RowsV.nil⟩
    rw [hH, ← hW5]
    exact (B3.setA 0).setB n
  clear b1 s1 g1 b2 s2 g2 b3 s3 g3 k2 c2 c3 f2 f3 hW1 hW2 hW3 hW5
  go_loopg [11] n (fun m v wr => ∃ (a b : Nat) (S : List Mt.Sd), b - a ≤ m ∧ Hid (BsI E i n w wr a b v S))
  case atStart => exact ⟨0, n, [], by omega, I0⟩
  case round =>
    clear I0
    obtain ⟨a, b, S, hm, hI⟩ := hrel
    have AT := keep hI.out.at'
    rw [hH] at AT
    obtain ⟨x0, x1, x2, _, _⟩ := AT.out.cells
    have x1 : wr.cell? ⟨H + 1 + 1, 0, none⟩ = some (.int .i64 (b : Int)) := x1
    have hai := hI.out.ai
    have hib := hI.out.ib
    have hbn := Nat.le_trans hI.out.bn HNN.out
    have EC := keep (HEC.out a b wr (by omega) hbn (by rw [hH]; exact AT.out.low))
    have HS := keep (hI.out.len HE1.out HIN.out HNN.out)
    cases hee : E a b with
    | true =>
      rw [hee] at EC
      have HW : Hid (Mt.way E i 0 n = (S, a)) := by
        have hw := hI.out.way
        rw [Mt.way_end hee, List.nil_append] at hw
        exact hw
      have HSL : Hid (S.length ≤ 40) := by
        have := HS.out
        rw [Mt.way_end hee] at this
        simp only [List.length_nil] at this
        show _ ≤ _
        omega
      obtain ⟨xs, hxs, ho, hh⟩ := hI.out.row.is
      rw [hH] at ho
      have hSb := HS.out
      have hxl : xs.length = (wayN S).reverse.length := by rw [← hxs, List.length_map]
      have a1 : (a : Int) ≤ 1099511627776 := by omega
      obtain ⟨N, hN⟩ : ∃ N, (wayN S).reverse.length = N := ⟨_, rfl⟩
      rw [hN] at ho
      rcases ho.2 with ⟨rfl, h0⟩ | ⟨g, cap, cur, rfl, hg, hgg, r⟩
      · have HS0 : Hid (S = []) := by
          rw [← hN, List.length_reverse, wayN_len] at h0
          exact List.length_eq_zero_iff.1 h0
        clear hI hee hm hai hib hbn HS hxs ho hh hSb hxl h0 hN
        go_wp2_with fail
        rw [HF.out, Oper.upon_enter]
        refine EC.out.mono ?_
        rintro e w1 ⟨rfl, rfl⟩
        go_wp2_with fail
        refine (reverse_nil w1).mono ?_
        rintro e w2 ⟨rfl, rfl⟩
        go_wp2_with fail
        go_region
        go_wp2
        go_ret2
        refine ⟨.slice none 0 0, ?_, ?_, by rw [hH]; exact AT.out.low.drew⟩
        · first | (rw [HW.out]; done) | (rw [HW.out]; rfl)
        · rw [HW.out, HS0.out]
          exact RowsV.nil
      · have hNl : N ≤ 100 := by rw [← hN, List.length_reverse, wayN_len]; have := HSL.out; omega
        have RV := keep (reverse_any (H + 3) g N cap (rv (rowKind 41) xs) wr ho (fun u hu => by
          obtain ⟨j, hj⟩ := List.getElem?_of_mem hu
          obtain ⟨q, r, e, _, hr, _, hv⟩ := rv_get (rowKind_ok 41) hj
          have hr0 : r = 0 := by have : (rowKind 41).size = 1 := rfl; omega
          subst hr0
          simp only [rowKind, List.getElem?_cons_zero, Option.some.injEq] at hv
          exact ⟨_, _, _, hv.symm⟩) hNl)
        have HO := keep ho
        have HH := keep hh
        have HXS := keep hxs
        have HN := keep hN
        clear hI hee hm hai hib hbn HS hxs ho hh hSb hxl r hgg hN hNl
        go_wp2_with fail
        rw [HF.out, Oper.upon_enter]
        refine EC.out.mono ?_
        rintro e w1 ⟨rfl, rfl⟩
        go_wp2_with fail
        refine RV.out.mono ?_
        rintro e w2 ⟨rfl, ho2, hg2⟩
        have O2 := keep ho2
        have B2 : Hid (Below (H + 3) w1 w2) := (Below.refl (H + 3) w1).grown hg2 AT.out.sz (fun k hk => by cases hk; exact hg)
        have R2 : Hid (RowsV 41 36 w2 (H + 3) (.slice (some ⟨g, 0, none⟩) N cap) (wayN S)) :=
          ⟨xs.reverse, by rw [List.map_reverse, HXS.out, List.reverse_reverse], by
            have e1 : (wayN S).length = N := by rw [← HN.out, List.length_reverse]
            rw [e1, rv_rev]
            exact O2.out, fun x hx => own_grown (by decide) (HH.out x (List.mem_reverse.1 hx)) HO.out hg2⟩
        have L2 : Hid (Below H w w2) := AT.out.low.trans (B2.out.mono (by omega))
        have z0 := (AT.out.below B2.out).cells.1
        clear ho2 hg2 RV x0 x1 x2
        go_wp2_with fail
        go_region
        go_wp2
        go_ret2
        refine ⟨.slice (some ⟨g, 0, none⟩) N cap, ?_, ?_, by rw [hH]; exact L2.out.drew⟩
        · first | (rw [HW.out]; done) | (rw [HW.out]; rfl)
        · rw [HW.out]
          rw [hH]
          exact (R2.out.low (by omega)).next (Below.refl _ _).drew
    | false =>
      rw [hee] at EC
      have h2 : 2 ≤ b - a := by
        rcases Nat.lt_or_ge (b - a) 2 with h | h
        · have : b = a + 1 := by omega
          subst this
          rw [HE1.out a hai (by omega)] at hee
          cases hee
        · exact h
      have hlt := Mt.cut_lt h2
      have hpo := Mt.cut_pos (b - a)
      have OA := keep (other_any H i w wr a b AT.out h2 hbn)
      have RR := keep hI.out.row
      rw [hH] at RR
      obtain ⟨Q, hQ⟩ : ∃ Q, (wayN S).reverse = Q := ⟨_, rfl⟩
      rw [hQ] at RR
      obtain ⟨p, c, _, e5, _, _, _⟩ := RR.out.src
      subst e5
      have PL : Hid (Q.length + 1 ≤ 1000) := by have := HS.out; show _ ≤ _; rw [← hQ, List.length_reverse, wayN_len]; omega
      by_cases hi : i < a + Mt.cut (b - a)
      · have NX : Hid (∀ wr' v', Bs H i w wr' a (a + Mt.cut (b - a)) → RowsV 41 36 wr' (H + 3) v' (Q ++ [Mt.cov (a + Mt.cut (b - a)) b]) → BsI E i n w wr' a (a + Mt.cut (b - a)) v' (⟨a + Mt.cut (b - a), b, false⟩ :: S)) := fun wr' v' hB hR => by
          have hw := hI.out.way
          rw [Mt.way_left hee h2 hi] at hw
          refine ⟨by rw [hH]; exact hB, hai, hi, by have := hI.out.bn; omega, by rw [hw, List.append_assoc]; rfl, ?_⟩
          rw [hH]
          have e : (wayN (⟨a + Mt.cut (b - a), b, false⟩ :: S)).reverse = Q ++ [Mt.cov (a + Mt.cut (b - a)) b] := by rw [← hQ]; unfold wayN; rw [List.map_cons, List.reverse_cons]
          rw [e]
          exact hR
        have OB : Hid (Calls Tryd.prog 43 #[.pointer (some ⟨H + 1, 0, none⟩), .pointer (some ⟨H + 1 + 1, 0, none⟩), .pointer (some ⟨H, 0, none⟩)] wr (OthA H i w wr a (a + Mt.cut (b - a)) (Mt.cov (a + Mt.cut (b - a)) b))) := OA.out.mono (fun e w' h => by rw [if_pos hi] at h; exact h)
        obtain ⟨k, hk⟩ : ∃ k, Mt.cut (b - a) = k := ⟨_, rfl⟩
        rw [hk] at hlt hpo NX OB
        obtain ⟨C, hC⟩ : ∃ C, Mt.cov (a + k) b = C := ⟨_, rfl⟩
        rw [hC] at NX OB
        have HM := keep hm
        have HK : Hid (a + k - a < b - a) := by show _ < _; omega
        clear hI hee hm hai hib hbn HS hi h2 hlt hpo hk hC hQ OA
        go_wp2_with fail
        rw [HF.out, Oper.upon_enter]
        refine EC.out.mono ?_
        rintro e w1 ⟨rfl, rfl⟩
        go_wp2_with fail
        refine OB.out.mono ?_
        rintro e w3 ⟨v3, rfl, ho3, hB3, hk3⟩
        obtain ⟨p3, c3, rfl⟩ := own_is ho3
        have O3 := keep (own_low ho3 (Nat.zero_le _))
        have D3 := keep hB3
        have R3 := keep (hk3.rows (by decide) (by decide) RR.out)
        clear ho3 hB3 hk3 x0 x1 x2 OB RR
        have c4 : Hid ((w3.alloc (.cells #[.slice p3 C.length c3] 36)).cell? (Addr.add ⟨w3.heap.size, 0, none⟩ 0) = some (.slice p3 C.length c3)) := cell_of_row _ _ _ _ _ _ (heap_alloc_new w3 _)
        go_wp2_with (at_builtin; go_loud (refine wpList_append_row rfl _ _ 31 41 36 (by decide) rfl (H + 3) i0 Tryd.underlying31 hi0 hz0 hz1 hz2 w3 _ Q rfl R3.out ⟨p3, c3, C⟩ O3.out ((Below.refl _ _).alloc (Nat.le_refl _) _) _ rfl c4.out PL.out (le_alloc D3.out.sz _) ?_); intro v7 w7 hr7 hb7; have R7 := keep hr7; have B7 := keep hb7; clear hr7 hb7)
        have D7 := keep ((D3.out.mono ((Below.refl _ _).alloc (Nat.le_refl _) (.cells #[.slice p3 C.length c3] 36))).below B7.out)
        go_roundg (a + k - a)
        case rel => exact ⟨a, a + k, _, Nat.le_refl _, NX.out _ _ D7.out R7.out⟩
        case measure => have := HM.out; have := HK.out; omega
      · have NX : Hid (∀ wr' v', Bs H i w wr' (a + Mt.cut (b - a)) b → RowsV 41 36 wr' (H + 3) v' (Q ++ [Mt.cov a (a + Mt.cut (b - a))]) → BsI E i n w wr' (a + Mt.cut (b - a)) b v' (⟨a, a + Mt.cut (b - a), true⟩ :: S)) := fun wr' v' hB hR => by
          have hw := hI.out.way
          rw [Mt.way_right hee h2 hi] at hw
          refine ⟨by rw [hH]; exact hB, by omega, hib, hI.out.bn, by rw [hw, List.append_assoc]; rfl, ?_⟩
          rw [hH]
          have e : (wayN (⟨a, a + Mt.cut (b - a), true⟩ :: S)).reverse = Q ++ [Mt.cov a (a + Mt.cut (b - a))] := by rw [← hQ]; unfold wayN; rw [List.map_cons, List.reverse_cons]
          rw [e]
          exact hR
        have OB : Hid (Calls Tryd.prog 43 #[.pointer (some ⟨H + 1, 0, none⟩), .pointer (some ⟨H + 1 + 1, 0, none⟩), .pointer (some ⟨H, 0, none⟩)] wr (OthA H i w wr (a + Mt.cut (b - a)) b (Mt.cov a (a + Mt.cut (b - a))))) := OA.out.mono (fun e w' h => by rw [if_neg hi] at h; exact h)
        obtain ⟨k, hk⟩ : ∃ k, Mt.cut (b - a) = k := ⟨_, rfl⟩
        rw [hk] at hlt hpo NX OB
        obtain ⟨C, hC⟩ : ∃ C, Mt.cov a (a + k) = C := ⟨_, rfl⟩
        rw [hC] at NX OB
        have HM := keep hm
        have HK : Hid (b - (a + k) < b - a) := by show _ < _; omega
        clear hI hee hm hai hib hbn HS hi h2 hlt hpo hk hC hQ OA
        go_wp2_with fail
        rw [HF.out, Oper.upon_enter]
        refine EC.out.mono ?_
        rintro e w1 ⟨rfl, rfl⟩
        go_wp2_with fail
        refine OB.out.mono ?_
        rintro e w3 ⟨v3, rfl, ho3, hB3, hk3⟩
        obtain ⟨p3, c3, rfl⟩ := own_is ho3
        have O3 := keep (own_low ho3 (Nat.zero_le _))
        have D3 := keep hB3
        have R3 := keep (hk3.rows (by decide) (by decide) RR.out)
        clear ho3 hB3 hk3 x0 x1 x2 OB RR
        have c4 : Hid ((w3.alloc (.cells #[.slice p3 C.length c3] 36)).cell? (Addr.add ⟨w3.heap.size, 0, none⟩ 0) = some (.slice p3 C.length c3)) := cell_of_row _ _ _ _ _ _ (heap_alloc_new w3 _)
        go_wp2_with (at_builtin; go_loud (refine wpList_append_row rfl _ _ 31 41 36 (by decide) rfl (H + 3) i0 Tryd.underlying31 hi0 hz0 hz1 hz2 w3 _ Q rfl R3.out ⟨p3, c3, C⟩ O3.out ((Below.refl _ _).alloc (Nat.le_refl _) _) _ rfl c4.out PL.out (le_alloc D3.out.sz _) ?_); intro v7 w7 hr7 hb7; have R7 := keep hr7; have B7 := keep hb7; clear hr7 hb7)
        have D7 := keep ((D3.out.mono ((Below.refl _ _).alloc (Nat.le_refl _) (.cells #[.slice p3 C.length c3] 36))).below B7.out)
        go_roundg (b - (a + k))
        case rel => exact ⟨a + k, b, _, Nat.le_refl _, NX.out _ _ D7.out R7.out⟩
        case measure => have := HM.out; have := HK.out; omega
end Go.Proofs.YtdgfbbaddoghaaaDoor
namespace Go.Proofs.YtdgfbbaddoghaaaDoor
open Go.RowKit
open Mt (Pos)

theorem own_some {w : World} {B t k n : Nat} {v : Value} {xs : List Value} (h : w.ownsRow B t k v n xs) (hn : 0 < n) : ∃ g cap, v = .slice (some ⟨g, 0, none⟩) n cap ∧ g < w.heap.size ∧ ∀ j u, xs[j]? = some u → w.cell? ⟨g, j, none⟩ = some u := by
  rcases h.2 with ⟨_, h0⟩ | ⟨g, cap, cur, hv, hb, hg, hc, hm, hs, ht⟩
  · omega
  · refine ⟨g, cap, hv, (Array.getElem?_eq_some_iff.1 hg).1, fun j u hu => ?_⟩
    rw [← ht, List.getElem?_take] at hu
    split at hu
    · have e := cell_of_row w g j cur t (0, 0) hg
      rw [e]
      simpa using hu
    · cases hu
theorem RowsA.noneP {T TT : TypeId} {w w' : World} {er : Int} (hb : Below w.heap.size w w') : RowsA T TT w [] er (.returned (.tuple #[.slice none 0 0, .int .i64 er])) w' := ⟨_, rfl, RowsV.nil, hb⟩
set_option maxHeartbeats 400000 in
set_option maxRecDepth 100000 in
theorem pathnodes_bad (i n : Int) (w : World) (h : n < 1 ∨ 1099511627776 < n ∨ i < 0 ∨ n ≤ i) : Calls Tryd.prog 12 #[.int .i64 i, .int .i64 n] w (RowsA 41 36 w [] 8) := by
  go_enter Tryd.func12, Tryd.ntmps12
  by_cases h1 : n < 1
  · go_wp2
    go_ret2
    exact RowsA.noneP (Below.refl _ _)
  by_cases h2 : 1099511627776 < n
  · go_wp2
    go_ret2
    exact RowsA.noneP (Below.refl _ _)
  by_cases h3 : i < 0
  · go_wp2
    go_ret2
    exact RowsA.noneP (Below.refl _ _)
  · have h4 : n ≤ i := by omega
    go_wp2
    go_ret2
    exact RowsA.noneP (Below.refl _ _)
set_option maxHeartbeats 400000 in
set_option maxRecDepth 100000 in
theorem pathnodes_any (i n : Nat) (w : World) (hi : i < n) (hn : n ≤ 1099511627776) : Calls Tryd.prog 12 #[.int .i64 (i : Int), .int .i64 (n : Int)] w (RowsA 41 36 w (wayN (Mt.way Mt.leafE i 0 n).1) 0) := by
  have PA := keep (beside_any 27 #[] Mt.leafE i n w hi hn enterP (fun a h1 h2 => Mt.leafE_one a h1 h2) (fun a b w' h1 h2 _ => endP a b w' h1 h2))
  have h1 : ¬ (n : Int) < 1 := by omega
  have h2 : ¬ (1099511627776 : Int) < (n : Int) := by omega
  have h3 : ¬ (i : Int) < 0 := by omega
  have h4 : ¬ (n : Int) ≤ (i : Int) := by omega
  clear hi hn
  obtain ⟨⟨L, en⟩, hL⟩ : ∃ L, Mt.way Mt.leafE i 0 n = L := ⟨_, rfl⟩
  rw [hL] at PA ⊢
  simp only at PA ⊢
  obtain ⟨P, hP⟩ : ∃ P, wayN L = P := ⟨_, rfl⟩
  rw [hP] at PA ⊢
  clear hL hP
  go_enter Tryd.func12, Tryd.ntmps12
  go_wp2_with fail
  refine PA.out.mono ?_
  rintro e w1 ⟨v, rfl, hr, hb⟩
  have R := keep hr
  have B := keep hb
  obtain ⟨p, c, _, e7, _, _, _⟩ := hr.src
  subst e7
  clear hr hb PA
  go_wp2
  go_ret2
  exact ⟨_, rfl, R.out, B.out⟩
end Go.Proofs.YtdgfbbaddoghaaaDoor
namespace Go.Proofs.YtdgfbbaddoghaaaDoor
open Go.RowKit
open Mt (Pos)

theorem ups3 : Mt.ups 0 3 = [⟨0, 3⟩, ⟨1, 1⟩, ⟨2, 0⟩] := rfl
theorem cov5 : Mt.cov 0 5 = [⟨2, 0⟩, ⟨0, 4⟩] := rfl
theorem way3 : wayN (Mt.way Mt.leafE 2 0 3).1 = [[⟨1, 0⟩]] := rfl
set_option maxHeartbeats 1000000 in
set_option maxRecDepth 100000 in
theorem awake_any (w : World) : Calls Tryd.prog 6 #[] w fun e w' => e = .returned (.bool true) ∧ Below w.heap.size w w' := by
  have N3 := keep (new_any 3 w (by decide))
  have C5 := keep (fun w' => cover_any 0 5 w' (by decide) (by decide) (Nat.dvd_zero _))
  have P3 := keep (fun w' => pathnodes_any 2 3 w' (by decide) (by decide))
  rw [ups3] at N3
  rw [cov5] at C5
  rw [way3] at P3
  go_enter Tryd.func6, Tryd.ntmps6
  go_wp2_with fail
  refine N3.out.mono ?_
  rintro e w1 ⟨v1, rfl, ho1, hb1⟩
  obtain ⟨g1, c1, rfl, hg1, hc1⟩ := own_some ho1 (by decide)
  have a0 := hc1 4 (.int .i64 2) rfl
  have a1 := hc1 5 (.int .i64 0) rfl
  have B1 := keep hb1
  clear ho1 hb1 hc1 N3 hg1
  go_wp2_with fail
  refine (C5.out w1).mono ?_
  rintro e w2 ⟨v2, rfl, ho2, hb2⟩
  obtain ⟨g2, c2, rfl, hg2, hc2⟩ := own_some ho2 (by decide)
  have d0 := hc2 2 (.int .i64 0) rfl
  have d1 := hc2 3 (.int .i64 4) rfl
  have a2 := below_cell hb2 a0
  have a3 := below_cell hb2 a1
  have B2 := keep (B1.out.trans (hb2.mono B1.out.size))
  clear ho2 hb2 hc2 C5 a0 a1 hg2
  go_wp2_with fail
  refine (P3.out w2).mono ?_
  rintro e w3 ⟨v3, rfl, hr3, hb3⟩
  obtain ⟨xs, hxs, ho3, hh3⟩ := hr3.is
  obtain ⟨⟨xp, xc, xl⟩, rfl⟩ : ∃ x, xs = [x] := by
    match xs, hxs with
    | [x], _ => exact ⟨x, rfl⟩
    | [], h => cases h
    | _ :: _ :: _, h => simp at h
  have hxl : xl = [⟨1, 0⟩] := by simpa using hxs
  subst hxl
  have hx := hh3 _ (List.mem_singleton.2 rfl)
  obtain ⟨g4, c4, e4, hg4, hc4⟩ := own_some (v := .slice xp [(⟨1, 0⟩ : Pos)].length xc) hx (Nat.zero_lt_succ _)
  cases e4
  have q0 := hc4 0 (.int .i64 1) rfl
  have q1 := hc4 1 (.int .i64 0) rfl
  obtain ⟨g3, c3, rfl, hg3, hc3⟩ := own_some ho3 (by decide)
  have p0 := hc3 0 _ rfl
  have a4 := below_cell hb3 a2
  have a5 := below_cell hb3 a3
  have d2 := below_cell hb3 d0
  have d3 := below_cell hb3 d1
  have B3 := keep (B2.out.trans (hb3.mono B2.out.size))
  clear hr3 hxs ho3 hh3 hx hc4 hc3 hb3 a2 a3 d0 d1 P3 hg3 hg4
  go_wp2
  go_ret
  exact ⟨rfl, B3.out⟩
end Go.Proofs.YtdgfbbaddoghaaaDoor
