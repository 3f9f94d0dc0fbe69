/- The walks of the document's whole, Sides, Climb. -/
import Derived.Test.YtelebhcaljepaaaDoorKa
import Derived.Test.YtelebhcaljepaaaDoorKt
namespace Go.Proofs.YtelebhcaljepaaaDoor
open Go.RowKit

set_option maxHeartbeats 1000000 in
set_option maxRecDepth 100000 in
theorem rwhole_any (ao : Option Addr) (n c : Nat) (es : List (List UInt8)) (w : World) (hs : RSrc strKind w ao n c es) (hn : n ≤ 4611686018427387904) :
    Calls Tryd.prog 39 #[.slice ao n c] w fun e w' => e = .returned (.bool (wholeL es)) ∧ Below w.heap.size w w' := by
  have HS := keep hs
  have HN := keep hs.len
  clear hs
  go_enter Tryd.func39, Tryd.ntmps39
  go_wp2
  go_loopw [3] (fun i wr => ∃ k : Nat, k ≤ n ∧ i = .int .i64 (k : Int) ∧ Hid (Below w.heap.size w wr ∧ wholeL (es.take k) = true)) (fun i _ => n - (intOf i).toNat)
  case atStart => exact ⟨0, Nat.zero_le _, rfl, Below.refl _ _, rfl⟩
  case round =>
    obtain ⟨k, hk, rfl, hI⟩ := hrel
    by_cases hkn : k < n
    · obtain ⟨b, off, rfl, _, hcell⟩ := strs_at HS.out (by omega)
      obtain ⟨s, hsk⟩ : ∃ s, es[k]? = some s := ⟨es[k]'(by rw [HN.out]; exact hkn), List.getElem?_eq_getElem _⟩
      have ck : wr.cell? ⟨b, off + k, none⟩ = some (.string ⟨s.toArray⟩) := below_cell hI.out.1 (hcell k s hsk)
      have k0 : (0 : Int) ≤ (k : Int) := by omega
      have k1 : (k : Int) < (n : Int) := by omega
      have MORE := keep (wholeL_more hsk)
      have NO := keep (fun h => wholeL_no hsk h)
      clear hcell hsk
      by_cases h32 : s.length = 32
      · have h3 : (s.length : Int) = 32 := by omega
        rw [decide_eq_true h32, Bool.and_true] at MORE
        clear h32
        go_wp2
        go_roundw
        case rel => exact ⟨k + 1, by omega, by go_num, hI.out.1, by rw [MORE.out]; exact hI.out.2⟩
        case measure => simp [intOf]; omega
      · have h3 : ¬ (s.length : Int) = 32 := by omega
        have h4 := keep (NO.out h32)
        clear h32
        go_wp2
        go_ret
        rw [h4.out]
        exact ⟨rfl, hI.out.1⟩
    · have k1 : ¬ (k : Int) < (n : Int) := by omega
      have h4 : Hid (wholeL es = true) := by
        have := hI.out.2
        rwa [List.take_of_length_le (by rw [HN.out]; omega)] at this
      go_wp2
      go_ret
      rw [h4.out]
      exact ⟨rfl, hI.out.1⟩
set_option maxHeartbeats 2000000 in
set_option maxRecDepth 100000 in
theorem rsides_any : ∀ (n i : Nat), i < n → n ≤ 1099511627776 → ∀ (w : World), Calls Tryd.prog 38 #[.int .i64 (i : Int), .int .i64 (n : Int)] w (SideR w (Mt.sides i n)) := by
  intro n
  induction n using Nat.strongRecOn with
  | _ n ih =>
    intro i hin hn w
    obtain ⟨i0, hi0, hz0, hz1, hz2⟩ := info_partsS infoB
    have IH := keep ih
    clear ih
    by_cases h1 : n ≤ 1
    · have hR : Mt.sides i n = [] := Mt.sides_one h1 i
      have n1 : (n : Int) ≤ 1 := by omega
      rw [hR]
      clear hR h1
      go_enter Tryd.func38, Tryd.ntmps38
      go_wp2
      go_ret
      exact ⟨_, rfl, World.ownsRow_nil _ _ _ _, Below.refl _ _⟩
    have h2 : 2 ≤ n := by omega
    have n1 : ¬ (n : Int) ≤ 1 := by omega
    have hlt := Mt.cut_lt h2
    have hpo := Mt.cut_pos n
    have CU := keep (rcut_any n w h2 (by omega))
    have LEFT : Hid (i < Mt.cut n → Mt.sides i n = Mt.sides i (Mt.cut n) ++ [true]) := fun h => Mt.sides_left h2 h
    have RIGHT : Hid (¬ i < Mt.cut n → Mt.sides i n = Mt.sides (i - Mt.cut n) (n - Mt.cut n) ++ [false]) := fun h => Mt.sides_right h2 h
    obtain ⟨k, hk⟩ : ∃ k, Mt.cut n = k := ⟨_, rfl⟩
    rw [hk] at hlt hpo CU LEFT RIGHT
    clear h1
    by_cases hik : i < k
    · have hp := LEFT.out hik
      rw [hp]
      have PL : Hid ((Mt.sides i k).length ≤ 40) := Nat.le_trans (Mt.sides_len k i (by omega)) (Mt.lv_le (by omega))
      have ik : (i : Int) < (k : Int) := by omega
      clear hp LEFT RIGHT hk
      have PA : Hid (∀ w', Calls Tryd.prog 38 #[.int .i64 (i : Int), .int .i64 (k : Int)] w' (SideR w' (Mt.sides i k))) := fun w' => IH.out k (by omega) i (by omega) (by omega) w'
      obtain ⟨P, hP⟩ : ∃ P, Mt.sides i k = P := ⟨_, rfl⟩
      rw [hP] at PL PA ⊢
      clear hP
      obtain ⟨M, hM⟩ : ∃ M, P.length = M := ⟨_, rfl⟩
      have HM := keep hM
      rw [hM] at PL
      have hpl := PL.out
      clear hM
      go_enter Tryd.func38, Tryd.ntmps38
      go_wp2_with fail
      refine CU.out.mono ?_
      rintro e w1 ⟨rfl, hb1⟩
      have b1 := keep hb1
      clear hb1 CU
      go_wp2_with fail
      refine (PA.out w1).mono ?_
      rintro e w3 ⟨v, rfl, ho, hb2⟩
      have b3 := keep (b1.out.trans (hb2.mono b1.out.size))
      have O3 := keep (own_low ho b1.out.size)
      obtain ⟨vp, vc, hv⟩ := own_is ho
      subst hv
      rw [HM.out] at O3 ⊢
      clear ho hb2
      have rc := keep (rec_cells (k := boolKind) w3 4 true)
      have b4 := keep (b3.out.alloc b3.out.size (.cells #[.bool true] 4))
      have O4 : Hid ((w3.alloc (.cells #[.bool true] 4)).ownsRow w.heap.size 4 1 (.slice vp M vc) M (rv boolKind P)) := own_next O3.out ((Below.refl _ _).alloc (Nat.le_refl _) _)
      go_wp2_with (at_builtin; go_loud (refine wpList_append_rec boolKind_ok rfl _ _ 57 4 rfl w.heap.size i0 _ 1 Tryd.underlying57 hi0 hz0 hz1 hz2 rfl (.slice vp M vc) M P rfl O4.out _ 1 true rfl rc.out (by unfold maxLen; omega) (by omega) b4.out.size ?_); intro v7 w7 ho7 hg7; have O7 := keep ho7; have b7 := keep (b4.out.grown hg7 b4.out.size (fun j hj => (O4.out.lt j hj).1)); clear ho7 hg7)
      go_ret
      exact ⟨v7, rfl, by rw [List.length_append, HM.out]; exact O7.out, b7.out⟩
    · have hp := RIGHT.out hik
      rw [hp]
      have PL : Hid ((Mt.sides (i - k) (n - k)).length ≤ 40) := Nat.le_trans (Mt.sides_len (n - k) (i - k) (by omega)) (Mt.lv_le (by omega))
      have ik : ¬ (i : Int) < (k : Int) := by omega
      have e3 : (i : Int) - (k : Int) = ((i - k : Nat) : Int) := by omega
      have e4 : (n : Int) - (k : Int) = ((n - k : Nat) : Int) := by omega
      clear hp LEFT RIGHT hk
      have PA : Hid (∀ w', Calls Tryd.prog 38 #[.int .i64 ((i - k : Nat) : Int), .int .i64 ((n - k : Nat) : Int)] w' (SideR w' (Mt.sides (i - k) (n - k)))) := fun w' => IH.out (n - k) (by omega) (i - k) (by omega) (by omega) w'
      obtain ⟨P, hP⟩ : ∃ P, Mt.sides (i - k) (n - k) = P := ⟨_, rfl⟩
      rw [hP] at PL PA ⊢
      clear hP
      obtain ⟨M, hM⟩ : ∃ M, P.length = M := ⟨_, rfl⟩
      have HM := keep hM
      rw [hM] at PL
      have hpl := PL.out
      clear hM
      go_enter Tryd.func38, Tryd.ntmps38
      go_wp2_with fail
      refine CU.out.mono ?_
      rintro e w1 ⟨rfl, hb1⟩
      have b1 := keep hb1
      clear hb1 CU
      go_wp2_with fail
      refine (PA.out w1).mono ?_
      rintro e w3 ⟨v, rfl, ho, hb2⟩
      have b3 := keep (b1.out.trans (hb2.mono b1.out.size))
      have O3 := keep (own_low ho b1.out.size)
      obtain ⟨vp, vc, hv⟩ := own_is ho
      subst hv
      rw [HM.out] at O3 ⊢
      clear ho hb2
      have rc := keep (rec_cells (k := boolKind) w3 4 false)
      have b4 := keep (b3.out.alloc b3.out.size (.cells #[.bool false] 4))
      have O4 : Hid ((w3.alloc (.cells #[.bool false] 4)).ownsRow w.heap.size 4 1 (.slice vp M vc) M (rv boolKind P)) := own_next O3.out ((Below.refl _ _).alloc (Nat.le_refl _) _)
      go_wp2_with (at_builtin; go_loud (refine wpList_append_rec boolKind_ok rfl _ _ 57 4 rfl w.heap.size i0 _ 1 Tryd.underlying57 hi0 hz0 hz1 hz2 rfl (.slice vp M vc) M P rfl O4.out _ 1 false rfl rc.out (by unfold maxLen; omega) (by omega) b4.out.size ?_); intro v7 w7 ho7 hg7; have O7 := keep ho7; have b7 := keep (b4.out.grown hg7 b4.out.size (fun j hj => (O4.out.lt j hj).1)); clear ho7 hg7)
      go_ret
      exact ⟨v7, rfl, by rw [List.length_append, HM.out]; exact O7.out, b7.out⟩
end Go.Proofs.YtelebhcaljepaaaDoor
