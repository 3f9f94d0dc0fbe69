/- The walk of the document's Path. -/
import Derived.Test.YtelebhcaljepaaaDoorKb
namespace Go.Proofs.YtelebhcaljepaaaDoor
open Go.RowKit

set_option maxHeartbeats 2000000 in
set_option maxRecDepth 100000 in
theorem rpath_bad (n : Nat) (i : Int) (ao : Option Addr) (c : Nat) (w : World) (hi : i < 0 ∨ (n : Int) ≤ i) :
    Calls Tryd.prog 17 #[.slice ao n c, .int .i64 i] w fun e w' => e = .returned (.tuple #[.slice none 0 0, .int .i64 8]) ∧ Below w.heap.size w w' := by
  go_enter Tryd.func17, Tryd.ntmps17
  by_cases h : i < 0
  · go_wp2
    go_ret2
    exact ⟨rfl, Below.refl _ _⟩
  · have h1 : (n : Int) ≤ i := by omega
    go_wp2
    go_ret2
    exact ⟨rfl, Below.refl _ _⟩
set_option maxHeartbeats 2000000 in
set_option maxRecDepth 100000 in
theorem rpath_any : ∀ (n : Nat) (es : List (List UInt8)), es.length = n → ∀ (i : Nat), i < n → ∀ (ao : Option Addr) (c : Nat) (w : World), RSrc strKind w ao n c es → (∀ e ∈ es, e.length ≤ 1099511627776) → n ≤ 1099511627776 →
    Calls Tryd.prog 17 #[.slice ao n c, .int .i64 (i : Int)] w (RowA w (pathL es i)) := by
  intro n
  induction n using Nat.strongRecOn with
  | _ n ih =>
    intro es hes i hin ao c w hs hl hn
    obtain ⟨i0, hi0, hz0, hz1, hz2⟩ := info_partsS infoS
    have IH := keep ih
    have HS := keep hs
    have HL := keep hl
    have hcap := hs.cap
    clear ih hl
    obtain ⟨b, off, rfl, hbw, hcell⟩ := strs_at hs (by omega)
    clear hcell hbw hs
    have i1 : ¬ (i : Int) < 0 := by omega
    have i2 : ¬ (n : Int) ≤ (i : Int) := by omega
    by_cases h1 : n = 1
    · subst h1
      have hR : pathL es i = [] := Mt.path_one _ _ (by omega) i
      rw [hR]
      clear hR
      go_enter Tryd.func17, Tryd.ntmps17
      go_wp2
      go_ret2
      exact ⟨_, rfl, World.ownsRow_nil _ _ _ _, Below.refl _ _⟩
    have h2 : 2 ≤ n := by omega
    have n1 : ¬ (n : Int) = 1 := by omega
    have hlt := Mt.cut_lt h2
    have hpo := Mt.cut_pos n
    have CU := keep (rcut_any n w h2 (by omega))
    have LEFT : Hid (i < Mt.cut n → pathL es i = pathL (es.take (Mt.cut n)) i ++ [rootL (es.drop (Mt.cut n))]) := fun h => by
      have := Mt.path_left nodeL nilL (l := es) (by omega) (i := i) (by rw [hes]; exact h)
      rw [hes] at this
      exact this
    have RIGHT : Hid (¬ i < Mt.cut n → pathL es i = pathL (es.drop (Mt.cut n)) (i - Mt.cut n) ++ [rootL (es.take (Mt.cut n))]) := fun h => by
      have := Mt.path_right nodeL nilL (l := es) (by omega) (i := i) (by rw [hes]; exact h)
      rw [hes] at this
      exact this
    obtain ⟨k, hk⟩ : ∃ k, Mt.cut n = k := ⟨_, rfl⟩
    rw [hk] at hlt hpo CU LEFT RIGHT
    have RA : Hid (∀ w', Below w.heap.size w w' → Calls Tryd.prog 15 #[.slice (some ⟨b, off, none⟩) k c] w' fun e w'' => e = .returned (.string ⟨(rootL (es.take k)).toArray⟩) ∧ Below w'.heap.size w' w'') := fun w' hb => rroot_any k (es.take k) (by rw [List.length_take]; omega) _ c w' ((HS.out.below strKind_ok hb).head strKind_ok k (by omega)) (fun e he => HL.out e (List.mem_of_mem_take he)) (by omega)
    have RB : Hid (∀ w', Below w.heap.size w w' → Calls Tryd.prog 15 #[.slice (some ⟨b, off + k, none⟩) (n - k) (c - k)] w' fun e w'' => e = .returned (.string ⟨(rootL (es.drop k)).toArray⟩) ∧ Below w'.heap.size w' w'') := fun w' hb => rroot_any (n - k) (es.drop k) (by rw [List.length_drop]; omega) _ (c - k) w' (strs_tail (HS.out.below strKind_ok hb) k (by omega)) (fun e he => HL.out e (List.mem_of_mem_drop he)) (by omega)
    have k0 : (0 : Int) ≤ (k : Int) := by omega
    have k1 : (k : Int) ≤ (n : Int) := by omega
    have k2 : (k : Int) ≤ (c : Int) := by omega
    have k3 : (n : Int) ≤ (c : Int) := by omega
    have k4 : ¬ k = 0 := by omega
    have k5 : ¬ c = k := by omega
    have e1 : (n : Int) - (k : Int) = ((n - k : Nat) : Int) := by omega
    have e2 : (c : Int) - (k : Int) = ((c - k : Nat) : Int) := by omega
    by_cases hik : i < k
    · have hp := LEFT.out hik
      rw [hp]
      have PL : Hid ((pathL (es.take k) i).length ≤ 40) := pathL_len (by rw [List.length_take]; omega) (by rw [List.length_take]; omega)
      have ik : (i : Int) < (k : Int) := by omega
      clear hp LEFT RIGHT hk
      obtain ⟨P, hP⟩ : ∃ P, pathL (es.take k) i = P := ⟨_, rfl⟩
      rw [hP] at PL ⊢
      have HP := keep hP
      clear hP
      obtain ⟨Y, hY⟩ : ∃ Y, rootL (es.drop k) = Y := ⟨_, rfl⟩
      rw [hY] at RB ⊢
      clear hY
      go_enter Tryd.func17, Tryd.ntmps17
      go_wp2_with fail
      refine CU.out.mono ?_
      rintro e w1 ⟨rfl, hb1⟩
      have b1 := keep hb1
      have PA := keep (IH.out k hlt (es.take k) (by rw [List.length_take]; omega) i hik _ c w1 ((HS.out.below strKind_ok b1.out).head strKind_ok k (by omega)) (fun e he => HL.out e (List.mem_of_mem_take he)) (by omega))
      rw [HP.out] at PA
      clear hb1 CU
      go_wp2_with fail
      refine PA.out.mono ?_
      rintro e w2 ⟨v, rfl, ho, hb2⟩
      have b2 := keep (b1.out.trans (hb2.mono b1.out.size))
      have O2 := keep (own_low ho b1.out.size)
      obtain ⟨vp, vc, hv⟩ := own_is ho
      subst hv
      clear ho hb2 PA
      go_wp2_with fail
      refine (RB.out w2 b2.out).mono ?_
      rintro e w3 ⟨rfl, hb3⟩
      have b3 := keep (b2.out.trans (hb3.mono b2.out.size))
      have O3 := keep (own_next O2.out hb3)
      clear hb3
      obtain ⟨M, hM⟩ : ∃ M, P.length = M := ⟨_, rfl⟩
      have HM := keep hM
      rw [hM] at O3 PL ⊢
      have hpl := PL.out
      clear hM
      have rc := keep (rec_cells (k := strKind) w3 9 Y)
      have b4 := keep (b3.out.alloc b3.out.size (.cells #[.string ⟨Y.toArray⟩] 9))
      have O4 : Hid ((w3.alloc (.cells #[.string ⟨Y.toArray⟩] 9)).ownsRow w.heap.size 9 1 (.slice vp M vc) M (rv strKind P)) := own_next O3.out ((Below.refl _ _).alloc (Nat.le_refl _) _)
      go_wp2_with (at_builtin; go_loud (refine wpList_append_rec strKind_ok rfl _ _ 22 9 rfl w.heap.size i0 _ 16 Tryd.underlying22 hi0 hz0 hz1 hz2 rfl (.slice vp M vc) M P rfl O4.out _ 1 Y rfl rc.out (by unfold maxLen; omega) (by omega) b4.out.size ?_); intro v7 w7 ho7 hg7; have O7 := keep ho7; have b7 := keep (b4.out.grown hg7 b4.out.size (fun j hj => (O4.out.lt j hj).1)); clear ho7 hg7)
      go_ret2
      exact ⟨v7, rfl, by rw [List.length_append, HM.out]; exact O7.out, b7.out⟩
    · have hp := RIGHT.out hik
      rw [hp]
      have PL : Hid ((pathL (es.drop k) (i - k)).length ≤ 40) := pathL_len (by rw [List.length_drop]; omega) (by rw [List.length_drop]; omega)
      have ik : ¬ (i : Int) < (k : Int) := by omega
      have e3 : (i : Int) - (k : Int) = ((i - k : Nat) : Int) := by omega
      clear hp LEFT RIGHT hk
      obtain ⟨P, hP⟩ : ∃ P, pathL (es.drop k) (i - k) = P := ⟨_, rfl⟩
      rw [hP] at PL ⊢
      have HP := keep hP
      clear hP
      obtain ⟨Y, hY⟩ : ∃ Y, rootL (es.take k) = Y := ⟨_, rfl⟩
      rw [hY] at RA ⊢
      clear hY
      go_enter Tryd.func17, Tryd.ntmps17
      go_wp2_with fail
      refine CU.out.mono ?_
      rintro e w1 ⟨rfl, hb1⟩
      have b1 := keep hb1
      have PA := keep (IH.out (n - k) (by omega) (es.drop k) (by rw [List.length_drop]; omega) (i - k) (by omega) _ (c - k) w1 (strs_tail (HS.out.below strKind_ok b1.out) k (by omega)) (fun e he => HL.out e (List.mem_of_mem_drop he)) (by omega))
      rw [HP.out] at PA
      clear hb1 CU
      go_wp2_with fail
      refine PA.out.mono ?_
      rintro e w2 ⟨v, rfl, ho, hb2⟩
      have b2 := keep (b1.out.trans (hb2.mono b1.out.size))
      have O2 := keep (own_low ho b1.out.size)
      obtain ⟨vp, vc, hv⟩ := own_is ho
      subst hv
      clear ho hb2 PA
      go_wp2_with fail
      refine (RA.out w2 b2.out).mono ?_
      rintro e w3 ⟨rfl, hb3⟩
      have b3 := keep (b2.out.trans (hb3.mono b2.out.size))
      have O3 := keep (own_next O2.out hb3)
      clear hb3
      obtain ⟨M, hM⟩ : ∃ M, P.length = M := ⟨_, rfl⟩
      have HM := keep hM
      rw [hM] at O3 PL ⊢
      have hpl := PL.out
      clear hM
      have rc := keep (rec_cells (k := strKind) w3 9 Y)
      have b4 := keep (b3.out.alloc b3.out.size (.cells #[.string ⟨Y.toArray⟩] 9))
      have O4 : Hid ((w3.alloc (.cells #[.string ⟨Y.toArray⟩] 9)).ownsRow w.heap.size 9 1 (.slice vp M vc) M (rv strKind P)) := own_next O3.out ((Below.refl _ _).alloc (Nat.le_refl _) _)
      go_wp2_with (at_builtin; go_loud (refine wpList_append_rec strKind_ok rfl _ _ 22 9 rfl w.heap.size i0 _ 16 Tryd.underlying22 hi0 hz0 hz1 hz2 rfl (.slice vp M vc) M P rfl O4.out _ 1 Y rfl rc.out (by unfold maxLen; omega) (by omega) b4.out.size ?_); intro v7 w7 ho7 hg7; have O7 := keep ho7; have b7 := keep (b4.out.grown hg7 b4.out.size (fun j hj => (O4.out.lt j hj).1)); clear ho7 hg7)
      go_ret2
      exact ⟨v7, rfl, by rw [List.length_append, HM.out]; exact O7.out, b7.out⟩
end Go.Proofs.YtelebhcaljepaaaDoor
