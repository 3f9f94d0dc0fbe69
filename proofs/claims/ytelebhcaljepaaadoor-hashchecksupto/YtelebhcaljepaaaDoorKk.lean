/- The walk of the document's walk: both roots by a proof. -/
import Derived.Test.YtelebhcaljepaaaDoorKj
namespace Go.Proofs.YtelebhcaljepaaaDoor
open Go.RowKit

theorem Tk.lt {z : Nat} {w : World} {t : Nat} {s : List (List UInt8) × Bool} (h : Tk z w t s) : z ≤ w.heap.size := by
  obtain ⟨ao, n, c, h1, _⟩ := h.row
  have := (Array.getElem?_eq_some_iff.1 h1).1
  have := h.ge
  omega
/-- What walk answers. -/
def WkA (z t : Nat) (w : World) (r : (List UInt8 × List UInt8) × (List (List UInt8) × Bool)) (e : Ending) (w' : World) : Prop := e = .returned (.tuple #[.string ⟨r.1.1.toArray⟩, .string ⟨r.1.2.toArray⟩]) ∧ Tk z w' t r.2 ∧ Below z w w'
set_option maxHeartbeats 2000000 in
set_option maxRecDepth 100000 in
theorem rwalk_any : ∀ (n m : Nat) (own : Bool), 1 ≤ m → m ≤ n → n ≤ 1099511627776 → ∀ (old : List UInt8) (z t : Nat) (s : List (List UInt8) × Bool) (w : World), Tk z w t s → short s.1 → old.length ≤ 1099511627776 →
    Calls Tryd.prog 44 #[.pointer (some ⟨t, 0, none⟩), .int .i64 (m : Int), .int .i64 (n : Int), .bool own, .string ⟨old.toArray⟩] w (WkA z t w (Mt.walk nodeL [] m n own old s)) := by
  intro n
  induction n using Nat.strongRecOn with
  | _ n ih =>
    intro m own hm1 hmn hn old z t s w hT hsh ho
    have IH := keep ih
    have T0 := keep hT
    have SH := keep hsh
    clear ih hT hsh
    by_cases hm : m = n
    · subst hm
      rw [Mt.walk_all nodeL [] rfl]
      cases own with
      | true =>
        rw [if_pos rfl]
        go_enter Tryd.func44, Tryd.ntmps44
        go_wp2
        go_ret2
        exact ⟨rfl, T0.out, Below.refl _ _⟩
      | false =>
        rw [if_neg (by decide)]
        have NE := keep (rnext_any z t s w T0.out)
        obtain ⟨Q, hQ⟩ : ∃ Q, Mt.nx [] s = Q := ⟨_, rfl⟩
        rw [hQ] at NE ⊢
        obtain ⟨q, S2⟩ := Q
        simp only at NE ⊢
        clear hQ
        go_enter Tryd.func44, Tryd.ntmps44
        go_wp2_with fail
        refine NE.out.mono ?_
        rintro e w1 ⟨rfl, hT1, hb1⟩
        have T1 := keep hT1
        have b1 := keep hb1
        clear hT1 hb1 NE
        go_wp2
        go_ret2
        exact ⟨rfl, T1.out, b1.out⟩
    have hmlt : m < n := by omega
    have mn : ¬ (m : Int) = (n : Int) := by omega
    have h2 : 2 ≤ n := by omega
    have hlt := Mt.cut_lt h2
    have hpo := Mt.cut_pos n
    have CU := keep (rcut_any n w h2 (by omega))
    by_cases hk : m ≤ Mt.cut n
    · have W0 := keep (walk_len (Mt.cut n) m own old s hm1 hk SH.out ho)
      rw [Mt.walk_left nodeL [] hmlt hm1 hk]
      obtain ⟨k, hkk⟩ : ∃ k, Mt.cut n = k := ⟨_, rfl⟩
      rw [hkk] at hlt hpo CU W0 hk ⊢
      clear hkk
      have PA : Hid (∀ w', Tk z w' t s → Calls Tryd.prog 44 #[.pointer (some ⟨t, 0, none⟩), .int .i64 (m : Int), .int .i64 (k : Int), .bool own, .string ⟨old.toArray⟩] w' (WkA z t w' (Mt.walk nodeL [] m k own old s))) := fun w' h => IH.out k (by omega) m own (by omega) (by omega) (by omega) old z t s w' h SH.out ho
      obtain ⟨R, hR⟩ : ∃ R, Mt.walk nodeL [] m k own old s = R := ⟨_, rfl⟩
      rw [hR] at PA W0 ⊢
      clear hR
      obtain ⟨⟨A, Bq⟩, S1⟩ := R
      simp only at PA W0 ⊢
      unfold WkA at PA
      simp only at PA
      have hAL := W0.out.1.1
      have hBL := W0.out.1.2
      have hqL := (nx_len W0.out.2).1
      have NE : Hid (∀ w', Tk z w' t S1 → _) := fun w' h => rnext_any z t S1 w' h
      obtain ⟨Q, hQ⟩ : ∃ Q, Mt.nx [] S1 = Q := ⟨_, rfl⟩
      rw [hQ] at NE hqL ⊢
      obtain ⟨q, S2⟩ := Q
      simp only at NE hqL ⊢
      clear hQ W0
      have ik : (m : Int) ≤ (k : Int) := by omega
      go_enter Tryd.func44, Tryd.ntmps44
      go_wp2_with fail
      refine CU.out.mono ?_
      rintro e w1 ⟨rfl, hb1⟩
      have T1 := keep (T0.out.below hb1)
      have b1 := keep (hb1.mono T0.out.lt)
      clear hb1 CU
      go_wp2_with fail
      refine (PA.out w1 T1.out).mono ?_
      rintro e w2 ⟨rfl, hT2, hb2⟩
      have T2 := keep hT2
      have b2 := keep (b1.out.trans hb2)
      clear hT2 hb2 PA
      go_wp2_with fail
      refine (NE.out w2 T2.out).mono ?_
      rintro e w3 ⟨rfl, hT3, hb3⟩
      have T3 := keep hT3
      have b3 := keep (b2.out.trans hb3)
      clear hT3 hb3 NE
      go_wp2_with fail
      refine (rnode_any Bq q w3 (by omega)).mono ?_
      rintro e w4 ⟨rfl, hb4⟩
      have T4 := keep (T3.out.below hb4)
      have b4 := keep (b3.out.trans (hb4.mono T3.out.lt))
      clear hb4
      go_wp2
      go_ret2
      exact ⟨rfl, T4.out, b4.out⟩
    · have W0 := keep (walk_len (n - Mt.cut n) (m - Mt.cut n) false old s (by omega) (by omega) SH.out ho)
      rw [Mt.walk_right nodeL [] hmlt hm1 hk]
      obtain ⟨k, hkk⟩ : ∃ k, Mt.cut n = k := ⟨_, rfl⟩
      rw [hkk] at hlt hpo CU W0 hk ⊢
      clear hkk
      have PA : Hid (∀ w', Tk z w' t s → Calls Tryd.prog 44 #[.pointer (some ⟨t, 0, none⟩), .int .i64 ((m - k : Nat) : Int), .int .i64 ((n - k : Nat) : Int), .bool false, .string ⟨old.toArray⟩] w' (WkA z t w' (Mt.walk nodeL [] (m - k) (n - k) false old s))) := fun w' h => IH.out (n - k) (by omega) (m - k) false (by omega) (by omega) (by omega) old z t s w' h SH.out ho
      obtain ⟨R, hR⟩ : ∃ R, Mt.walk nodeL [] (m - k) (n - k) false old s = R := ⟨_, rfl⟩
      rw [hR] at PA W0 ⊢
      clear hR
      obtain ⟨⟨A, Bq⟩, S1⟩ := R
      simp only at PA W0 ⊢
      unfold WkA at PA
      simp only at PA
      have hAL := W0.out.1.1
      have hBL := W0.out.1.2
      have hqL := (nx_len W0.out.2).1
      have NE : Hid (∀ w', Tk z w' t S1 → _) := fun w' h => rnext_any z t S1 w' h
      obtain ⟨Q, hQ⟩ : ∃ Q, Mt.nx [] S1 = Q := ⟨_, rfl⟩
      rw [hQ] at NE hqL ⊢
      obtain ⟨q, S2⟩ := Q
      simp only at NE hqL ⊢
      clear hQ W0
      have ik : ¬ (m : Int) ≤ (k : Int) := by omega
      have e3 : (m : Int) - (k : Int) = ((m - k : Nat) : Int) := by omega
      have e4 : (n : Int) - (k : Int) = ((n - k : Nat) : Int) := by omega
      go_enter Tryd.func44, Tryd.ntmps44
      go_wp2_with fail
      refine CU.out.mono ?_
      rintro e w1 ⟨rfl, hb1⟩
      have T1 := keep (T0.out.below hb1)
      have b1 := keep (hb1.mono T0.out.lt)
      clear hb1 CU
      go_wp2_with fail
      refine (PA.out w1 T1.out).mono ?_
      rintro e w2 ⟨rfl, hT2, hb2⟩
      have T2 := keep hT2
      have b2 := keep (b1.out.trans hb2)
      clear hT2 hb2 PA
      go_wp2_with fail
      refine (NE.out w2 T2.out).mono ?_
      rintro e w3 ⟨rfl, hT3, hb3⟩
      have T3 := keep hT3
      have b3 := keep (b2.out.trans hb3)
      clear hT3 hb3 NE
      go_wp2_with fail
      refine (rnode_any q A w3 (by omega)).mono ?_
      rintro e w4 ⟨rfl, hb4⟩
      have T4 := keep (T3.out.below hb4)
      have b4 := keep (b3.out.trans (hb4.mono T3.out.lt))
      clear hb4
      go_wp2_with fail
      refine (rnode_any q Bq w4 (by omega)).mono ?_
      rintro e w5 ⟨rfl, hb5⟩
      have T5 := keep (T4.out.below hb5)
      have b5 := keep (b4.out.trans (hb5.mono T4.out.lt))
      clear hb5
      go_wp2
      go_ret2
      exact ⟨rfl, T5.out, b5.out⟩
end Go.Proofs.YtelebhcaljepaaaDoor
