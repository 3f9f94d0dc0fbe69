/- The walk of the document's CheckPath. -/
/- The walk of the document's next: hashes taken in order. -/
/- The walk of the document's walk: both roots by a proof. -/
/- The walk of the document's CheckProof. -/
import Derived.Test.YtelebhcaljepaaaDoorJoinKd
namespace Go.Proofs.YtelebhcaljepaaaDoor
open Go.RowKit

set_option maxHeartbeats 2000000 in
set_option maxRecDepth 100000 in
theorem rcheckPath_any (leaf : List UInt8) (i n : Int) (pp : Option Addr) (m pc : Nat) (ps : List (List UInt8)) (rt : List UInt8) (w : World) (hp : RSrc strKind w pp m pc ps) (hm : m ≤ 4611686018427387904) :
    Calls Tryd.prog 22 #[.string ⟨leaf.toArray⟩, .int .i64 i, .int .i64 n, .slice pp m pc, .string ⟨rt.toArray⟩] w fun e w' => e = .returned (.int .i64 (checkP leaf i n ps rt)) ∧ Below w.heap.size w w' := by
  have HP := keep hp
  have HPL := keep hp.len
  clear hp
  cases hr : inRange i n with
  | false =>
    have hA : checkP leaf i n ps rt = 8 := by unfold checkP; rw [hr]; rfl
    rw [hA]
    unfold inRange at hr
    clear hA
    by_cases h1 : n < 1
    · clear hr
      go_enter Tryd.func22, Tryd.ntmps22
      go_wp2
      go_ret
      exact ⟨rfl, Below.refl _ _⟩
    by_cases h2 : 1099511627776 < n
    · clear hr
      go_enter Tryd.func22, Tryd.ntmps22
      go_wp2
      go_ret
      exact ⟨rfl, Below.refl _ _⟩
    by_cases h3 : i < 0
    · clear hr
      go_enter Tryd.func22, Tryd.ntmps22
      go_wp2
      go_ret
      exact ⟨rfl, Below.refl _ _⟩
    have h4 : n ≤ i := by
      rw [decide_eq_true (show 1 ≤ n by omega), decide_eq_true (show n ≤ 1099511627776 by omega), decide_eq_true (show 0 ≤ i by omega)] at hr
      have := of_decide_eq_false hr
      omega
    clear hr
    go_enter Tryd.func22, Tryd.ntmps22
    go_wp2
    go_ret
    exact ⟨rfl, Below.refl _ _⟩
  | true =>
    have hr2 := hr
    unfold inRange at hr2
    simp only [Bool.and_eq_true, decide_eq_true_eq] at hr2
    obtain ⟨r1, r2, r3, r4⟩ := hr2
    obtain ⟨I, rfl⟩ : ∃ I : Nat, i = (I : Int) := ⟨i.toNat, by omega⟩
    obtain ⟨N, rfl⟩ : ∃ N : Nat, n = (N : Int) := ⟨n.toNat, by omega⟩
    have hA : Hid (checkP leaf (I : Int) (N : Int) ps rt = if pathOk leaf I N ps rt then 0 else 9) := by show _ = _; unfold checkP; rw [hr]; rfl
    have SD := keep (rsides_any N I (by omega) (by omega) w)
    have SL := keep (Nat.le_trans (Mt.sides_len N I (by omega)) (Mt.lv_le (n := N) (j := 40) (by omega)))
    have q1 : ¬ (N : Int) < 1 := by omega
    have q2 : ¬ (1099511627776 : Int) < (N : Int) := by omega
    have q3 : ¬ (I : Int) < 0 := by omega
    have q4 : ¬ (N : Int) ≤ (I : Int) := by omega
    have NO : Hid (∀ w', pathOk leaf I N ps rt = false → Below w.heap.size w w' → Ending.returned (.int .i64 9) = .returned (.int .i64 (checkP leaf (I : Int) (N : Int) ps rt)) ∧ Below w.heap.size w w') := fun w' h hb => ⟨by rw [hA.out, h]; rfl, hb⟩
    have YES : Hid (∀ w', pathOk leaf I N ps rt = true → Below w.heap.size w w' → Ending.returned (.int .i64 0) = .returned (.int .i64 (checkP leaf (I : Int) (N : Int) ps rt)) ∧ Below w.heap.size w w') := fun w' h hb => ⟨by rw [hA.out, h]; rfl, hb⟩
    unfold pathOk at NO YES
    obtain ⟨S, hS⟩ : ∃ S, Mt.sides I N = S := ⟨_, rfl⟩
    rw [hS] at SD SL NO YES
    clear hr r1 r2 r3 r4 hA hS
    go_enter Tryd.func22, Tryd.ntmps22
    go_wp2_with fail
    refine SD.out.mono ?_
    rintro e w1 ⟨v, rfl, ho, hb1⟩
    have B1 := keep hb1
    have O1 := keep ho
    obtain ⟨sp, sc, hv, SS, _⟩ := RSrc.own boolKind_ok ho (fun _ _ => trivial)
    subst hv
    have SSH := keep SS
    obtain ⟨L, hL⟩ : ∃ L, S.length = L := ⟨_, rfl⟩
    rw [hL] at SSH SL NO YES ⊢
    have hL40 := SL.out
    have WH := keep (rwhole_any pp m pc ps w1 (HP.out.below strKind_ok B1.out) hm)
    clear hb1 ho SS SD
    by_cases hml : m = L
    · subst hml
      have hNO := NO.out
      have hYES := YES.out
      rw [HPL.out, decide_eq_true rfl, Bool.true_and] at hNO hYES
      have NO2 := keep hNO
      have YES2 := keep hYES
      clear hNO hYES NO YES
      cases hw1 : wholeL ps with
      | false =>
        rw [hw1] at WH NO2
        clear hw1
        go_wp2_with fail
        refine WH.out.mono ?_
        rintro e w2 ⟨rfl, hb2⟩
        have B2 := keep (B1.out.trans (hb2.mono B1.out.size))
        clear hb2 WH
        go_wp2
        go_ret
        exact NO2.out _ rfl B2.out
      | true =>
        have hmem := wholeL_mem hw1
        rw [hw1] at WH NO2 YES2
        clear hw1
        go_wp2_with fail
        refine WH.out.mono ?_
        rintro e w2 ⟨rfl, hb2⟩
        have B2 := keep (B1.out.trans (hb2.mono B1.out.size))
        have Q2 := keep hb2
        obtain ⟨W3, hW3⟩ : ∃ W3, w2.alloc (.cells #[.string ⟨leaf.toArray⟩, .string ⟨rt.toArray⟩] 9) = W3 := ⟨_, rfl⟩
        have b3 : Hid (Below w2.heap.size w2 W3) := by rw [← hW3]; exact (Below.refl _ _).alloc (Nat.le_refl _) _
        have WH2 : Hid (Calls Tryd.prog 39 #[.slice (some ⟨w2.heap.size, 0, none⟩) 2 2] W3 fun e w' => e = .returned (.bool (wholeL [leaf, rt])) ∧ Below W3.heap.size W3 w') := by rw [← hW3]; exact rwhole_any _ 2 2 [leaf, rt] _ (two_texts w2 leaf rt) (by decide)
        have B3 := keep (B2.out.trans (b3.out.mono B2.out.size))
        clear hb2 WH
        cases hw2 : wholeL [leaf, rt] with
        | false =>
          rw [hw2] at WH2 NO2
          clear hw2
          go_wp2_with fail
          refine WH2.out.mono ?_
          rintro e w4 ⟨rfl, hb4⟩
          have B4 := keep (B3.out.trans (hb4.mono B3.out.size))
          clear hb4 WH2
          go_wp2
          go_ret
          exact NO2.out _ rfl B4.out
        | true =>
          have hmem2 := wholeL_mem hw2
          rw [hw2] at WH2 NO2 YES2
          have hx32 : leaf.length = 32 := hmem2 leaf (by simp)
          clear hw2
          go_wp2_with fail
          refine WH2.out.mono ?_
          rintro e w4 ⟨rfl, hb4⟩
          have B4 := keep (B3.out.trans (hb4.mono B3.out.size))
          have Q4 := keep ((Q2.out.trans (b3.out.mono Q2.out.size)).trans (hb4.mono (Nat.le_trans Q2.out.size b3.out.size)))
          have CL := keep (rclimb_any leaf m sp sc S pp pc ps w4 (SSH.out.below boolKind_ok Q4.out) (HP.out.below strKind_ok B4.out) (by omega) (by omega) (fun e he => by rw [hmem e he]; decide))
          have hlen : S.length = ps.length := by rw [hL, HPL.out]
          have hlast := Mt.climb_at nodeL leaf S ps hlen m (by omega)
          rw [List.take_of_length_le (by omega), List.take_of_length_le (by omega)] at hlast
          have hclen := Mt.climb_len nodeL leaf S ps hlen
          obtain ⟨T, hT⟩ : ∃ T, Mt.top nodeL leaf S ps = T := ⟨_, rfl⟩
          rw [hT] at hlast NO2 YES2
          obtain ⟨C, hC⟩ : ∃ C, Mt.climb nodeL leaf S ps = C := ⟨_, rfl⟩
          rw [hC] at hlast hclen CL
          clear hb4 WH2 hT hC hmem hmem2 hx32 hlen hW3
          go_wp2_with fail
          refine CL.out.mono ?_
          rintro e w5 ⟨v5, rfl, ho5, hb5⟩
          have B5 := keep (B4.out.trans (hb5.mono B4.out.size))
          rw [hclen, hL] at ho5
          obtain ⟨cp, cc, hv5, hR5, _⟩ := RSrc.own strKind_ok ho5 (fun _ _ => trivial)
          subst hv5
          obtain ⟨b6, off6, hb6, _, hc6⟩ := strs_at hR5 (by omega)
          subst hb6
          have c6 : w5.cell? ⟨b6, off6 + m, none⟩ = some (.string ⟨T.toArray⟩) := hc6 m T hlast
          have m0 : (0 : Int) ≤ (m : Int) := by omega
          have m1 : (m : Int) < ((m + 1 : Nat) : Int) := by omega
          have m2 : ((m + 1 : Nat) : Int) - 1 = (m : Int) := by omega
          clear ho5 hb5 hR5 hc6 CL hlast hclen hL
          by_cases hTr : T = rt
          · have Y3 := keep (YES2.out)
            rw [decide_eq_true hTr] at Y3
            subst hTr
            go_wp2
            go_ret
            exact Y3.out _ rfl B5.out
          · have N3 := keep (NO2.out)
            rw [decide_eq_false hTr] at N3
            have hne : (T == rt) = false := by simpa using hTr
            clear hTr
            go_wp2
            go_ret
            exact N3.out _ rfl B5.out
    · have hml2 : ¬ (m : Int) = (L : Int) := by omega
      have hNO := NO.out
      rw [HPL.out, decide_eq_false hml, Bool.false_and] at hNO
      have NO2 := keep hNO
      clear hNO NO YES WH hml
      go_wp2
      go_ret
      exact NO2.out _ (by first | rfl | trivial) B1.out
end Go.Proofs.YtelebhcaljepaaaDoor
namespace Go.Proofs.YtelebhcaljepaaaDoor
open Go.RowKit

/-- A taker in memory: what it still has, whether there was none. -/
structure Tk (z : Nat) (w : World) (t : Nat) (s : List (List UInt8) × Bool) : Prop where
  ge : z ≤ t
  row : ∃ ao n c, w.heap[t]? = some (.cells #[.slice ao n c, .bool s.2] 66) ∧ RSrc strKind w ao n c s.1 ∧ ∀ ad, ao = some ad → ad.block < z
theorem Tk.below {z : Nat} {w w' : World} {t : Nat} {s : List (List UInt8) × Bool} (h : Tk z w t s) (hb : Below w.heap.size w w') : Tk z w' t s := by
  obtain ⟨ao, n, c, h1, h2, h3⟩ := h.row
  exact ⟨h.ge, ao, n, c, (hb.block t (Array.getElem?_eq_some_iff.1 h1).1).trans h1, h2.below strKind_ok hb, h3⟩
set_option maxHeartbeats 2000000 in
set_option maxRecDepth 100000 in
theorem rnext_any (z t : Nat) (s : List (List UInt8) × Bool) (w : World) (h : Tk z w t s) :
    Calls Tryd.prog 60 #[.pointer (some ⟨t, 0, none⟩)] w fun e w' => e = .returned (.string ⟨(Mt.nx [] s).1.toArray⟩) ∧ Tk z w' t (Mt.nx [] s).2 ∧ Below z w w' := by
  obtain ⟨l, bad⟩ := s
  obtain ⟨ao, n, c, hrow, hs, hz⟩ := h.row
  have HGE := keep h.ge
  have HR := keep hrow
  have HS := keep hs
  have HZ := keep hz
  have hn := hs.len
  have hcap := hs.cap
  have c0 : w.cell? ⟨t, 0, none⟩ = some (.slice ao n c) := cell_of_row _ _ _ _ _ _ hrow
  have f0 : w.frozen? ⟨t, 0, none⟩ = false := by simp [World.frozen?, hrow]
  have f1 : w.frozen? ⟨t, 1, none⟩ = false := by simp [World.frozen?, hrow]
  have c1 : w.cell? ⟨t, 1, none⟩ = some (.bool bad) := cell_of_row _ _ _ _ _ _ hrow
  clear h hrow hz
  cases l with
  | nil =>
    have n0 : n = 0 := by simpa using hn.symm
    subst n0
    have bz : Hid (Below z w (w.setCell ⟨t, 1, none⟩ (.bool true))) := (Below.refl _ _).setCell (p := ⟨t, 1, none⟩) HGE.out _
    have R2 := keep (put_row HR.out 1 (.bool true))
    clear hn hs
    go_enter Tryd.func60, Tryd.ntmps60
    go_wp2
    go_ret
    exact ⟨rfl, ⟨HGE.out, ao, 0, c, R2.out, strs_z HS.out HZ.out bz.out, HZ.out⟩, bz.out⟩
  | cons a r =>
    have hn1 : n = r.length + 1 := by simpa using hn.symm
    obtain ⟨b, off, rfl, _, hcell⟩ := strs_at hs (by omega)
    have ca := hcell 0 a rfl
    rw [Nat.add_zero] at ca
    have TL := keep (strs_tail HS.out 1 (by omega))
    have nn0 : ¬ (n : Int) = 0 := by omega
    have n1 : (1 : Int) ≤ (n : Int) := by omega
    have n2 : (n : Int) ≤ (c : Int) := by omega
    have n3 : (0 : Int) < (n : Int) := by omega
    have e1 : (n : Int) - 1 = ((n - 1 : Nat) : Int) := by omega
    have e2 : (c : Int) - 1 = ((c - 1 : Nat) : Int) := by omega
    clear hcell hs hn
    by_cases hc1 : c = 1
    · have bz : Hid (Below z w (w.setCell ⟨t, 0, none⟩ (.slice (some ⟨b, off, none⟩) 0 0))) := (Below.refl _ _).setCell (p := ⟨t, 0, none⟩) HGE.out _
      have R2 := keep (put_row HR.out 0 (.slice (some ⟨b, off, none⟩) 0 0))
      have hr0 : r = [] := List.length_eq_zero_iff.1 (by omega)
      subst hr0
      have hn2 : n = 1 := by simpa using hn1
      subst hn2
      subst hc1
      clear hn1
      have E0 : Hid (RSrc strKind (w.setCell ⟨t, 0, none⟩ (.slice (some ⟨b, off, none⟩) 0 0)) (some ⟨b, off, none⟩) 0 0 []) := ⟨rfl, Nat.le_refl _, (fun e => by cases e), (fun ad had j u hu => by simp [rv] at hu), fun e he => by cases he⟩
      go_enter Tryd.func60, Tryd.ntmps60
      go_wp2
      go_ret
      exact ⟨rfl, ⟨HGE.out, _, 0, 0, R2.out, E0.out, HZ.out⟩, bz.out⟩
    · have bz : Hid (Below z w (w.setCell ⟨t, 0, none⟩ (.slice (some ⟨b, off + 1, none⟩) (n - 1) (c - 1)))) := (Below.refl _ _).setCell (p := ⟨t, 0, none⟩) HGE.out _
      have R2 := keep (put_row HR.out 0 (.slice (some ⟨b, off + 1, none⟩) (n - 1) (c - 1)))
      have Z2 : Hid (∀ ad, (some ⟨b, off + 1, none⟩ : Option Addr) = some ad → ad.block < z) := fun ad had => by cases had; exact HZ.out ⟨b, off, none⟩ rfl
      clear hn1
      go_enter Tryd.func60, Tryd.ntmps60
      go_wp2
      go_ret
      exact ⟨rfl, ⟨HGE.out, _, n - 1, c - 1, R2.out, strs_z TL.out Z2.out bz.out, Z2.out⟩, bz.out⟩
end Go.Proofs.YtelebhcaljepaaaDoor
namespace Go.Proofs.YtelebhcaljepaaaDoor
open Go.RowKit

theorem Tk.lt {z : Nat} {w : World} {t : Nat} {s : List (List UInt8) × Bool} (h : Tk z w t s) : z ≤ w.heap.size := by
  obtain ⟨ao, n, c, h1, _⟩ := h.row
  have := (Array.getElem?_eq_some_iff.1 h1).1
  have := h.ge
  omega
/-- What walk answers. -/
def WkA (z t : Nat) (w : World) (r : (List UInt8 × List UInt8) × (List (List UInt8) × Bool)) (e : Ending) (w' : World) : Prop := e = .returned (.tuple #[.string ⟨r.1.1.toArray⟩, .string ⟨r.1.2.toArray⟩]) ∧ Tk z w' t r.2 ∧ Below z w w'
set_option maxHeartbeats 2000000 in
set_option maxRecDepth 100000 in
theorem rwalk_any : ∀ (n m : Nat) (own : Bool), 1 ≤ m → m ≤ n → n ≤ 1099511627776 → ∀ (old : List UInt8) (z t : Nat) (s : List (List UInt8) × Bool) (w : World), Tk z w t s → short s.1 → old.length ≤ 1099511627776 →
    Calls Tryd.prog 44 #[.pointer (some ⟨t, 0, none⟩), .int .i64 (m : Int), .int .i64 (n : Int), .bool own, .string ⟨old.toArray⟩] w (WkA z t w (Mt.walk nodeL [] m n own old s)) := by
  intro n
  induction n using Nat.strongRecOn with
  | _ n ih =>
    intro m own hm1 hmn hn old z t s w hT hsh ho
    have IH := keep ih
    have T0 := keep hT
    have SH := keep hsh
    clear ih hT hsh
    by_cases hm : m = n
    · subst hm
      rw [Mt.walk_all nodeL [] rfl]
      cases own with
      | true =>
        rw [if_pos rfl]
        go_enter Tryd.func44, Tryd.ntmps44
        go_wp2
        go_ret2
        exact ⟨rfl, T0.out, Below.refl _ _⟩
      | false =>
        rw [if_neg (by decide)]
        have NE := keep (rnext_any z t s w T0.out)
        obtain ⟨Q, hQ⟩ : ∃ Q, Mt.nx [] s = Q := ⟨_, rfl⟩
        rw [hQ] at NE ⊢
        obtain ⟨q, S2⟩ := Q
        simp only at NE ⊢
        clear hQ
        go_enter Tryd.func44, Tryd.ntmps44
        go_wp2_with fail
        refine NE.out.mono ?_
        rintro e w1 ⟨rfl, hT1, hb1⟩
        have T1 := keep hT1
        have b1 := keep hb1
        clear hT1 hb1 NE
        go_wp2
        go_ret2
        exact ⟨rfl, T1.out, b1.out⟩
    have hmlt : m < n := by omega
    have mn : ¬ (m : Int) = (n : Int) := by omega
    have h2 : 2 ≤ n := by omega
    have hlt := Mt.cut_lt h2
    have hpo := Mt.cut_pos n
    have CU := keep (rcut_any n w h2 (by omega))
    by_cases hk : m ≤ Mt.cut n
    · have W0 := keep (walk_len (Mt.cut n) m own old s hm1 hk SH.out ho)
      rw [Mt.walk_left nodeL [] hmlt hm1 hk]
      obtain ⟨k, hkk⟩ : ∃ k, Mt.cut n = k := ⟨_, rfl⟩
      rw [hkk] at hlt hpo CU W0 hk ⊢
      clear hkk
      have PA : Hid (∀ w', Tk z w' t s → Calls Tryd.prog 44 #[.pointer (some ⟨t, 0, none⟩), .int .i64 (m : Int), .int .i64 (k : Int), .bool own, .string ⟨old.toArray⟩] w' (WkA z t w' (Mt.walk nodeL [] m k own old s))) := fun w' h => IH.out k (by omega) m own (by omega) (by omega) (by omega) old z t s w' h SH.out ho
      obtain ⟨R, hR⟩ : ∃ R, Mt.walk nodeL [] m k own old s = R := ⟨_, rfl⟩
      rw [hR] at PA W0 ⊢
      clear hR
      obtain ⟨⟨A, Bq⟩, S1⟩ := R
      simp only at PA W0 ⊢
      unfold WkA at PA
      simp only at PA
      have hAL := W0.out.1.1
      have hBL := W0.out.1.2
      have hqL := (nx_len W0.out.2).1
      have NE : Hid (∀ w', Tk z w' t S1 → _) := fun w' h => rnext_any z t S1 w' h
      obtain ⟨Q, hQ⟩ : ∃ Q, Mt.nx [] S1 = Q := ⟨_, rfl⟩
      rw [hQ] at NE hqL ⊢
      obtain ⟨q, S2⟩ := Q
      simp only at NE hqL ⊢
      clear hQ W0
      have ik : (m : Int) ≤ (k : Int) := by omega
      go_enter Tryd.func44, Tryd.ntmps44
      go_wp2_with fail
      refine CU.out.mono ?_
      rintro e w1 ⟨rfl, hb1⟩
      have T1 := keep (T0.out.below hb1)
      have b1 := keep (hb1.mono T0.out.lt)
      clear hb1 CU
      go_wp2_with fail
      refine (PA.out w1 T1.out).mono ?_
      rintro e w2 ⟨rfl, hT2, hb2⟩
      have T2 := keep hT2
      have b2 := keep (b1.out.trans hb2)
      clear hT2 hb2 PA
      go_wp2_with fail
      refine (NE.out w2 T2.out).mono ?_
      rintro e w3 ⟨rfl, hT3, hb3⟩
      have T3 := keep hT3
      have b3 := keep (b2.out.trans hb3)
      clear hT3 hb3 NE
      go_wp2_with fail
      refine (rnode_any Bq q w3 (by omega)).mono ?_
      rintro e w4 ⟨rfl, hb4⟩
      have T4 := keep (T3.out.below hb4)
      have b4 := keep (b3.out.trans (hb4.mono T3.out.lt))
      clear hb4
      go_wp2
      go_ret2
      exact ⟨rfl, T4.out, b4.out⟩
    · have W0 := keep (walk_len (n - Mt.cut n) (m - Mt.cut n) false old s (by omega) (by omega) SH.out ho)
      rw [Mt.walk_right nodeL [] hmlt hm1 hk]
      obtain ⟨k, hkk⟩ : ∃ k, Mt.cut n = k := ⟨_, rfl⟩
      rw [hkk] at hlt hpo CU W0 hk ⊢
      clear hkk
      have PA : Hid (∀ w', Tk z w' t s → Calls Tryd.prog 44 #[.pointer (some ⟨t, 0, none⟩), .int .i64 ((m - k : Nat) : Int), .int .i64 ((n - k : Nat) : Int), .bool false, .string ⟨old.toArray⟩] w' (WkA z t w' (Mt.walk nodeL [] (m - k) (n - k) false old s))) := fun w' h => IH.out (n - k) (by omega) (m - k) false (by omega) (by omega) (by omega) old z t s w' h SH.out ho
      obtain ⟨R, hR⟩ : ∃ R, Mt.walk nodeL [] (m - k) (n - k) false old s = R := ⟨_, rfl⟩
      rw [hR] at PA W0 ⊢
      clear hR
      obtain ⟨⟨A, Bq⟩, S1⟩ := R
      simp only at PA W0 ⊢
      unfold WkA at PA
      simp only at PA
      have hAL := W0.out.1.1
      have hBL := W0.out.1.2
      have hqL := (nx_len W0.out.2).1
      have NE : Hid (∀ w', Tk z w' t S1 → _) := fun w' h => rnext_any z t S1 w' h
      obtain ⟨Q, hQ⟩ : ∃ Q, Mt.nx [] S1 = Q := ⟨_, rfl⟩
      rw [hQ] at NE hqL ⊢
      obtain ⟨q, S2⟩ := Q
      simp only at NE hqL ⊢
      clear hQ W0
      have ik : ¬ (m : Int) ≤ (k : Int) := by omega
      have e3 : (m : Int) - (k : Int) = ((m - k : Nat) : Int) := by omega
      have e4 : (n : Int) - (k : Int) = ((n - k : Nat) : Int) := by omega
      go_enter Tryd.func44, Tryd.ntmps44
      go_wp2_with fail
      refine CU.out.mono ?_
      rintro e w1 ⟨rfl, hb1⟩
      have T1 := keep (T0.out.below hb1)
      have b1 := keep (hb1.mono T0.out.lt)
      clear hb1 CU
      go_wp2_with fail
      refine (PA.out w1 T1.out).mono ?_
      rintro e w2 ⟨rfl, hT2, hb2⟩
      have T2 := keep hT2
      have b2 := keep (b1.out.trans hb2)
      clear hT2 hb2 PA
      go_wp2_with fail
      refine (NE.out w2 T2.out).mono ?_
      rintro e w3 ⟨rfl, hT3, hb3⟩
      have T3 := keep hT3
      have b3 := keep (b2.out.trans hb3)
      clear hT3 hb3 NE
      go_wp2_with fail
      refine (rnode_any q A w3 (by omega)).mono ?_
      rintro e w4 ⟨rfl, hb4⟩
      have T4 := keep (T3.out.below hb4)
      have b4 := keep (b3.out.trans (hb4.mono T3.out.lt))
      clear hb4
      go_wp2_with fail
      refine (rnode_any q Bq w4 (by omega)).mono ?_
      rintro e w5 ⟨rfl, hb5⟩
      have T5 := keep (T4.out.below hb5)
      have b5 := keep (b4.out.trans (hb5.mono T4.out.lt))
      clear hb5
      go_wp2
      go_ret2
      exact ⟨rfl, T5.out, b5.out⟩
end Go.Proofs.YtelebhcaljepaaaDoor
namespace Go.Proofs.YtelebhcaljepaaaDoor
open Go.RowKit

set_option maxHeartbeats 2000000 in
set_option maxRecDepth 100000 in
theorem rcheckProof_any (m n : Int) (pp : Option Addr) (q pc : Nat) (ps : List (List UInt8)) (old rt : List UInt8) (w : World) (hp : RSrc strKind w pp q pc ps) (hz : ∀ ad, pp = some ad → ad.block < w.heap.size) (hq : q ≤ 4611686018427387904) (hsh : short ps) (hol : old.length ≤ 1099511627776) :
    Calls Tryd.prog 24 #[.int .i64 m, .int .i64 n, .slice pp q pc, .string ⟨old.toArray⟩, .string ⟨rt.toArray⟩] w fun e w' => e = .returned (.int .i64 (checkF m n ps old rt)) ∧ Below w.heap.size w w' := by
  have HP := keep hp
  have HZ := keep hz
  have SH := keep hsh
  clear hp hz hsh
  cases hr : inRangeF m n with
  | false =>
    have hA : checkF m n ps old rt = 8 := by unfold checkF; rw [hr]; rfl
    rw [hA]
    unfold inRangeF at hr
    clear hA
    by_cases h1 : m < 1
    · clear hr
      go_enter Tryd.func24, Tryd.ntmps24
      go_wp2
      go_ret
      exact ⟨rfl, Below.refl _ _⟩
    by_cases h2 : n < m
    · clear hr
      go_enter Tryd.func24, Tryd.ntmps24
      go_wp2
      go_ret
      exact ⟨rfl, Below.refl _ _⟩
    have h4 : 1099511627776 < n := by
      rw [decide_eq_true (show 1 ≤ m by omega), decide_eq_true (show m ≤ n by omega)] at hr
      have := of_decide_eq_false hr
      omega
    clear hr
    go_enter Tryd.func24, Tryd.ntmps24
    go_wp2
    go_ret
    exact ⟨rfl, Below.refl _ _⟩
  | true =>
    have hr2 := hr
    unfold inRangeF at hr2
    simp only [Bool.and_eq_true, decide_eq_true_eq] at hr2
    obtain ⟨r1, r2, r3⟩ := hr2
    obtain ⟨M, rfl⟩ : ∃ M : Nat, m = (M : Int) := ⟨m.toNat, by omega⟩
    obtain ⟨N, rfl⟩ : ∃ N : Nat, n = (N : Int) := ⟨n.toNat, by omega⟩
    have hA : Hid (checkF (M : Int) (N : Int) ps old rt = if proofOk M N ps old rt then 0 else 9) := by show _ = _; unfold checkF; rw [hr]; rfl
    have q1 : ¬ (M : Int) < 1 := by omega
    have q2 : ¬ (N : Int) < (M : Int) := by omega
    have q3 : ¬ (1099511627776 : Int) < (N : Int) := by omega
    have NO : Hid (∀ w', proofOk M N ps old rt = false → Below w.heap.size w w' → Ending.returned (.int .i64 9) = .returned (.int .i64 (checkF (M : Int) (N : Int) ps old rt)) ∧ Below w.heap.size w w') := fun w' h hb => ⟨by rw [hA.out, h]; rfl, hb⟩
    have YES : Hid (∀ w', proofOk M N ps old rt = true → Below w.heap.size w w' → Ending.returned (.int .i64 0) = .returned (.int .i64 (checkF (M : Int) (N : Int) ps old rt)) ∧ Below w.heap.size w w') := fun w' h hb => ⟨by rw [hA.out, h]; rfl, hb⟩
    unfold proofOk at NO YES
    obtain ⟨W1, hW1⟩ : ∃ W1, w.alloc (.cells #[.slice pp q pc, .bool false] 66) = W1 := ⟨_, rfl⟩
    have b1 : Hid (Below w.heap.size w W1) := by rw [← hW1]; exact (Below.refl _ _).alloc (Nat.le_refl _) _
    have T1 : Hid (Tk w.heap.size W1 w.heap.size (ps, false)) := ⟨Nat.le_refl _, pp, q, pc, by rw [← hW1]; exact heap_alloc_new w _, strs_z HP.out HZ.out b1.out, HZ.out⟩
    have WK := keep (rwalk_any N M true (by omega) (by omega) (by omega) old w.heap.size w.heap.size (ps, false) W1 T1.out SH.out hol)
    obtain ⟨R, hR⟩ : ∃ R, Mt.walk nodeL [] M N true old (ps, false) = R := ⟨_, rfl⟩
    rw [hR] at WK NO YES
    obtain ⟨⟨A, Bq⟩, ⟨L2, bad⟩⟩ := R
    unfold WkA at WK
    simp only at WK NO YES
    clear hr r1 r2 r3 hA hR
    go_enter Tryd.func24, Tryd.ntmps24
    go_wp2_with fail
    refine WK.out.mono ?_
    rintro e w2 ⟨rfl, hT2, hb2⟩
    have b2 := keep (b1.out.trans hb2)
    obtain ⟨ao2, n2, c2, hrow, hs2, _⟩ := hT2.row
    have hn2 := hs2.len
    have t0 : w2.cell? ⟨w.heap.size, 0, none⟩ = some (.slice ao2 n2 c2) := cell_of_row _ _ _ _ _ _ hrow
    have t1 : w2.cell? ⟨w.heap.size, 1, none⟩ = some (.bool bad) := cell_of_row _ _ _ _ _ _ hrow
    simp only at hn2
    rw [hn2] at NO YES
    have WH := keep (rwhole_any pp q pc ps w2 (strs_z HP.out HZ.out b2.out) hq)
    clear hT2 hb2 hrow hs2 hn2 WK hW1
    cases bad with
    | true =>
      clear WH YES
      go_wp2
      go_ret
      exact NO.out _ rfl b2.out
    | false =>
      have hNO := NO.out
      have hYES := YES.out
      rw [Bool.not_false, Bool.true_and] at hNO hYES
      by_cases h0 : n2 = 0
      · rw [decide_eq_true h0, Bool.true_and] at hNO hYES
        have NO2 := keep hNO
        have YES2 := keep hYES
        clear hNO hYES NO YES
        subst h0
        cases hw1 : wholeL ps with
        | false =>
          rw [hw1] at WH NO2
          clear hw1 YES2
          go_wp2_with fail
          refine WH.out.mono ?_
          rintro e w3 ⟨rfl, hb3⟩
          have B3 := keep (b2.out.trans (hb3.mono b2.out.size))
          clear hb3 WH
          go_wp2
          go_ret
          exact NO2.out _ rfl B3.out
        | true =>
          rw [hw1] at WH NO2 YES2
          clear hw1
          go_wp2_with fail
          refine WH.out.mono ?_
          rintro e w3 ⟨rfl, hb3⟩
          have B3 := keep (b2.out.trans (hb3.mono b2.out.size))
          obtain ⟨W4, hW4⟩ : ∃ W4, w3.alloc (.cells #[.string ⟨old.toArray⟩, .string ⟨rt.toArray⟩] 9) = W4 := ⟨_, rfl⟩
          have b4 : Hid (Below w3.heap.size w3 W4) := by rw [← hW4]; exact (Below.refl _ _).alloc (Nat.le_refl _) _
          have WH2 : Hid (Calls Tryd.prog 39 #[.slice (some ⟨w3.heap.size, 0, none⟩) 2 2] W4 fun e w' => e = .returned (.bool (wholeL [old, rt])) ∧ Below W4.heap.size W4 w') := by rw [← hW4]; exact rwhole_any _ 2 2 [old, rt] _ (two_texts w3 old rt) (by decide)
          have B4 := keep (B3.out.trans (b4.out.mono B3.out.size))
          clear hb3 WH
          cases hw2 : wholeL [old, rt] with
          | false =>
            rw [hw2] at WH2 NO2
            clear hw2 YES2
            go_wp2_with fail
            refine WH2.out.mono ?_
            rintro e w5 ⟨rfl, hb5⟩
            have B5 := keep (B4.out.trans (hb5.mono B4.out.size))
            clear hb5 WH2
            go_wp2
            go_ret
            exact NO2.out _ rfl B5.out
          | true =>
            rw [hw2] at WH2 NO2 YES2
            clear hw2
            go_wp2_with fail
            refine WH2.out.mono ?_
            rintro e w5 ⟨rfl, hb5⟩
            have B5 := keep (B4.out.trans (hb5.mono B4.out.size))
            clear hb5 WH2 hW4
            by_cases hA : A = old
            · have hA2 := decide_eq_true hA
              rw [hA2] at NO2 YES2
              subst hA
              by_cases hB : Bq = rt
              · rw [decide_eq_true hB] at YES2
                subst hB
                clear NO2 hA2
                go_wp2
                go_ret
                exact YES2.out _ rfl B5.out
              · rw [decide_eq_false hB] at NO2
                have hne : (Bq == rt) = false := by simpa using hB
                clear hB YES2 hA2
                go_wp2
                go_ret
                exact NO2.out _ rfl B5.out
            · rw [decide_eq_false hA] at NO2
              have hne : (A == old) = false := by simpa using hA
              clear hA YES2
              go_wp2
              go_ret
              exact NO2.out _ rfl B5.out
      · rw [decide_eq_false h0, Bool.false_and] at hNO
        have NO2 := keep hNO
        have h3 : (0 : Int) < (n2 : Int) := by omega
        clear hNO hYES NO YES WH h0
        go_wp2
        go_ret
        exact NO2.out _ (by first | rfl | trivial) b2.out
end Go.Proofs.YtelebhcaljepaaaDoor
