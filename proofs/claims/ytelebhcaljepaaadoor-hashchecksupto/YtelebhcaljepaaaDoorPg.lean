/- The walks of Path and Proof. -/
import Derived.Test.YtelebhcaljepaaaDoorPf
namespace Go.Proofs.YtelebhcaljepaaaDoor
open Go.RowKit

theorem path_roots {es : List (List UInt8)} {n i : Nat} (hes : es.length = n) (hi : i < n) : rootsL es (Mt.way Mt.leafE i 0 n).1 = pathL es i := by
  have h := Mt.way_leaf nodeL nilL es i n 0 n (by omega) (Nat.zero_le _) hi (by omega)
  have hp : Mt.piece es 0 n = es := by rw [← hes]; exact Mt.piece_all es
  rw [hp, Nat.sub_zero] at h
  exact h
theorem proof_roots {es : List (List UInt8)} {n m : Nat} (hes : es.length = n) (h1 : 1 ≤ m) (hm : m ≤ n) :
    proofL es m = (if (Mt.way (Mt.endE m) (m - 1) 0 n).2 = 0 then [] else [rootL (Mt.piece es (Mt.way (Mt.endE m) (m - 1) 0 n).2 m)]) ++ rootsL es (Mt.way (Mt.endE m) (m - 1) 0 n).1 := by
  have h := Mt.way_sub nodeL nilL es m h1 n 0 n (by omega) (by omega) hm (by omega) true
  have hp : Mt.piece es 0 n = es := by rw [← hes]; exact Mt.piece_all es
  rw [hp, Nat.sub_zero] at h
  simp only [Bool.true_and, decide_eq_true_eq] at h
  exact h
theorem WayA.src {w w' : World} {row : List Mt.Sd} {v : Value} (h : WayA w row v w') : ∃ rp rc, v = .slice rp row.length rc ∧ RSrc sideKind w' rp row.length rc row := by
  obtain ⟨rp, rc, e, hr, _⟩ := RSrc.own sideKind_ok h.1 (fun _ _ => trivial)
  exact ⟨rp, rc, e, hr⟩
set_option maxHeartbeats 2000000 in
set_option maxRecDepth 100000 in
theorem path_bad (n : Nat) (i : Int) (ao : Option Addr) (c : Nat) (w : World) (hi : i < 0 ∨ (n : Int) ≤ i) :
    Calls Tryd.prog 16 #[.slice ao n c, .int .i64 i] w fun e w' => e = .returned (.tuple #[.slice none 0 0, .int .i64 8]) ∧ Below w.heap.size w w' := by
  go_enter Tryd.func16, Tryd.ntmps16
  by_cases h : i < 0
  · go_wp2
    go_ret2
    exact ⟨rfl, Below.refl _ _⟩
  · have h1 : (n : Int) ≤ i := by omega
    go_wp2
    go_ret2
    exact ⟨rfl, Below.refl _ _⟩
set_option maxHeartbeats 2000000 in
set_option maxRecDepth 100000 in
theorem proof_bad (n : Nat) (m : Int) (ao : Option Addr) (c : Nat) (w : World) (hm : m < 1 ∨ (n : Int) < m) :
    Calls Tryd.prog 18 #[.slice ao n c, .int .i64 m] w fun e w' => e = .returned (.tuple #[.slice none 0 0, .int .i64 8]) ∧ Below w.heap.size w w' := by
  go_enter Tryd.func18, Tryd.ntmps18
  by_cases h : m < 1
  · go_wp2
    go_ret2
    exact ⟨rfl, Below.refl _ _⟩
  · have h1 : (n : Int) < m := by omega
    go_wp2
    go_ret2
    exact ⟨rfl, Below.refl _ _⟩
set_option maxHeartbeats 2000000 in
set_option maxRecDepth 100000 in
theorem path_any (n : Nat) (es : List (List UInt8)) (hes : es.length = n) (i : Nat) (hi : i < n) (ao : Option Addr) (c : Nat) (w : World) (hL : Ld w) (hs : RSrc strKind w ao n c es) (hl : ∀ e ∈ es, e.length ≤ 1099511627776) (hn : n ≤ 1099511627776) :
    Calls Tryd.prog 16 #[.slice ao n c, .int .i64 (i : Int)] w (RowA w (pathL es i)) := by
  have HLd := keep hL
  have HS := keep hs
  have HL := keep hl
  have TL := keep (toLeaf_any i n w hi hn)
  have WI := keep (Mt.way_in (E := Mt.leafE) (i := i) (fun a h1 h2 => Mt.leafE_one a h1 h2) n 0 n (by omega) (Nat.zero_le _) hi)
  rw [← path_roots hes hi]
  obtain ⟨⟨R, en⟩, hR⟩ : ∃ R, Mt.way Mt.leafE i 0 n = R := ⟨_, rfl⟩
  rw [hR] at TL WI ⊢
  simp only at TL WI ⊢
  have hRl : R.length ≤ 40 := Nat.le_trans WI.out.2.2.2 (Mt.lv_le (by show n ≤ 2 ^ 40; exact hn))
  have i0 : ¬ (i : Int) < 0 := by omega
  have i1 : ¬ (n : Int) ≤ (i : Int) := by omega
  have HNN := keep hn
  clear hR hL hs hl hi hes hn
  go_enter Tryd.func16, Tryd.ntmps16
  go_wp2_with fail
  refine TL.out.mono ?_
  rintro e w1 ⟨v, rfl, hA⟩
  obtain ⟨rp, rc, rfl, hrs⟩ := hA.src
  have B1 := keep hA.2
  have RT := keep (roots_any w1 [] (.slice none 0 0) ao n c es rp R.length rc R w1 (HLd.out.below B1.out) (HS.out.below strKind_ok B1.out) HL.out HNN.out hrs (fun s h => ⟨(WI.out.1 s h).2.1, (WI.out.1 s h).2.2⟩) (World.ownsRow_nil _ _ _ _) (Below.refl _ _) (by simp; omega))
  rw [List.nil_append] at RT
  clear hA hrs TL
  go_wp2_with fail
  refine RT.out.mono ?_
  rintro e w2 ⟨v2, rfl, ho2, hb2⟩
  obtain ⟨a2, c2, rfl⟩ := own_is ho2
  have O2 := keep (own_low ho2 B1.out.size)
  have B2 := keep (B1.out.trans (hb2.mono B1.out.size))
  clear ho2 hb2 RT
  go_wp2
  go_ret2
  exact ⟨_, rfl, O2.out, B2.out⟩
set_option maxHeartbeats 2000000 in
set_option maxRecDepth 100000 in
theorem proof_any (n : Nat) (es : List (List UInt8)) (hes : es.length = n) (m : Nat) (hm1 : 1 ≤ m) (hmn : m ≤ n) (ao : Option Addr) (c : Nat) (w : World) (hL : Ld w) (hs : RSrc strKind w ao n c es) (hl : ∀ e ∈ es, e.length ≤ 1099511627776) (hn : n ≤ 1099511627776) :
    Calls Tryd.prog 18 #[.slice ao n c, .int .i64 (m : Int)] w (RowA w (proofL es m)) := by
  obtain ⟨i0, hi0, hz0, hz1, hz2⟩ := info_partsS infoS
  have HLd := keep hL
  have HS := keep hs
  have HL := keep hl
  have hcap := hs.cap
  have TE := keep (toEnd_any m n w hm1 hmn hn)
  have WI := keep (Mt.way_in (E := Mt.endE m) (i := m - 1) (fun a h1 h2 => Mt.endE_one hm1 a h1 h2) n 0 n (by omega) (Nat.zero_le _) (by omega))
  rw [proof_roots hes hm1 hmn]
  obtain ⟨⟨R, en⟩, hR⟩ : ∃ R, Mt.way (Mt.endE m) (m - 1) 0 n = R := ⟨_, rfl⟩
  rw [hR] at TE WI ⊢
  simp only at TE WI ⊢
  have hRl : R.length ≤ 40 := Nat.le_trans WI.out.2.2.2 (Mt.lv_le (by show n ≤ 2 ^ 40; exact hn))
  have hen : en ≤ m - 1 := WI.out.2.2.1
  have m0 : ¬ (m : Int) < 1 := by omega
  have m1 : ¬ (n : Int) < (m : Int) := by omega
  have HNN := keep hn
  have PL : Hid ((Mt.piece es en m).length = m - en) := Mt.piece_len (by omega)
  clear hR hL hs hl hes
  by_cases he : en = 0
  · rw [if_pos he, List.nil_append]
    subst he
    clear hen hm1 hmn hn PL
    go_enter Tryd.func18, Tryd.ntmps18
    go_wp2_with fail
    refine TE.out.mono ?_
    rintro e w1 ⟨v, rfl, hA⟩
    obtain ⟨rp, rc, rfl, hrs⟩ := hA.src
    have B1 := keep hA.2
    have RT := keep (roots_any w1 [] (.slice none 0 0) ao n c es rp R.length rc R w1 (HLd.out.below B1.out) (HS.out.below strKind_ok B1.out) HL.out HNN.out hrs (fun s h => ⟨(WI.out.1 s h).2.1, (WI.out.1 s h).2.2⟩) (World.ownsRow_nil _ _ _ _) (Below.refl _ _) (by simp; omega))
    rw [List.nil_append] at RT
    clear hA hrs TE
    go_wp2_with fail
    refine RT.out.mono ?_
    rintro e w2 ⟨v2, rfl, ho2, hb2⟩
    obtain ⟨a2, c2, rfl⟩ := own_is ho2
    have O2 := keep (own_low ho2 B1.out.size)
    have B2 := keep (B1.out.trans (hb2.mono B1.out.size))
    clear ho2 hb2 RT
    go_wp2
    go_ret2
    exact ⟨_, rfl, O2.out, B2.out⟩
  · rw [if_neg he]
    obtain ⟨b1, off1, rfl, _, _⟩ := strs_at HS.out (by omega)
    have e0 : (0 : Int) < (en : Int) := by omega
    have a1 : (en : Int) ≤ (m : Int) := by omega
    have a2 : (m : Int) ≤ (c : Int) := by omega
    have a3 : ¬ c = en := by omega
    have RO : Hid (∀ w1, Below w.heap.size w w1 → Calls Tryd.prog 14 #[.slice (some ⟨b1, off1 + en, none⟩) (m - en) (c - en)] w1 fun e w' => e = .returned (.string ⟨(rootL (Mt.piece es en m)).toArray⟩) ∧ Below w1.heap.size w1 w') := fun w1 hb1 =>
      root_any (m - en) (Mt.piece es en m) PL.out (some ⟨b1, off1 + en, none⟩) (c - en) w1 (HLd.out.below hb1) (strs_tail ((HS.out.below strKind_ok hb1).head strKind_ok m hmn) en (by omega)) (fun e he => HL.out e (List.mem_of_mem_take (List.mem_of_mem_drop he))) (by omega)
    obtain ⟨Y, hY⟩ : ∃ Y, rootL (Mt.piece es en m) = Y := ⟨_, rfl⟩
    rw [hY] at RO ⊢
    clear hY hen hm1 hmn hn PL
    go_enter Tryd.func18, Tryd.ntmps18
    go_wp2_with fail
    refine TE.out.mono ?_
    rintro e w1 ⟨v, rfl, hA⟩
    obtain ⟨rp, rc, rfl, hrs⟩ := hA.src
    have B1 := keep hA.2
    have RS := keep hrs
    clear hA hrs TE
    go_wp2_with fail
    refine (RO.out w1 B1.out).mono ?_
    rintro e w2 ⟨rfl, hb2⟩
    have b2 := keep hb2
    clear hb2 RO
    have rc2 := keep (rec_cells (k := strKind) w2 9 Y)
    have b4 := keep (b2.out.alloc b2.out.size (.cells #[.string ⟨Y.toArray⟩] 9))
    go_wp2_with (first | fail | (at_builtin; go_loud (refine wpList_append_rec strKind_ok rfl _ _ 22 9 rfl w1.heap.size i0 _ 16 Tryd.underlying22 hi0 hz0 hz1 hz2 rfl (.slice none 0 0) 0 [] rfl (World.ownsRow_nil _ _ _ _) _ 1 Y rfl rc2.out (by unfold maxLen; omega) (by omega) b4.out.size ?_); intro v7 w7 ho7 hg7; obtain ⟨a7, c7, rfl⟩ := own_is ho7; have O7 := keep ho7; have b7 := keep (b4.out.grown hg7 b4.out.size (fun j hj => by cases hj)); clear ho7 hg7))
    have RT := keep (roots_any w1 [Y] (.slice a7 1 c7) (some ⟨b1, off1, none⟩) n c es rp R.length rc R w7 (HLd.out.below B1.out) (HS.out.below strKind_ok B1.out) HL.out HNN.out RS.out (fun s h => ⟨(WI.out.1 s h).2.1, (WI.out.1 s h).2.2⟩) O7.out b7.out (by simp; omega))
    refine RT.out.mono ?_
    rintro e w8 ⟨v2, rfl, ho2, hb2⟩
    obtain ⟨a8, c8, rfl⟩ := own_is ho2
    have O2 := keep (own_low ho2 B1.out.size)
    have B2 := keep (B1.out.trans (hb2.mono B1.out.size))
    clear ho2 hb2 RT
    go_wp2
    go_ret2
    exact ⟨_, rfl, O2.out, B2.out⟩
end Go.Proofs.YtelebhcaljepaaaDoor
