/- The walk of TableBuilds. -/
import Derived.Test.YtjblicgbdecbcaaGreatZQm
import Derived.Test.YtjblicgbdecbcaaGreatZY2j
import Derived.Test.YtjblicgbdecbcaaGreatZRpj
namespace Go.Proofs.YtjblicgbdecbcaaGreat
open Go.RowKit
open Sk (Ent)

set_option maxHeartbeats 4000000 in
set_option maxRecDepth 100000 in
theorem builds_walk (ao : Option Addr) (n c : Nat) (es : List EV) (w : World) (hsrc : RSrc entKind w ao n c es) (hMAY : ∀ y ∈ es, y.e.key.length ≤ 9223372036854775807 ∧ y.e.val.length ≤ 9223372036854775807) :
    Calls Tryz.prog 3 #[.slice ao n c] w fun e w' => e = .returned (.bool true) ∧ Below w.heap.size w w' := by
  have SRC := keep hsrc
  have MAY := keep hMAY
  have AW := keep (awake_any w)
  have C1 : Hid (∀ w', Below w.heap.size w w' → Calls Tryz.prog 9 #[.slice ao n c] w' fun e w'' => e = .returned (.int .i64 (tchk (es.map (·.e)))) ∧ Below w.heap.size w w'') := fun w' hb => by
    refine (tcheck_any ao n c es w' (hsrc.below entKind_ok hb) hMAY).mono ?_
    rintro e w'' ⟨rfl, hb'⟩
    exact ⟨rfl, hb.trans (hb'.mono hb.size)⟩
  have C2 : Hid (∀ w', Below w.heap.size w w' → Calls Tryz.prog 10 #[.slice ao n c] w' fun e w'' => e = .returned (.int .i64 (tchk (es.map (·.e)))) ∧ Below w.heap.size w w'') := fun w' hb => by
    refine (rtcheck_any ao n c es w' (hsrc.below entKind_ok hb) hMAY).mono ?_
    rintro e w'' ⟨rfl, hb'⟩
    exact ⟨rfl, hb.trans (hb'.mono hb.size)⟩
  obtain ⟨bc, hbc⟩ : ∃ bc, tchk (es.map (·.e)) = bc := ⟨_, rfl⟩
  rw [hbc] at C1 C2
  clear hsrc hMAY hbc
  go_enter Tryz.func3, Tryz.ntmps3
  go_wp2_with fail
  refine AW.out.mono ?_
  rintro e w1 ⟨rfl, hb1⟩
  have B1 := keep hb1
  have BU := keep (tbuild_any ao n c es w1 (SRC.out.below entKind_ok hb1) MAY.out)
  clear hb1 AW
  go_wp2_with fail
  refine BU.out.mono ?_
  rintro e w2 (⟨hok, a2, k2, rfl, ho2, hb2⟩ | ⟨hok, rfl, hb2⟩)
  · have B2 := keep (B1.out.trans (hb2.mono B1.out.size))
    have OK := keep hok
    obtain ⟨_, _, e2, hs2, _⟩ := Src.of_own ho2
    cases e2
    have S2 := keep hs2
    have BR := keep (rtbuild_any ao n c es w2 (SRC.out.below entKind_ok B2.out) MAY.out)
    clear ho2 hs2 hok hb2 BU
    obtain ⟨nb, hnb⟩ : ∃ nb, (Tq.tab (es.map (·.e))).length = nb := ⟨_, rfl⟩
    have HNB := keep hnb
    rw [hnb] at S2 ⊢
    clear hnb
    go_wp2_with fail
    refine BR.out.mono ?_
    rintro e w3 (⟨_, a3, k3, rfl, ho3, hb3⟩ | ⟨hno, _, _⟩)
    · have B3 := keep (B2.out.trans (hb3.mono B2.out.size))
      obtain ⟨_, _, e3, hs3, _⟩ := Src.of_own ho3
      cases e3
      rw [HNB.out] at hs3 ⊢
      have SA := keep (same_any a2 nb k2 _ a3 nb k3 _ w3 (S2.out.below hb3) hs3)
      rw [decide_eq_true rfl] at SA
      clear ho3 hs3 hb3 BR
      go_wp2_with fail
      refine SA.out.mono ?_
      rintro e w4 ⟨rfl, hb4⟩
      have B4 := keep (B3.out.trans (hb4.mono B3.out.size))
      clear hb4 SA
      go_wp2_with fail
      refine (C1.out _ B4.out).mono ?_
      rintro e w5 ⟨rfl, hb5⟩
      have B5 := keep hb5
      clear hb5
      go_wp2_with fail
      refine (C2.out _ B5.out).mono ?_
      rintro e w6 ⟨rfl, hb6⟩
      have B6 := keep hb6
      clear hb6
      go_wp2
      go_ret
      exact ⟨by simp, B6.out⟩
    · rw [OK.out] at hno; cases hno
  · have B2 := keep (B1.out.trans (hb2.mono B1.out.size))
    have OK := keep hok
    have BR := keep (rtbuild_any ao n c es w2 (SRC.out.below entKind_ok B2.out) MAY.out)
    clear hok hb2 BU
    go_wp2_with fail
    refine BR.out.mono ?_
    rintro e w3 (⟨hno, _⟩ | ⟨_, rfl, hb3⟩)
    · rw [OK.out] at hno; cases hno
    · have B3 := keep (B2.out.trans (hb3.mono B2.out.size))
      have SA := keep (same_any none 0 0 [] none 0 0 [] w3 (src_nil w3) (src_nil w3))
      rw [decide_eq_true rfl] at SA
      clear hb3 BR
      go_wp2_with fail
      refine SA.out.mono ?_
      rintro e w4 ⟨rfl, hb4⟩
      have B4 := keep (B3.out.trans (hb4.mono B3.out.size))
      clear hb4 SA
      go_wp2_with fail
      refine (C1.out _ B4.out).mono ?_
      rintro e w5 ⟨rfl, hb5⟩
      have B5 := keep hb5
      clear hb5
      go_wp2_with fail
      refine (C2.out _ B5.out).mono ?_
      rintro e w6 ⟨rfl, hb6⟩
      have B6 := keep hb6
      clear hb6
      go_wp2
      go_ret
      exact ⟨by simp, B6.out⟩
end Go.Proofs.YtjblicgbdecbcaaGreat
