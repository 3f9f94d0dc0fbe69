/- The walk of BlockBack. -/
import Derived.Test.YtlhblbaingojaabJc
import Derived.Test.YtlhblbaingojaabVj
import Derived.Test.YtlhblbaingojaabRp
namespace Go.Proofs.Ytlhblbaingojaab
open Go.RowKit
open Sk (Ent)

set_option maxHeartbeats 4000000 in
set_option maxRecDepth 100000 in
theorem back_walk (ao : Option Addr) (n c : Nat) (es : List EV) (a1 : Option Addr) (m1 c1 : Nat) (bs : List UInt8) (w : World) (hsrc : RSrc entKind w ao n c es) (hMAY : ∀ y ∈ es, y.e.key.length ≤ 9223372036854775807 ∧ y.e.val.length ≤ 9223372036854775807) (hb : Src w a1 m1 c1 bs) :
    Calls Try.prog 6 #[.slice ao n c, .slice a1 m1 c1] w fun e w' => e = .returned (.bool true) ∧ Below w.heap.size w w' := by
  have SRC := keep hsrc
  have HB := keep hb
  have MAY := keep hMAY
  have AW := keep (awake_any w)
  clear hsrc hb hMAY
  go_enter Try.func6, Try.ntmps6
  go_wp2_with fail
  refine AW.out.mono ?_
  rintro e w1 ⟨rfl, hb1⟩
  have B1 := keep hb1
  have BU := keep (build_any ao n c es w1 (SRC.out.below entKind_ok hb1) MAY.out)
  clear hb1 AW
  go_wp2_with fail
  refine BU.out.mono ?_
  rintro e w2 (⟨hok, a2, k2, rfl, ho2, hb2⟩ | ⟨hok, rfl, hb2⟩)
  · have B2 := keep (B1.out.trans (hb2.mono B1.out.size))
    have OK := keep hok
    obtain ⟨_, _, e2, hs2, _⟩ := Src.of_own ho2
    cases e2
    have S2 := keep hs2
    clear ho2 hs2
    obtain ⟨nb, hnb⟩ : ∃ nb, (Bq.blk (es.map (·.e))).length = nb := ⟨_, rfl⟩
    rw [hnb] at S2 ⊢
    clear hnb
    have PA := keep (parse_any a1 m1 c1 bs w2 (HB.out.below B2.out))
    clear hok hb2 BU
    go_wp2_with fail
    refine PA.out.mono ?_
    rintro e w3 (⟨L3, a3, k3, ys, hp, rfl, hs3, he3, hb3⟩ | ⟨hp, rfl, hb3⟩)
    · have B3 := keep (B2.out.trans (hb3.mono B2.out.size))
      obtain ⟨ok3, eq3⟩ := Bq.parse_some hp
      have BK := keep (build_any a3 ys.length k3 ys w3 hs3 (fun y hy => by
        have := Bq.okB_may ok3 y.e (by rw [← he3]; exact List.mem_map_of_mem hy)
        have := Bq.may_bounds this
        omega))
      rw [he3] at BK
      have D3 := keep hb3
      clear hs3 hb3 PA hp he3
      obtain ⟨ny, hny⟩ : ∃ ny, ys.length = ny := ⟨_, rfl⟩
      rw [hny] at BK ⊢
      clear hny
      have EQ3 := keep eq3
      have OK3 := keep ok3
      clear eq3 ok3
      go_wp2_with fail
      refine BK.out.mono ?_
      rintro e w4 (⟨_, a4, k4, rfl, ho4, hb4⟩ | ⟨hno, _, _⟩)
      · have B4 := keep (B3.out.trans (hb4.mono B3.out.size))
        have D4 := keep (D3.out.trans (hb4.mono D3.out.size))
        rw [EQ3.out] at ho4 ⊢
        obtain ⟨_, _, e4, hs4, _⟩ := Src.of_own ho4
        cases e4
        have SA := keep (same_any a4 _ k4 _ a1 m1 c1 bs w4 hs4 (HB.out.below B4.out))
        rw [decide_eq_true rfl] at SA
        clear ho4 hb4 hs4 BK
        obtain ⟨n4, hn4⟩ : ∃ n4, bs.length = n4 := ⟨_, rfl⟩
        rw [hn4] at SA ⊢
        clear hn4
        go_wp2_with fail
        refine SA.out.mono ?_
        rintro e w5 ⟨rfl, hb5⟩
        have B5 := keep (B4.out.trans (hb5.mono B4.out.size))
        have D5 := keep (D4.out.trans (hb5.mono D4.out.size))
        clear hb5 SA
        have P5 := keep (parse_any a2 nb k2 _ w5 (S2.out.below D5.out))
        go_wp2_with fail
        refine P5.out.mono ?_
        rintro e w6 (⟨L6, a6, k6, zs, hp, rfl, hs6, he6, hb6⟩ | ⟨hp, _, _⟩)
        · rw [Bq.parse_blk OK.out] at hp
          cases hp
          have B6 := keep (B5.out.trans (hb6.mono B5.out.size))
          have hzn : zs.length = n := by
            have h1 := congrArg List.length he6
            rw [List.length_map, List.length_map] at h1
            rw [h1]
            exact SRC.out.len
          have h8 := (Bq.okB_len OK.out).2
          rw [List.length_map, SRC.out.len] at h8
          rw [hzn] at hs6 ⊢
          have SY := keep (same_yes a6 n k6 zs ao c es w6 (by omega) hs6 (SRC.out.below entKind_ok B6.out) he6)
          clear hb6 hs6 P5 he6 hzn
          go_wp2_with fail
          refine SY.out.mono ?_
          rintro e w7 ⟨rfl, hb7⟩
          have B7 := keep (B6.out.trans (hb7.mono B6.out.size))
          clear hb7
          go_wp2
          go_ret
          exact ⟨rfl, B7.out⟩
        · rw [Bq.parse_blk OK.out] at hp; cases hp
      · rw [OK3.out] at hno; cases hno
    · have B5 := keep (B2.out.trans (hb3.mono B2.out.size))
      have D5 := keep hb3
      clear hb3 PA hp
      have P5 := keep (parse_any a2 nb k2 _ w3 (S2.out.below D5.out))
      go_wp2_with fail
      refine P5.out.mono ?_
      rintro e w6 (⟨L6, a6, k6, zs, hp, rfl, hs6, he6, hb6⟩ | ⟨hp, _, _⟩)
      · rw [Bq.parse_blk OK.out] at hp
        cases hp
        have B6 := keep (B5.out.trans (hb6.mono B5.out.size))
        have hzn : zs.length = n := by
          have h1 := congrArg List.length he6
          rw [List.length_map, List.length_map] at h1
          rw [h1]
          exact SRC.out.len
        have h8 := (Bq.okB_len OK.out).2
        rw [List.length_map, SRC.out.len] at h8
        rw [hzn] at hs6 ⊢
        have SY := keep (same_yes a6 n k6 zs ao c es w6 (by omega) hs6 (SRC.out.below entKind_ok B6.out) he6)
        clear hb6 hs6 P5 he6 hzn
        go_wp2_with fail
        refine SY.out.mono ?_
        rintro e w7 ⟨rfl, hb7⟩
        have B7 := keep (B6.out.trans (hb7.mono B6.out.size))
        clear hb7
        go_wp2
        go_ret
        exact ⟨rfl, B7.out⟩
      · rw [Bq.parse_blk OK.out] at hp; cases hp
  · have B2 := keep (B1.out.trans (hb2.mono B1.out.size))
    have OK := keep hok
    have PA := keep (parse_any a1 m1 c1 bs w2 (HB.out.below B2.out))
    clear hok hb2 BU
    go_wp2_with fail
    refine PA.out.mono ?_
    rintro e w3 (⟨L3, a3, k3, ys, hp, rfl, hs3, he3, hb3⟩ | ⟨hp, rfl, hb3⟩)
    · have B3 := keep (B2.out.trans (hb3.mono B2.out.size))
      obtain ⟨ok3, eq3⟩ := Bq.parse_some hp
      have BK := keep (build_any a3 ys.length k3 ys w3 hs3 (fun y hy => by
        have := Bq.okB_may ok3 y.e (by rw [← he3]; exact List.mem_map_of_mem hy)
        have := Bq.may_bounds this
        omega))
      rw [he3] at BK
      have D3 := keep hb3
      clear hs3 hb3 PA hp he3
      obtain ⟨ny, hny⟩ : ∃ ny, ys.length = ny := ⟨_, rfl⟩
      rw [hny] at BK ⊢
      clear hny
      have EQ3 := keep eq3
      have OK3 := keep ok3
      clear eq3 ok3
      go_wp2_with fail
      refine BK.out.mono ?_
      rintro e w4 (⟨_, a4, k4, rfl, ho4, hb4⟩ | ⟨hno, _, _⟩)
      · have B4 := keep (B3.out.trans (hb4.mono B3.out.size))
        have D4 := keep (D3.out.trans (hb4.mono D3.out.size))
        rw [EQ3.out] at ho4 ⊢
        obtain ⟨_, _, e4, hs4, _⟩ := Src.of_own ho4
        cases e4
        have SA := keep (same_any a4 _ k4 _ a1 m1 c1 bs w4 hs4 (HB.out.below B4.out))
        rw [decide_eq_true rfl] at SA
        clear ho4 hb4 hs4 BK
        obtain ⟨n4, hn4⟩ : ∃ n4, bs.length = n4 := ⟨_, rfl⟩
        rw [hn4] at SA ⊢
        clear hn4
        go_wp2_with fail
        refine SA.out.mono ?_
        rintro e w5 ⟨rfl, hb5⟩
        have B5 := keep (B4.out.trans (hb5.mono B4.out.size))
        have D5 := keep (D4.out.trans (hb5.mono D4.out.size))
        clear hb5 SA
        go_wp2
        go_ret
        exact ⟨rfl, B5.out⟩
      · rw [OK3.out] at hno; cases hno
    · have B5 := keep (B2.out.trans (hb3.mono B2.out.size))
      have D5 := keep hb3
      clear hb3 PA hp
      go_wp2
      go_ret
      exact ⟨rfl, B5.out⟩
end Go.Proofs.Ytlhblbaingojaab
