/- The walk of TableOnly. -/
import Derived.Test.YtjblicgbdecbcaaZQm
import Derived.Test.YtjblicgbdecbcaaZRpj
import Derived.Test.YtjblicgbdecbcaaZQe
namespace Go.Proofs.Ytjblicgbdecbcaa
open Go.RowKit
open Sk (Ent)

set_option maxHeartbeats 4000000 in
set_option maxRecDepth 100000 in
theorem only_walk (ao : Option Addr) (m c : Nat) (b : List UInt8) (w : World) (hm : m ≤ 140737488355328) (hs : Src w ao m c b) :
    Calls Try.prog 4 #[.slice ao m c] w fun e w' => e = .returned (.bool true) ∧ Below w.heap.size w w' := by
  have HS := keep hs
  have AW := keep (awake_any w)
  clear hs
  go_enter Try.func4, Try.ntmps4
  go_wp2_with fail
  refine AW.out.mono ?_
  rintro e w1 ⟨rfl, hb1⟩
  have B1 := keep hb1
  have PA := keep (tparse_any ao m c b w1 hm (HS.out.below hb1))
  clear hb1 AW
  go_wp2_with fail
  refine PA.out.mono ?_
  intro e w2 hP
  rcases hP.cases with ⟨L, tb, ds, hp, rfl, hD, hb2⟩ | ⟨_, rfl, hb2⟩
  · have B2 := keep (B1.out.trans (hb2.mono B1.out.size))
    have HP := keep (Tq.tparse_some hp)
    have hl := (Tq.tok_len HP.out.1).2
    have AL := keep (all_done tb ds _ w2 hD.done hD.few hD.small (by rw [hD.evs_len]; omega))
    have EN := keep hD.ents
    have SM := keep hD.small
    clear hP hp hD hb2 PA
    go_wp2_with fail
    refine AL.out.mono ?_
    rintro e w3 ⟨v, rfl, ys, hE, hye, hb3⟩
    rw [EN.out] at hye
    have B3 := keep (B2.out.trans (hb3.mono B2.out.size))
    obtain ⟨a3, c3, rfl, hs3, _⟩ := RSrc.own entKind_ok hE.row (fun y hy => (hE.each y hy).held)
    have BB := keep (tbuild_any a3 ys.length c3 ys w3 hs3 (fun y hy => by
      have hmm : y.e ∈ entsD ds := by rw [EN.out, ← hye]; exact List.mem_map_of_mem hy
      obtain ⟨d, hd, hy2⟩ := List.mem_flatMap.1 hmm
      obtain ⟨y2, hy3, e2⟩ := List.mem_map.1 hy2
      have := (SM.out d hd).2 y2 hy3
      rw [e2] at this
      omega))
    rw [hye] at BB
    clear hE hye hs3 AL hb3
    obtain ⟨n, hn⟩ : ∃ n, ys.length = n := ⟨_, rfl⟩
    rw [hn] at BB ⊢
    clear hn
    go_wp2_with fail
    refine BB.out.mono ?_
    rintro e w4 (⟨hok, a4, c4, rfl, ho4, hb4⟩ | ⟨hok, _, _⟩)
    · have B4 := keep (B3.out.trans (hb4.mono B3.out.size))
      obtain ⟨_, _, e4, hs4, _⟩ := Src.of_own ho4
      cases e4
      have SA := keep (same_any ao m c b a4 _ c4 _ w4 (HS.out.below B4.out) hs4)
      rw [decide_eq_true HP.out.2.symm] at SA
      clear ho4 hs4 hb4 BB hok
      obtain ⟨nb, hnb⟩ : ∃ nb, (Tq.tab L).length = nb := ⟨_, rfl⟩
      rw [hnb] at SA ⊢
      clear hnb
      go_wp2_with fail
      refine SA.out.mono ?_
      rintro e w5 ⟨rfl, hb5⟩
      have B5 := keep (B4.out.trans (hb5.mono B4.out.size))
      clear hb5 SA
      go_wp2
      go_ret
      exact ⟨rfl, B5.out⟩
    · rw [HP.out.1] at hok; cases hok
  · have B2 := keep (B1.out.trans (hb2.mono B1.out.size))
    clear hP hb2 PA
    go_wp2
    go_ret
    exact ⟨rfl, B2.out⟩
end Go.Proofs.Ytjblicgbdecbcaa
