/- The walk of the document's Split. -/
import Derived.Test.YtomceheophnjnaaDoorSl
import Derived.Test.YtomceheophnjnaaDoorRf
import Derived.Test.YtomceheophnjnaaDoorRm
namespace Go.Proofs.YtomceheophnjnaaDoor
open Go.RowKit

set_option maxHeartbeats 1000000 in
set_option maxRecDepth 100000 in
theorem rsplit_any (ao : Option Addr) (m c : Nat) (l : List UInt8) (w : World) (hm : m ≤ 140737488355328) (hs : Src w ao m c l) :
    Calls Tryd.prog 13 #[.slice ao m c] w fun e w' => Splitted w l e w' := by
  have hll := hs.len
  have KT := keep (rtakeFix_any ao m c l w hm hs)
  clear hs
  go_enter Tryd.func13, Tryd.ntmps13
  go_wp2_with fail
  refine KT.out.mono ?_
  rintro e w1 (⟨v1, h8, hN, rfl, hn1⟩ | ⟨hN, rfl, hb1⟩)
  · obtain ⟨a1, c1, rfl, s1, _⟩ := hn1.src
    have b1 := keep hn1.2
    have S1 := keep s1
    have hcap := s1.cap
    clear hn1 s1
    obtain ⟨N, hNN⟩ : ∃ N, big (l.take 8) = N := ⟨_, rfl⟩
    rw [hNN] at hN ⊢
    have HNN := keep hNN
    clear hNN
    rcases Nat.eq_zero_or_pos (m - 8) with h0 | h0
    · rw [h0]
      go_wp2
      (try simp only [Exit.inBlock, Exit.then]); refine bodyPost_ret (results_tmp4 rfl _ _ _) rfl ?_
      exact .inr ⟨fun h => by have := h.1; omega, rfl, b1.out⟩
    · obtain ⟨k, hk⟩ : ∃ k, m - 8 = k := ⟨_, rfl⟩
      rw [hk] at S1 h0 hcap ⊢
      have hk2 : ¬ ((k : Int) = 0) := by omega
      obtain ⟨b, off, rfl, hbw, hby⟩ := S1.out.form (by omega)
      have hcell : w1.cell? ⟨b, off, none⟩ = some (.int .u8 ((fn (l.drop 8) 0).toNat : Int)) := hby 0 h0
      have e8 : fn (l.drop 8) 0 = fn l 8 := by unfold fn; simp [List.getD]
      rw [e8] at hcell
      clear hby e8
      have HT := keep (S1.out.tailS 1 (by omega))
      have HT0 := keep (fun h => S1.out.tail0 1 h)
      obtain ⟨y, hy⟩ : ∃ y, fn l 8 = y := ⟨_, rfl⟩
      rw [hy] at hcell
      have HY := keep hy
      clear hy
      have hi0 : (0 : Int) < (k : Int) := by omega
      have hy256 : (y.toNat : Int) < 256 := by have := y.toNat_lt; omega
      have hyw : IntKind.i64.wrap (y.toNat : Int) = (y.toNat : Int) := wrap_small _ (by omega) (by omega)
      have hc1 : (1 : Int) ≤ (c1 : Int) := by omega
      have hm1 : (1 : Int) ≤ (k : Int) := by omega
      by_cases hck : 1 = c1
      · have HT1 := keep (HT0.out hck)
        clear HT0 HT
        subst hck
        obtain rfl : k = 1 := by omega
        by_cases hf : Fit (N : Int) (y.toNat : Int) (0)
        · have hT := hf.1.2
          have hL := hf.2.2
          have KM := keep (rmake_yes N y.toNat (some ⟨b, off, none⟩) (0) (0) _ w1.drew (by omega) (by omega) hL ((HT1.out).below (Below.refl _ _).drew))
          clear hf
          go_wp2_with fail
          go_region_with (go_at_call 8; go_fit KM.out; rintro e w2 ⟨v2, rfl, hn2⟩; have b2 := keep ((Below.refl w1.heap.size w1).drew.trans hn2.2); have hc2 : w2.cell? ⟨b, off, none⟩ = some (.int .u8 (y.toNat : Int)) := (by rw [b2.out.cell (p := ⟨b, off, none⟩) hbw]; exact hcell); have S2 := keep ((HT1.out).below b2.out); clear hn2)
          all_goals
            go_wp2_with fail
            go_quiet (fail)
            go_wp2
            (try simp only [Exit.inBlock, Exit.then]); refine bodyPost_ret (results_tmp4 rfl _ _ _) rfl ?_
            refine .inl ⟨⟨by omega, by rw [HNN.out]; omega, by omega⟩, some ⟨b, off, none⟩, 0, ?_, ?_, below_drewN (b1.out.trans (b2.out.mono b1.out.size)) _⟩
            · rw [HNN.out, HY.out, show l.length - 9 = 0 by omega]; rfl
            · rw [show l.length - 9 = 0 by omega, show l.drop 9 = (l.drop 8).drop 1 by rw [List.drop_drop]]
              exact S2.out.below (below_drewN (Below.refl _ _) _)
        · have KM := keep (rmake_no (N : Int) (y.toNat : Int) (some ⟨b, off, none⟩) (0) (0) w1.drew hf)
          have HF := keep hf
          clear hf
          go_wp2_with fail
          go_region_with (go_at_call 8; go_fit KM.out; rintro e w2 ⟨rfl, hb2⟩; have b2 := keep ((Below.refl w1.heap.size w1).drew.trans hb2); clear hb2)
          all_goals
            go_wp2
            (try simp only [Exit.inBlock, Exit.then]); refine bodyPost_ret (results_tmp4 rfl _ _ _) rfl ?_
            refine .inr ⟨fun h => HF.out ⟨⟨by omega, ?_⟩, ⟨by omega, by omega⟩, ?_⟩, rfl, b1.out.trans (b2.out.mono b1.out.size)⟩
            · have := h.2.1
              rw [HNN.out] at this
              omega
            · have := h.2.2
              omega
      · have hck1 : ¬ ((1 : Int) = (c1 : Int)) := by omega
        by_cases hf : Fit (N : Int) (y.toNat : Int) (k - 1)
        · have hT := hf.1.2
          have hL := hf.2.2
          have KM := keep (rmake_yes N y.toNat (some ⟨b, off + 1, none⟩) (k - 1) (c1 - 1) _ w1.drew (by omega) (by omega) hL ((HT.out).below (Below.refl _ _).drew))
          clear hf
          go_wp2_with fail
          go_region_with (go_at_call 8; go_fit KM.out; rintro e w2 ⟨v2, rfl, hn2⟩; have b2 := keep ((Below.refl w1.heap.size w1).drew.trans hn2.2); have hc2 : w2.cell? ⟨b, off, none⟩ = some (.int .u8 (y.toNat : Int)) := (by rw [b2.out.cell (p := ⟨b, off, none⟩) hbw]; exact hcell); have S2 := keep ((HT.out).below b2.out); clear hn2)
          all_goals
            go_wp2_with fail
            go_quiet (fail)
            go_wp2
            (try simp only [Exit.inBlock, Exit.then]); refine bodyPost_ret (results_tmp4 rfl _ _ _) rfl ?_
            refine .inl ⟨⟨by omega, by rw [HNN.out]; omega, by omega⟩, some ⟨b, off + 1, none⟩, c1 - 1, ?_, ?_, below_drewN (b1.out.trans (b2.out.mono b1.out.size)) _⟩
            · rw [HNN.out, HY.out, show l.length - 9 = k - 1 by omega]; rfl
            · rw [show l.length - 9 = k - 1 by omega, show l.drop 9 = (l.drop 8).drop 1 by rw [List.drop_drop]]
              exact S2.out.below (below_drewN (Below.refl _ _) _)
        · have KM := keep (rmake_no (N : Int) (y.toNat : Int) (some ⟨b, off + 1, none⟩) (k - 1) (c1 - 1) w1.drew hf)
          have HF := keep hf
          clear hf
          go_wp2_with fail
          go_region_with (go_at_call 8; go_fit KM.out; rintro e w2 ⟨rfl, hb2⟩; have b2 := keep ((Below.refl w1.heap.size w1).drew.trans hb2); clear hb2)
          all_goals
            go_wp2
            (try simp only [Exit.inBlock, Exit.then]); refine bodyPost_ret (results_tmp4 rfl _ _ _) rfl ?_
            refine .inr ⟨fun h => HF.out ⟨⟨by omega, ?_⟩, ⟨by omega, by omega⟩, ?_⟩, rfl, b1.out.trans (b2.out.mono b1.out.size)⟩
            · have := h.2.1
              rw [HNN.out] at this
              omega
            · have := h.2.2
              omega
  · have b1 := keep hb1
    clear hb1
    go_wp2
    (try simp only [Exit.inBlock, Exit.then]); refine bodyPost_ret (results_tmp4 rfl _ _ _) rfl ?_
    refine .inr ⟨fun h => ?_, rfl, b1.out⟩
    have h1 := h.1
    have h2 := h.2.1
    omega
end Go.Proofs.YtomceheophnjnaaDoor
