/- The walk of code.TakeFrame, behind the number. -/
import Derived.Test.YthnebhddakfadaaGreatDoorJoinTf
namespace Go.Proofs.YthnebhddakfadaaGreatDoor
open Go.RowKit

set_option maxHeartbeats 1000000 in
set_option maxRecDepth 100000 in
theorem takeFrame_end (b off : Nat) (l : List UInt8) (most : Int) (w : World) (n k : Nat) (r : List UInt8) (hm : k + 4 + n ≤ 140737488355328) (hs : Src w (some ⟨b, off, none⟩) (k + 4 + n) (k + 4 + n) l) (hn : takeNum l = some (n, r)) (hk : k + 4 + n - r.length = k) (h1 : (n : Int) ≤ most) (hsc : 0 < n) :
    Calls Tryz.prog 140 #[.slice (some ⟨b, off, none⟩) (k + 4 + n) (k + 4 + n), .int .i64 most] w (TookF w (tfr l most)) := by
  have t3 : k + 4 + n - (k + 4) = n := by omega
  have h0 : (0 : Int) ≤ (k : Int) := by omega
  have t1 : ((k : Int) + 4).toNat = k + 4 := by omega
  have t2 : ((k : Int) + 4 + (n : Int)).toNat = k + 4 + n := by omega
  have KR := keep (readGroups_any (some ⟨b, off, none⟩) (k + 4 + n) (k + 4 + n) l w hm hs)
  have HP := keep (parts hs hn hk (by omega))
  have HN := keep hn
  clear hs hn
  have HK := keep hk
  clear hk
  have g1 : ¬ (most < (n : Int)) := by omega
  have g2 : ¬ (((k : Int) + 4 + (n : Int)) - (k : Int) - 4 < (n : Int)) := by omega
  obtain ⟨X, hX⟩ : ∃ X, crc (num n ++ (r.drop 4).take n) = X := ⟨_, rfl⟩
  obtain ⟨Y, hY⟩ : ∃ Y, big (r.take 4) = Y := ⟨_, rfl⟩
  have KC := keep (fun w' (hb : Below w.heap.size w w') => crcOf_any (some ⟨b, off, none⟩) k (k + 4 + n) (num n) (some ⟨b, off + (k + 4), none⟩) n n ((r.drop 4).take n) w' (by omega) (by omega) (HP.out.below hb).head (by have := (HP.out.below hb).body; rwa [t3] at this))
  rw [hX] at KC
  have KB := keep (fun w' (hb : Below w.heap.size w w') => clone_any (some ⟨b, off + (k + 4), none⟩) n n ((r.drop 4).take n) w' (by omega) (by have := (HP.out.below hb).body; rwa [t3] at this))
  have KE := keep (fun w' (hb : Below w.heap.size w w') => clone_any (some ⟨b, off, none⟩) 0 0 (r.drop (4 + n)) w' (by omega) ((HP.out.below hb).rest0 rfl))
  have KH := keep (fun w' (hb : Below w.heap.size w w') => readHigh_any (some ⟨b, off + k, none⟩) 4 (k + 4 + n - k) (r.take 4) w' (by omega) (HP.out.below hb).sum)
  rw [hY] at KH
  have hYl : Y < 4294967296 := by
    have h2 := big_lt (r.take 4)
    rw [hY, HP.out.sum.len] at h2
    exact h2
  have HX := keep hX
  have HY := keep hY
  clear hX hY
  go_enter Tryz.func140, Tryz.ntmps140
  go_wp2_with fail
  go_fit KR.out
  rintro e w1 (⟨n', r', hn, rfl, hb1⟩ | ⟨hn, _, _⟩)
  · rw [HN.out] at hn
    cases hn
    have b1 := keep hb1
    rw [HK.out]
    clear hb1 KR
    go_wp2_with fail
    go_fit (KH.out w1 b1.out)
    rintro e w2 ⟨rfl, hb2⟩
    have b2 := keep (b1.out.trans (hb2.mono b1.out.size))
    clear hb2 b1 KH
    by_cases hXY : Y = X.toNat
    · have hq : (Y : Int) = U X := by rw [hXY]; rfl
      have HT := keep (tfr_yes (most := most) HN.out ⟨by omega, by have := HK.out; omega, by rw [HY.out, HX.out]; exact hXY⟩)
      go_wp2_with fail
      go_region_with (go_at_call 147; go_fit (KC.out w2.drew b2.out.drew); rintro e w3 ⟨rfl, hb3⟩; have b3 := keep (b2.out.drew.trans (hb3.mono b2.out.drew.size)); clear hb3)
      all_goals
        go_wp2_with fail
        go_region_with (first
          | (go_at_call 43; go_fit (KB.out w3.drew b3.out.drew); rintro e w4 ⟨v4, rfl, hn4⟩; obtain ⟨a4, c4, rfl, hs4, _⟩ := hn4.src; have b4 := keep (b3.out.drew.trans (hn4.2.mono b3.out.drew.size)); have S4 := keep hn4.1; have L4 := keep hs4.len; clear hn4 hs4)
          | (go_at_call 43; go_fit (KE.out w4 b4.out); rintro e w5 ⟨v5, rfl, hn5⟩; obtain ⟨a5, c5, rfl, hs5, _⟩ := hn5.src; have b5 := keep (b4.out.trans (hn5.2.mono b4.out.size)); have S5 := keep hs5; have T5 := keep (own_base (B' := w.heap.size) (own_block (w' := w5) S4.out (fun g hg => hn5.2.block g (own_size S4.out hg))) (fun g hg => Nat.le_trans b3.out.drew.size (S4.out.lt g hg).1)); clear hn5 hs5))
        all_goals go_wp2
        all_goals go_ret3
        all_goals exact tookF_yes HT.out L4.out S5.out.len T5.out S5.out b5.out
    · have hq : ¬ ((Y : Int) = U X) := by unfold U; omega
      have HT := keep (tfr_no (most := most) HN.out (fun h => hXY (by have h2 := h.2.2; rw [HY.out, HX.out] at h2; exact h2)))
      go_wp2_with fail
      go_region_with (go_at_call 147; go_fit (KC.out w2.drew b2.out.drew); rintro e w3 ⟨rfl, hb3⟩; have b3 := keep (b2.out.drew.trans (hb3.mono b2.out.drew.size)); clear hb3)
      all_goals go_wp2
      all_goals go_ret3
      all_goals exact tookF_no HT.out b3.out
  · rw [HN.out] at hn; cases hn

end Go.Proofs.YthnebhddakfadaaGreatDoor
