/- The walk of code.TakeText, at the end of the bytes' room; whole. -/
import Derived.Test.YthaiodajfmbeaaaGreatTt
namespace Go.Proofs.YthaiodajfmbeaaaGreat
open Go.RowKit

set_option maxHeartbeats 1000000 in
set_option maxRecDepth 100000 in
theorem takeText_end (b off : Nat) (l : List UInt8) (most : Int) (w : World) (n k : Nat) (r : List UInt8) (hm : k + n ≤ 140737488355328) (hs : Src w (some ⟨b, off, none⟩) (k + n) (k + n) l) (hn : takeNum l = some (n, r)) (hk : k + n - r.length = k) (h1 : (n : Int) ≤ most) (hsc : 0 < n) :
    Calls Tryz.prog 56 #[.slice (some ⟨b, off, none⟩) (k + n) (k + n), .int .i64 most] w (TookT w (txt l most)) := by
  have t1 : ((k : Int) + (n : Int)).toNat = k + n := by omega
  have t3 : k + n - k = n := by omega
  have KR := keep (readGroups_any (some ⟨b, off, none⟩) (k + n) (k + n) l w hm hs)
  have HP := keep (partsT hs hn hk (by omega))
  have HN := keep hn
  clear hs hn
  have HK := keep hk
  clear hk
  have g1 : ¬ (most < (n : Int)) := by omega
  have g2 : ¬ (((k : Int) + (n : Int)) - (k : Int) < (n : Int)) := by omega
  have KB := keep (fun w' (hb : Below w.heap.size w w') => conv_src (show Src w' (some ⟨b, off + k, none⟩) n n (r.take n) by have := (HP.out.below hb).text; rwa [t3] at this))
  have KE := keep (fun w' (hb : Below w.heap.size w w') => clone_any (some ⟨b, off, none⟩) 0 0 (r.drop n) w' (by omega) ((HP.out.below hb).rest0 rfl))
  have HT := keep (txt_yes (most := most) HN.out ⟨h1, by have := HK.out; omega⟩)
  have h0 : (0 : Int) ≤ (k : Int) := by omega
  go_enter Tryz.func56, Tryz.ntmps56
  go_wp2_with fail
  go_fit KR.out
  rintro e w1 (⟨n', r', hn, rfl, hb1⟩ | ⟨hn, _, _⟩)
  · rw [HN.out] at hn
    cases hn
    have b1 := keep hb1
    rw [HK.out]
    clear hb1 KR
    have hcv := KB.out w1.drew b1.out.drew
    go_wp2_with fail
    go_region_with (go_at_call 52; go_fit (KE.out w1.drew b1.out.drew); rintro e w2 ⟨v2, rfl, hn2⟩; obtain ⟨a2, c2, rfl, hs2, _⟩ := hn2.src; have b2 := keep (b1.out.drew.trans (hn2.2.mono b1.out.drew.size)); have S2 := keep hs2; have hcv2 := KB.out w2 b2.out; clear hn2 hs2)
    all_goals go_wp2
    all_goals go_ret3
    all_goals exact tookT_yes HT.out S2.out.len S2.out b2.out
  · rw [HN.out] at hn; cases hn
set_option maxHeartbeats 1000000 in
set_option maxRecDepth 100000 in
theorem takeText_nil (b off : Nat) (l : List UInt8) (most : Int) (w : World) (k : Nat) (r : List UInt8) (hm : k ≤ 140737488355328) (hs : Src w (some ⟨b, off, none⟩) k k l) (hn : takeNum l = some (0, r)) (hk : k - r.length = k) (h1 : ((0 : Nat) : Int) ≤ most) :
    Calls Tryz.prog 56 #[.slice (some ⟨b, off, none⟩) k k, .int .i64 most] w (TookT w (txt l most)) := by
  have KR := keep (readGroups_any (some ⟨b, off, none⟩) k k l w hm hs)
  have HP := keep (partsT hs hn hk (by omega))
  have HN := keep hn
  clear hs hn
  have HK := keep hk
  clear hk
  have g1 : ¬ (most < 0) := by omega
  have KB := keep (fun w' (hb : Below w.heap.size w w') => conv_src ((HP.out.below hb).text0 rfl))
  have KE := keep (fun w' (hb : Below w.heap.size w w') => clone_any (some ⟨b, off, none⟩) 0 0 (r.drop 0) w' (by omega) ((HP.out.below hb).rest0 rfl))
  have HT := keep (txt_yes (most := most) HN.out ⟨h1, by have := HK.out; omega⟩)
  go_enter Tryz.func56, Tryz.ntmps56
  go_wp2_with fail
  go_fit KR.out
  rintro e w1 (⟨n', r', hn, rfl, hb1⟩ | ⟨hn, _, _⟩)
  · rw [HN.out] at hn
    cases hn
    have b1 := keep hb1
    rw [HK.out]
    clear hb1 KR
    have hcv := KB.out w1.drew b1.out.drew
    go_wp2_with fail
    go_region_with (go_at_call 52; go_fit (KE.out w1.drew b1.out.drew); rintro e w2 ⟨v2, rfl, hn2⟩; obtain ⟨a2, c2, rfl, hs2, _⟩ := hn2.src; have b2 := keep (b1.out.drew.trans (hn2.2.mono b1.out.drew.size)); have S2 := keep hs2; have hcv2 := KB.out w2 b2.out; clear hn2 hs2)
    all_goals go_wp2
    all_goals go_ret3
    all_goals exact tookT_yes HT.out S2.out.len S2.out b2.out
  · rw [HN.out] at hn; cases hn
theorem takeText_any (ao : Option Addr) (m c : Nat) (l : List UInt8) (most : Int) (w : World) (hm : m ≤ 140737488355328) (hs : Src w ao m c l) :
    Calls Tryz.prog 56 #[.slice ao m c, .int .i64 most] w (TookT w (txt l most)) := by
  cases hn : takeNum l with
  | none => exact takeText_none ao m c l most w hm hs hn
  | some x =>
    obtain ⟨n, r⟩ := x
    by_cases hno : (n : Int) ≤ most ∧ n ≤ r.length
    · obtain ⟨h1, h2⟩ := hno
      have hn2 := (takeNum_some hn).2
      have e1 := congrArg List.length hn2
      have hp := num_pos n
      rw [List.length_append, hs.len] at e1
      have hcap := hs.cap
      obtain ⟨b, off, rfl, _, _⟩ := hs.form (by omega)
      obtain ⟨k, hk⟩ : ∃ k, m - r.length = k := ⟨_, rfl⟩
      by_cases hec : k + n < c
      · exact takeText_gen b off m c l most w n k r hm hs hn hk (by omega) h1 (by omega) hec
      · obtain rfl : c = k + n := by omega
        obtain rfl : m = k + n := by omega
        rcases Nat.eq_zero_or_pos n with h0 | h0
        · subst h0
          exact takeText_nil b off l most w k r hm hs hn hk h1
        · exact takeText_end b off l most w n k r hm hs hn hk h1 h0
    · exact takeText_short ao m c l most w n r hm hs hn hno
end Go.Proofs.YthaiodajfmbeaaaGreat
