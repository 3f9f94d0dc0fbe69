/- The walk of code.TakeText once more: what it answers lies in a block of bytes. -/
import Derived.Test.YthaiodajfmbeaaaGreatTe
import Derived.Test.YthaiodajfmbeaaaGreatUn
namespace Go.Proofs.YthaiodajfmbeaaaGreat
open Go.RowKit

/-- Bytes in a block of bytes. -/
def In5 (w : World) (ao : Option Addr) : Prop := ∀ ad, ao = some ad → ∃ cur fr, w.heap[ad.block]? = some (.cells cur 5 fr)
theorem in5_own {w : World} {B n c : Nat} {a : Option Addr} {xs : List Value} (h : w.ownsRow B 5 1 (.slice a n c) n xs) : In5 w a := fun ad had => by
  rcases h.2 with ⟨h0, _⟩ | ⟨g, cap, cur, e, _, hg, _⟩
  · cases h0; cases had
  · cases e; cases had; exact ⟨cur, (0, 0), hg⟩
theorem in5_none (w : World) : In5 w none := fun _ h => by cases h
def TookO (w : World) (t : Option (List UInt8 × List UInt8)) (e : Ending) (w' : World) : Prop :=
  (∃ S R ao c, t = some (S, R) ∧ e = .returned (.tuple #[.string ⟨S.toArray⟩, .slice ao R.length c, .int .i64 0]) ∧ Src w' ao R.length c R ∧ In5 w' ao ∧ Below w.heap.size w w') ∨
  (t = none ∧ e = .returned (.tuple #[.string ⟨#[]⟩, .slice none 0 0, .int .i64 2]) ∧ Below w.heap.size w w')
theorem tookO_no {w w' : World} {t : Option (List UInt8 × List UInt8)} (h : t = none) (hb : Below w.heap.size w w') : TookO w t (.returned (.tuple #[.string ⟨#[]⟩, .slice none 0 0, .int .i64 2])) w' := .inr ⟨h, rfl, hb⟩
theorem tookO_yes {w w' : World} {t : Option (List UInt8 × List UInt8)} {S R : List UInt8} {ao : Option Addr} {c y : Nat} (h : t = some (S, R)) (hy : R.length = y) (h1 : Src w' ao y c R) (h5 : In5 w' ao) (hb : Below w.heap.size w w') : TookO w t (.returned (.tuple #[.string ⟨S.toArray⟩, .slice ao y c, .int .i64 0])) w' := by
  subst hy
  exact .inl ⟨S, R, ao, c, h, rfl, h1, h5, hb⟩
/-- The answer of TakeNum, the bytes in a block of bytes. -/
def TookN (w : World) (N : Nat) (R : List UInt8) (E : Int) (e : Ending) (w' : World) : Prop :=
  ∃ ao c, e = .returned (.tuple #[.int .i64 (N : Int), .slice ao R.length c, .int .i64 E]) ∧ Src w' ao R.length c R ∧ In5 w' ao ∧ Below w.heap.size w w'
theorem takeNum_own (ao : Option Addr) (m c : Nat) (l : List UInt8) (w : World) (hm : m ≤ 140737488355328) (hs : Src w ao m c l) : Calls Tryz.prog 54 #[.slice ao m c] w (TookN w (nOf l) (rOf l) (eOf l)) :=
  (takeNum_any ao m c l w hm hs).mono fun e w' h => by
    rcases h with ⟨n, r, v, hn, rfl, hN⟩ | ⟨hn, rfl, hb⟩
    · have e1 : nOf l = n := by simp [nOf, hn]
      have e2 : rOf l = r := by simp [rOf, hn]
      have e3 : eOf l = 0 := by simp [eOf, hn]
      obtain ⟨ao, c, rfl, hs, _⟩ := hN.src
      rw [e1, e2, e3]
      exact ⟨ao, c, rfl, hs, in5_own hN.1, hN.2⟩
    · have e1 : nOf l = 0 := by simp [nOf, hn]
      have e2 : rOf l = [] := by simp [rOf, hn]
      have e3 : eOf l = 2 := by simp [eOf, hn]
      rw [e1, e2, e3]
      exact ⟨none, 0, rfl, Src.empty (fun _ => rfl), in5_none _, hb⟩
set_option maxHeartbeats 1000000 in
set_option maxRecDepth 100000 in
theorem takeTextO_none (ao : Option Addr) (m c : Nat) (l : List UInt8) (most : Int) (w : World) (hm : m ≤ 140737488355328) (hs : Src w ao m c l) (hn : takeNum l = none) :
    Calls Tryz.prog 56 #[.slice ao m c, .int .i64 most] w (TookO w (txt l most)) := by
  have KR := keep (readGroups_any ao m c l w hm hs)
  have HT := keep (txt_none (most := most) hn)
  have HN := keep hn
  clear hs hn
  go_enter Tryz.func56, Tryz.ntmps56
  go_wp2_with fail
  go_fit KR.out
  rintro e w1 (⟨n, r, hn, _, _⟩ | ⟨_, rfl, hb1⟩)
  · rw [HN.out] at hn; cases hn
  · have b1 := keep hb1
    clear hb1 KR
    go_wp2
    go_ret3
    exact tookO_no HT.out b1.out

set_option maxHeartbeats 1000000 in
set_option maxRecDepth 100000 in
theorem takeTextO_short (ao : Option Addr) (m c : Nat) (l : List UInt8) (most : Int) (w : World) (n : Nat) (r : List UInt8) (hm : m ≤ 140737488355328) (hs : Src w ao m c l) (hn : takeNum l = some (n, r)) (hno : ¬ ((n : Int) ≤ most ∧ n ≤ r.length)) :
    Calls Tryz.prog 56 #[.slice ao m c, .int .i64 most] w (TookO w (txt l most)) := by
  have KR := keep (readGroups_any ao m c l w hm hs)
  have HT := keep (txt_no (most := most) hn hno)
  have HN := keep hn
  obtain ⟨hn1, hn2⟩ := takeNum_some hn
  have e1 := congrArg List.length hn2
  rw [List.length_append, hs.len] at e1
  clear hs hn hn2
  obtain ⟨k, hk⟩ : ∃ k, m - r.length = k := ⟨_, rfl⟩
  have hrk : r.length = m - k := by omega
  have hkm : k ≤ m := by omega
  rw [hrk] at hno
  have HK := keep hk
  clear hk hrk e1
  go_enter Tryz.func56, Tryz.ntmps56
  go_wp2_with fail
  go_fit KR.out
  rintro e w1 (⟨n', r', hn, rfl, hb1⟩ | ⟨hn, _, _⟩)
  · rw [HN.out] at hn
    cases hn
    have b1 := keep hb1
    rw [HK.out]
    clear hb1 KR
    by_cases h1 : (n : Int) ≤ most
    · have h2 : (m : Int) - (k : Int) < (n : Int) := by omega
      go_wp2
      go_ret3
      exact tookO_no HT.out b1.out
    · have h2 : most < (n : Int) := by omega
      go_wp2
      go_ret3
      exact tookO_no HT.out b1.out
  · rw [HN.out] at hn; cases hn

set_option maxHeartbeats 1000000 in
set_option maxRecDepth 100000 in
theorem takeTextO_gen (b off m c : Nat) (l : List UInt8) (most : Int) (w : World) (n k : Nat) (r : List UInt8) (hm : m ≤ 140737488355328) (hs : Src w (some ⟨b, off, none⟩) m c l) (hn : takeNum l = some (n, r)) (hk : m - r.length = k) (hkm : k + n ≤ m) (h1 : (n : Int) ≤ most) (hsc : k < c) (hec : k + n < c) :
    Calls Tryz.prog 56 #[.slice (some ⟨b, off, none⟩) m c, .int .i64 most] w (TookO w (txt l most)) := by
  have t1 : ((k : Int) + (n : Int)).toNat = k + n := by omega
  have t3 : k + n - k = n := by omega
  have KR := keep (readGroups_any (some ⟨b, off, none⟩) m c l w hm hs)
  have HP := keep (partsT hs hn hk hkm)
  have HN := keep hn
  have hcap := hs.cap
  clear hs hn
  have HK := keep hk
  clear hk
  have g1 : ¬ (most < (n : Int)) := by omega
  have g2 : ¬ ((m : Int) - (k : Int) < (n : Int)) := by omega
  have KB := keep (fun w' (hb : Below w.heap.size w w') => conv_src (HP.out.below hb).text)
  have KE := keep (fun w' (hb : Below w.heap.size w w') => clone_any (some ⟨b, off + (k + n), none⟩) (m - (k + n)) (c - (k + n)) (r.drop n) w' (by omega) (HP.out.below hb).rest)
  have HT := keep (txt_yes (most := most) HN.out ⟨h1, by have := HK.out; omega⟩)
  have h0 : (0 : Int) ≤ (k : Int) := by omega
  go_enter Tryz.func56, Tryz.ntmps56
  go_wp2_with fail
  go_fit KR.out
  rintro e w1 (⟨n', r', hn, rfl, hb1⟩ | ⟨hn, _, _⟩)
  · rw [HN.out] at hn
    cases hn
    have b1 := keep hb1
    rw [HK.out]
    clear hb1 KR
    have hcv := KB.out w1.drew b1.out.drew
    go_wp2_with fail
    go_region_with (go_at_call 52; go_fit (KE.out w1.drew b1.out.drew); rintro e w2 ⟨v2, rfl, hn2⟩; obtain ⟨a2, c2, rfl, hs2, _⟩ := hn2.src; have b2 := keep (b1.out.drew.trans (hn2.2.mono b1.out.drew.size)); have S2 := keep hs2; have I2 := keep (in5_own hn2.1); have hcv2 := KB.out w2 b2.out; clear hn2 hs2)
    all_goals go_wp2
    all_goals go_ret3
    all_goals exact tookO_yes HT.out S2.out.len S2.out I2.out b2.out
  · rw [HN.out] at hn; cases hn
set_option maxHeartbeats 1000000 in
set_option maxRecDepth 100000 in
theorem takeTextO_end (b off : Nat) (l : List UInt8) (most : Int) (w : World) (n k : Nat) (r : List UInt8) (hm : k + n ≤ 140737488355328) (hs : Src w (some ⟨b, off, none⟩) (k + n) (k + n) l) (hn : takeNum l = some (n, r)) (hk : k + n - r.length = k) (h1 : (n : Int) ≤ most) (hsc : 0 < n) :
    Calls Tryz.prog 56 #[.slice (some ⟨b, off, none⟩) (k + n) (k + n), .int .i64 most] w (TookO w (txt l most)) := by
  have t1 : ((k : Int) + (n : Int)).toNat = k + n := by omega
  have t3 : k + n - k = n := by omega
  have KR := keep (readGroups_any (some ⟨b, off, none⟩) (k + n) (k + n) l w hm hs)
  have HP := keep (partsT hs hn hk (by omega))
  have HN := keep hn
  clear hs hn
  have HK := keep hk
  clear hk
  have g1 : ¬ (most < (n : Int)) := by omega
  have g2 : ¬ (((k : Int) + (n : Int)) - (k : Int) < (n : Int)) := by omega
  have KB := keep (fun w' (hb : Below w.heap.size w w') => conv_src (show Src w' (some ⟨b, off + k, none⟩) n n (r.take n) by have := (HP.out.below hb).text; rwa [t3] at this))
  have KE := keep (fun w' (hb : Below w.heap.size w w') => clone_any (some ⟨b, off, none⟩) 0 0 (r.drop n) w' (by omega) ((HP.out.below hb).rest0 rfl))
  have HT := keep (txt_yes (most := most) HN.out ⟨h1, by have := HK.out; omega⟩)
  have h0 : (0 : Int) ≤ (k : Int) := by omega
  go_enter Tryz.func56, Tryz.ntmps56
  go_wp2_with fail
  go_fit KR.out
  rintro e w1 (⟨n', r', hn, rfl, hb1⟩ | ⟨hn, _, _⟩)
  · rw [HN.out] at hn
    cases hn
    have b1 := keep hb1
    rw [HK.out]
    clear hb1 KR
    have hcv := KB.out w1.drew b1.out.drew
    go_wp2_with fail
    go_region_with (go_at_call 52; go_fit (KE.out w1.drew b1.out.drew); rintro e w2 ⟨v2, rfl, hn2⟩; obtain ⟨a2, c2, rfl, hs2, _⟩ := hn2.src; have b2 := keep (b1.out.drew.trans (hn2.2.mono b1.out.drew.size)); have S2 := keep hs2; have I2 := keep (in5_own hn2.1); have hcv2 := KB.out w2 b2.out; clear hn2 hs2)
    all_goals go_wp2
    all_goals go_ret3
    all_goals exact tookO_yes HT.out S2.out.len S2.out I2.out b2.out
  · rw [HN.out] at hn; cases hn
set_option maxHeartbeats 1000000 in
set_option maxRecDepth 100000 in
theorem takeTextO_nil (b off : Nat) (l : List UInt8) (most : Int) (w : World) (k : Nat) (r : List UInt8) (hm : k ≤ 140737488355328) (hs : Src w (some ⟨b, off, none⟩) k k l) (hn : takeNum l = some (0, r)) (hk : k - r.length = k) (h1 : ((0 : Nat) : Int) ≤ most) :
    Calls Tryz.prog 56 #[.slice (some ⟨b, off, none⟩) k k, .int .i64 most] w (TookO w (txt l most)) := by
  have KR := keep (readGroups_any (some ⟨b, off, none⟩) k k l w hm hs)
  have HP := keep (partsT hs hn hk (by omega))
  have HN := keep hn
  clear hs hn
  have HK := keep hk
  clear hk
  have g1 : ¬ (most < 0) := by omega
  have KB := keep (fun w' (hb : Below w.heap.size w w') => conv_src ((HP.out.below hb).text0 rfl))
  have KE := keep (fun w' (hb : Below w.heap.size w w') => clone_any (some ⟨b, off, none⟩) 0 0 (r.drop 0) w' (by omega) ((HP.out.below hb).rest0 rfl))
  have HT := keep (txt_yes (most := most) HN.out ⟨h1, by have := HK.out; omega⟩)
  go_enter Tryz.func56, Tryz.ntmps56
  go_wp2_with fail
  go_fit KR.out
  rintro e w1 (⟨n', r', hn, rfl, hb1⟩ | ⟨hn, _, _⟩)
  · rw [HN.out] at hn
    cases hn
    have b1 := keep hb1
    rw [HK.out]
    clear hb1 KR
    have hcv := KB.out w1.drew b1.out.drew
    go_wp2_with fail
    go_region_with (go_at_call 52; go_fit (KE.out w1.drew b1.out.drew); rintro e w2 ⟨v2, rfl, hn2⟩; obtain ⟨a2, c2, rfl, hs2, _⟩ := hn2.src; have b2 := keep (b1.out.drew.trans (hn2.2.mono b1.out.drew.size)); have S2 := keep hs2; have I2 := keep (in5_own hn2.1); have hcv2 := KB.out w2 b2.out; clear hn2 hs2)
    all_goals go_wp2
    all_goals go_ret3
    all_goals exact tookO_yes HT.out S2.out.len S2.out I2.out b2.out
  · rw [HN.out] at hn; cases hn
theorem takeTextO_any (ao : Option Addr) (m c : Nat) (l : List UInt8) (most : Int) (w : World) (hm : m ≤ 140737488355328) (hs : Src w ao m c l) :
    Calls Tryz.prog 56 #[.slice ao m c, .int .i64 most] w (TookO w (txt l most)) := by
  cases hn : takeNum l with
  | none => exact takeTextO_none ao m c l most w hm hs hn
  | some x =>
    obtain ⟨n, r⟩ := x
    by_cases hno : (n : Int) ≤ most ∧ n ≤ r.length
    · obtain ⟨h1, h2⟩ := hno
      have hn2 := (takeNum_some hn).2
      have e1 := congrArg List.length hn2
      have hp := num_pos n
      rw [List.length_append, hs.len] at e1
      have hcap := hs.cap
      obtain ⟨b, off, rfl, _, _⟩ := hs.form (by omega)
      obtain ⟨k, hk⟩ : ∃ k, m - r.length = k := ⟨_, rfl⟩
      by_cases hec : k + n < c
      · exact takeTextO_gen b off m c l most w n k r hm hs hn hk (by omega) h1 (by omega) hec
      · obtain rfl : c = k + n := by omega
        obtain rfl : m = k + n := by omega
        rcases Nat.eq_zero_or_pos n with h0 | h0
        · subst h0
          exact takeTextO_nil b off l most w k r hm hs hn hk h1
        · exact takeTextO_end b off l most w n k r hm hs hn hk h1 h0
    · exact takeTextO_short ao m c l most w n r hm hs hn hno
end Go.Proofs.YthaiodajfmbeaaaGreat
