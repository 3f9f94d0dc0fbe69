/- The walk of code.TakeText. -/
import Derived.Test.YthaiodajfmbeaaaGreatT
import Derived.Test.YthaiodajfmbeaaaGreatRp
import Derived.Deep.RegionWith
namespace Go.Proofs.YthaiodajfmbeaaaGreat
open Go.RowKit

/-- What text bytes begin with: none, or it and what stands behind it. -/
def txt (l : List UInt8) (most : Int) : Option (List UInt8 × List UInt8) :=
  match takeNum l with
  | none => none
  | some (n, r) => if (n : Int) ≤ most ∧ n ≤ r.length then some (r.take n, r.drop n) else none
theorem txt_none {l : List UInt8} {most : Int} (h : takeNum l = none) : txt l most = none := by simp [txt, h]
theorem txt_no {l : List UInt8} {most : Int} {n : Nat} {r : List UInt8} (h : takeNum l = some (n, r)) (h2 : ¬ ((n : Int) ≤ most ∧ n ≤ r.length)) : txt l most = none := by
  simp only [txt, h]; rw [if_neg h2]
theorem txt_yes {l : List UInt8} {most : Int} {n : Nat} {r : List UInt8} (h : takeNum l = some (n, r)) (h2 : (n : Int) ≤ most ∧ n ≤ r.length) : txt l most = some (r.take n, r.drop n) := by
  simp only [txt, h]; rw [if_pos h2]
/-- The answer of a call that takes a text. -/
def TookT (w : World) (t : Option (List UInt8 × List UInt8)) (e : Ending) (w' : World) : Prop :=
  (∃ S R ao c, t = some (S, R) ∧ e = .returned (.tuple #[.string ⟨S.toArray⟩, .slice ao R.length c, .int .i64 0]) ∧ Src w' ao R.length c R ∧ Below w.heap.size w w') ∨
  (t = none ∧ e = .returned (.tuple #[.string ⟨#[]⟩, .slice none 0 0, .int .i64 2]) ∧ Below w.heap.size w w')
theorem tookT_no {w w' : World} {t : Option (List UInt8 × List UInt8)} (h : t = none) (hb : Below w.heap.size w w') : TookT w t (.returned (.tuple #[.string ⟨#[]⟩, .slice none 0 0, .int .i64 2])) w' := .inr ⟨h, rfl, hb⟩
theorem tookT_yes {w w' : World} {t : Option (List UInt8 × List UInt8)} {S R : List UInt8} {ao : Option Addr} {c y : Nat} (h : t = some (S, R)) (hy : R.length = y) (h1 : Src w' ao y c R) (hb : Below w.heap.size w w') : TookT w t (.returned (.tuple #[.string ⟨S.toArray⟩, .slice ao y c, .int .i64 0])) w' := by
  subst hy
  exact .inl ⟨S, R, ao, c, h, rfl, h1, hb⟩

set_option maxHeartbeats 1000000 in
set_option maxRecDepth 100000 in
theorem takeText_none (ao : Option Addr) (m c : Nat) (l : List UInt8) (most : Int) (w : World) (hm : m ≤ 140737488355328) (hs : Src w ao m c l) (hn : takeNum l = none) :
    Calls Tryz.prog 56 #[.slice ao m c, .int .i64 most] w (TookT w (txt l most)) := by
  have KR := keep (readGroups_any ao m c l w hm hs)
  have HT := keep (txt_none (most := most) hn)
  have HN := keep hn
  clear hs hn
  go_enter Tryz.func56, Tryz.ntmps56
  go_wp2_with fail
  go_fit KR.out
  rintro e w1 (⟨n, r, hn, _, _⟩ | ⟨_, rfl, hb1⟩)
  · rw [HN.out] at hn; cases hn
  · have b1 := keep hb1
    clear hb1 KR
    go_wp2
    go_ret3
    exact tookT_no HT.out b1.out

set_option maxHeartbeats 1000000 in
set_option maxRecDepth 100000 in
theorem takeText_short (ao : Option Addr) (m c : Nat) (l : List UInt8) (most : Int) (w : World) (n : Nat) (r : List UInt8) (hm : m ≤ 140737488355328) (hs : Src w ao m c l) (hn : takeNum l = some (n, r)) (hno : ¬ ((n : Int) ≤ most ∧ n ≤ r.length)) :
    Calls Tryz.prog 56 #[.slice ao m c, .int .i64 most] w (TookT w (txt l most)) := by
  have KR := keep (readGroups_any ao m c l w hm hs)
  have HT := keep (txt_no (most := most) hn hno)
  have HN := keep hn
  obtain ⟨hn1, hn2⟩ := takeNum_some hn
  have e1 := congrArg List.length hn2
  rw [List.length_append, hs.len] at e1
  clear hs hn hn2
  obtain ⟨k, hk⟩ : ∃ k, m - r.length = k := ⟨_, rfl⟩
  have hrk : r.length = m - k := by omega
  have hkm : k ≤ m := by omega
  rw [hrk] at hno
  have HK := keep hk
  clear hk hrk e1
  go_enter Tryz.func56, Tryz.ntmps56
  go_wp2_with fail
  go_fit KR.out
  rintro e w1 (⟨n', r', hn, rfl, hb1⟩ | ⟨hn, _, _⟩)
  · rw [HN.out] at hn
    cases hn
    have b1 := keep hb1
    rw [HK.out]
    clear hb1 KR
    by_cases h1 : (n : Int) ≤ most
    · have h2 : (m : Int) - (k : Int) < (n : Int) := by omega
      go_wp2
      go_ret3
      exact tookT_no HT.out b1.out
    · have h2 : most < (n : Int) := by omega
      go_wp2
      go_ret3
      exact tookT_no HT.out b1.out
  · rw [HN.out] at hn; cases hn

/-- The parts of bytes that begin with a number n, as slices. -/
structure PartsT (b off m c n k : Nat) (l r : List UInt8) (w : World) : Prop where
  text : Src w (some ⟨b, off + k, none⟩) n (c - k) (r.take n)
  rest : Src w (some ⟨b, off + (k + n), none⟩) (m - (k + n)) (c - (k + n)) (r.drop n)
  text0 : k = c → Src w (some ⟨b, off, none⟩) n 0 (r.take n)
  rest0 : k + n = c → Src w (some ⟨b, off, none⟩) 0 0 (r.drop n)
theorem partsT {b off m c n k : Nat} {l r : List UInt8} {w : World} (hs : Src w (some ⟨b, off, none⟩) m c l) (hn : takeNum l = some (n, r)) (hk : m - r.length = k) (hkm : k + n ≤ m) : PartsT b off m c n k l r w := by
  obtain ⟨_, hn2⟩ := takeNum_some hn
  have e1 := congrArg List.length hn2
  rw [List.length_append, hs.len] at e1
  have hkn : k = (num n).length := by omega
  have hr : l.drop k = r := by rw [hkn, hn2, List.drop_left]
  have hcap := hs.cap
  refine ⟨?_, ?_, ?_, ?_⟩
  · have := (hs.tailS k (by omega)).head n (by omega)
    rwa [hr] at this
  · have := hs.tailS (k + n) (by omega)
    have e2 : l.drop (k + n) = r.drop n := by rw [← List.drop_drop, hr]
    rwa [e2] at this
  · intro h
    have h0 : n = 0 := by omega
    subst h0
    exact Src.none_of (by simp) (fun e => by cases e)
  · intro h
    exact Src.none_of (by rw [List.length_drop]; omega) (fun e => by cases e)
theorem PartsT.below {b off m c n k : Nat} {l r : List UInt8} {w w' : World} (h : PartsT b off m c n k l r w) (hb : Below w.heap.size w w') : PartsT b off m c n k l r w' :=
  ⟨h.text.below hb, h.rest.below hb, fun e => (h.text0 e).below hb, fun e => (h.rest0 e).below hb⟩

set_option maxHeartbeats 1000000 in
set_option maxRecDepth 100000 in
theorem takeText_gen (b off m c : Nat) (l : List UInt8) (most : Int) (w : World) (n k : Nat) (r : List UInt8) (hm : m ≤ 140737488355328) (hs : Src w (some ⟨b, off, none⟩) m c l) (hn : takeNum l = some (n, r)) (hk : m - r.length = k) (hkm : k + n ≤ m) (h1 : (n : Int) ≤ most) (hsc : k < c) (hec : k + n < c) :
    Calls Tryz.prog 56 #[.slice (some ⟨b, off, none⟩) m c, .int .i64 most] w (TookT w (txt l most)) := by
  have t1 : ((k : Int) + (n : Int)).toNat = k + n := by omega
  have t3 : k + n - k = n := by omega
  have KR := keep (readGroups_any (some ⟨b, off, none⟩) m c l w hm hs)
  have HP := keep (partsT hs hn hk hkm)
  have HN := keep hn
  have hcap := hs.cap
  clear hs hn
  have HK := keep hk
  clear hk
  have g1 : ¬ (most < (n : Int)) := by omega
  have g2 : ¬ ((m : Int) - (k : Int) < (n : Int)) := by omega
  have KB := keep (fun w' (hb : Below w.heap.size w w') => conv_src (HP.out.below hb).text)
  have KE := keep (fun w' (hb : Below w.heap.size w w') => clone_any (some ⟨b, off + (k + n), none⟩) (m - (k + n)) (c - (k + n)) (r.drop n) w' (by omega) (HP.out.below hb).rest)
  have HT := keep (txt_yes (most := most) HN.out ⟨h1, by have := HK.out; omega⟩)
  have h0 : (0 : Int) ≤ (k : Int) := by omega
  go_enter Tryz.func56, Tryz.ntmps56
  go_wp2_with fail
  go_fit KR.out
  rintro e w1 (⟨n', r', hn, rfl, hb1⟩ | ⟨hn, _, _⟩)
  · rw [HN.out] at hn
    cases hn
    have b1 := keep hb1
    rw [HK.out]
    clear hb1 KR
    have hcv := KB.out w1.drew b1.out.drew
    go_wp2_with fail
    go_region_with (go_at_call 52; go_fit (KE.out w1.drew b1.out.drew); rintro e w2 ⟨v2, rfl, hn2⟩; obtain ⟨a2, c2, rfl, hs2, _⟩ := hn2.src; have b2 := keep (b1.out.drew.trans (hn2.2.mono b1.out.drew.size)); have S2 := keep hs2; have hcv2 := KB.out w2 b2.out; clear hn2 hs2)
    all_goals go_wp2
    all_goals go_ret3
    all_goals exact tookT_yes HT.out S2.out.len S2.out b2.out
  · rw [HN.out] at hn; cases hn
end Go.Proofs.YthaiodajfmbeaaaGreat
