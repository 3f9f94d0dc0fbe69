/- The walk of code.TakeFrame. -/
import Derived.Test.YtohnfogdalnilaaGreatDoorT
import Derived.Test.YtohnfogdalnilaaGreatDoorD8
import Derived.Test.YtohnfogdalnilaaGreatDoorPf
import Derived.Deep.RegionWith
namespace Go.Proofs.YtohnfogdalnilaaGreatDoor
open Go.RowKit

/-- What frame bytes begin with: none, or its body and what stands behind it. -/
def tfr (l : List UInt8) (most : Int) : Option (List UInt8 × List UInt8) :=
  match takeNum l with
  | none => none
  | some (n, r) => if (n : Int) ≤ most ∧ n + 4 ≤ r.length ∧ big (r.take 4) = (crc (num n ++ (r.drop 4).take n)).toNat then some ((r.drop 4).take n, r.drop (4 + n)) else none
theorem tfr_none {l : List UInt8} {most : Int} (h : takeNum l = none) : tfr l most = none := by simp [tfr, h]
theorem tfr_no {l : List UInt8} {most : Int} {n : Nat} {r : List UInt8} (h : takeNum l = some (n, r)) (h2 : ¬ ((n : Int) ≤ most ∧ n + 4 ≤ r.length ∧ big (r.take 4) = (crc (num n ++ (r.drop 4).take n)).toNat)) : tfr l most = none := by
  simp only [tfr, h]; rw [if_neg h2]
theorem tfr_yes {l : List UInt8} {most : Int} {n : Nat} {r : List UInt8} (h : takeNum l = some (n, r)) (h2 : (n : Int) ≤ most ∧ n + 4 ≤ r.length ∧ big (r.take 4) = (crc (num n ++ (r.drop 4).take n)).toNat) : tfr l most = some ((r.drop 4).take n, r.drop (4 + n)) := by
  simp only [tfr, h]; rw [if_pos h2]
/-- The answer of a call that takes a frame. -/
def TookF (w : World) (t : Option (List UInt8 × List UInt8)) (e : Ending) (w' : World) : Prop :=
  (∃ B R ao c ao2 c2, t = some (B, R) ∧ e = .returned (.tuple #[.slice ao B.length c, .slice ao2 R.length c2, .int .i64 0]) ∧ w'.ownsRow w.heap.size 5 1 (.slice ao B.length c) B.length (bv B) ∧ Src w' ao2 R.length c2 R ∧ Below w.heap.size w w') ∨
  (t = none ∧ e = .returned (.tuple #[.slice none 0 0, .slice none 0 0, .int .i64 2]) ∧ Below w.heap.size w w')
theorem tookF_no {w w' : World} {t : Option (List UInt8 × List UInt8)} (h : t = none) (hb : Below w.heap.size w w') : TookF w t (.returned (.tuple #[.slice none 0 0, .slice none 0 0, .int .i64 2])) w' := .inr ⟨h, rfl, hb⟩

set_option maxHeartbeats 1000000 in
set_option maxRecDepth 100000 in
theorem takeFrame_none (ao : Option Addr) (m c : Nat) (l : List UInt8) (most : Int) (w : World) (hm : m ≤ 140737488355328) (hs : Src w ao m c l) (hn : takeNum l = none) :
    Calls Tryz.prog 48 #[.slice ao m c, .int .i64 most] w (TookF w (tfr l most)) := by
  have KR := keep (readGroups_any ao m c l w hm hs)
  have HT := keep (tfr_none (most := most) hn)
  have HN := keep hn
  clear hs hn
  go_enter Tryz.func48, Tryz.ntmps48
  go_wp2_with fail
  go_fit KR.out
  rintro e w1 (⟨n, r, hn, _, _⟩ | ⟨_, rfl, hb1⟩)
  · rw [HN.out] at hn; cases hn
  · have b1 := keep hb1
    clear hb1 KR
    go_wp2
    go_ret3
    exact tookF_no HT.out b1.out

set_option maxHeartbeats 1000000 in
set_option maxRecDepth 100000 in
theorem takeFrame_short (ao : Option Addr) (m c : Nat) (l : List UInt8) (most : Int) (w : World) (n : Nat) (r : List UInt8) (hm : m ≤ 140737488355328) (hs : Src w ao m c l) (hn : takeNum l = some (n, r)) (hno : ¬ ((n : Int) ≤ most ∧ n + 4 ≤ r.length)) :
    Calls Tryz.prog 48 #[.slice ao m c, .int .i64 most] w (TookF w (tfr l most)) := by
  have KR := keep (readGroups_any ao m c l w hm hs)
  have HT := keep (tfr_no (most := most) hn (fun h => hno ⟨h.1, h.2.1⟩))
  have HN := keep hn
  obtain ⟨hn1, hn2⟩ := takeNum_some hn
  have e1 := congrArg List.length hn2
  rw [List.length_append, hs.len] at e1
  clear hs hn hn2
  obtain ⟨k, hk⟩ : ∃ k, m - r.length = k := ⟨_, rfl⟩
  have hrk : r.length = m - k := by omega
  have hkm : k ≤ m := by omega
  rw [hrk] at hno
  have HK := keep hk
  clear hk hrk e1
  go_enter Tryz.func48, Tryz.ntmps48
  go_wp2_with fail
  go_fit KR.out
  rintro e w1 (⟨n', r', hn, rfl, hb1⟩ | ⟨hn, _, _⟩)
  · rw [HN.out] at hn
    cases hn
    have b1 := keep hb1
    rw [HK.out]
    clear hb1 KR
    by_cases h1 : (n : Int) ≤ most
    · have h2 : (m : Int) - (k : Int) - 4 < (n : Int) := by omega
      go_wp2
      go_ret3
      exact tookF_no HT.out b1.out
    · have h2 : most < (n : Int) := by omega
      go_wp2
      go_ret3
      exact tookF_no HT.out b1.out
  · rw [HN.out] at hn; cases hn

/-- The parts of bytes that begin with a number n, as slices. -/
structure Parts (b off m c n k : Nat) (l r : List UInt8) (w : World) : Prop where
  head : Src w (some ⟨b, off, none⟩) k c (num n)
  sum : Src w (some ⟨b, off + k, none⟩) 4 (c - k) (r.take 4)
  body : Src w (some ⟨b, off + (k + 4), none⟩) n (c - (k + 4)) ((r.drop 4).take n)
  rest : Src w (some ⟨b, off + (k + 4 + n), none⟩) (m - (k + 4 + n)) (c - (k + 4 + n)) (r.drop (4 + n))
  body0 : k + 4 = c → Src w (some ⟨b, off, none⟩) n 0 ((r.drop 4).take n)
  rest0 : k + 4 + n = c → Src w (some ⟨b, off, none⟩) 0 0 (r.drop (4 + n))
theorem parts {b off m c n k : Nat} {l r : List UInt8} {w : World} (hs : Src w (some ⟨b, off, none⟩) m c l) (hn : takeNum l = some (n, r)) (hk : m - r.length = k) (hkm : k + (n + 4) ≤ m) : Parts b off m c n k l r w := by
  obtain ⟨_, hn2⟩ := takeNum_some hn
  have e1 := congrArg List.length hn2
  rw [List.length_append, hs.len] at e1
  have hkn : k = (num n).length := by omega
  have hr : l.drop k = r := by rw [hkn, hn2, List.drop_left]
  have hh : l.take k = num n := by rw [hkn, hn2, List.take_left]
  have hcap := hs.cap
  refine ⟨?_, ?_, ?_, ?_, ?_, ?_⟩
  · have := hs.head k (by omega)
    rwa [hh] at this
  · have := (hs.tailS k (by omega)).head 4 (by omega)
    rwa [hr] at this
  · have := (hs.tailS (k + 4) (by omega)).head n (by omega)
    rwa [← List.drop_drop, hr] at this
  · have := hs.tailS (k + 4 + n) (by omega)
    have e2 : l.drop (k + 4 + n) = r.drop (4 + n) := by rw [Nat.add_assoc k 4 n, ← List.drop_drop, hr]
    rwa [e2] at this
  · intro h
    have h0 : n = 0 := by omega
    subst h0
    exact Src.none_of (by simp) (fun e => by cases e)
  · intro h
    exact Src.none_of (by rw [List.length_drop]; omega) (fun e => by cases e)
theorem Parts.below {b off m c n k : Nat} {l r : List UInt8} {w w' : World} (h : Parts b off m c n k l r w) (hb : Below w.heap.size w w') : Parts b off m c n k l r w' :=
  ⟨h.head.below hb, h.sum.below hb, h.body.below hb, h.rest.below hb, fun e => (h.body0 e).below hb, fun e => (h.rest0 e).below hb⟩

theorem tookF_yes {w w' : World} {t : Option (List UInt8 × List UInt8)} {B R : List UInt8} {ao ao2 : Option Addr} {c c2 x y : Nat} (h : t = some (B, R)) (hx : B.length = x) (hy : R.length = y) (h1 : w'.ownsRow w.heap.size 5 1 (.slice ao x c) x (bv B)) (h2 : Src w' ao2 y c2 R) (hb : Below w.heap.size w w') : TookF w t (.returned (.tuple #[.slice ao x c, .slice ao2 y c2, .int .i64 0])) w' := by
  subst hx
  subst hy
  exact .inl ⟨B, R, ao, c, ao2, c2, h, rfl, h1, h2, hb⟩

end Go.Proofs.YtohnfogdalnilaaGreatDoor
