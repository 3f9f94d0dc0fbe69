/- The walk of code.TakeText once more: what it answers lies in a block of bytes. -/
/- The walks of reader's ahead and goOn. -/
/- Versions read from bytes, over plain lists; no walk. -/
/- The walk of code.readHighFirst. -/
/- The walk of code.TakeFrame. -/
import Derived.Test.YthnebhddakfadaaGreatDoorJoinUn
import Derived.Test.YthnebhddakfadaaGreatDoorJoinHs
import Derived.Test.YthnebhddakfadaaGreatDoorJoinPf
import Derived.Test.YthnebhddakfadaaGreatDoorJoinNn
import Derived.Lib.LazyBuf
import Derived.Test.YthnebhddakfadaaGreatDoorJoinOz
import Derived.Deep.RegionWith
namespace Go.Proofs.YthnebhddakfadaaGreatDoor
open Go.RowKit

/-- Bytes in a block of bytes. -/
def In5 (w : World) (ao : Option Addr) : Prop := ∀ ad, ao = some ad → ∃ cur fr, w.heap[ad.block]? = some (.cells cur 5 fr)
theorem in5_own {w : World} {B n c : Nat} {a : Option Addr} {xs : List Value} (h : w.ownsRow B 5 1 (.slice a n c) n xs) : In5 w a := fun ad had => by
  rcases h.2 with ⟨h0, _⟩ | ⟨g, cap, cur, e, _, hg, _⟩
  · cases h0; cases had
  · cases e; cases had; exact ⟨cur, (0, 0), hg⟩
theorem in5_none (w : World) : In5 w none := fun _ h => by cases h
def TookO (w : World) (t : Option (List UInt8 × List UInt8)) (e : Ending) (w' : World) : Prop :=
  (∃ S R ao c, t = some (S, R) ∧ e = .returned (.tuple #[.string ⟨S.toArray⟩, .slice ao R.length c, .int .i64 0]) ∧ Src w' ao R.length c R ∧ In5 w' ao ∧ Below w.heap.size w w') ∨
  (t = none ∧ e = .returned (.tuple #[.string ⟨#[]⟩, .slice none 0 0, .int .i64 2]) ∧ Below w.heap.size w w')
theorem tookO_no {w w' : World} {t : Option (List UInt8 × List UInt8)} (h : t = none) (hb : Below w.heap.size w w') : TookO w t (.returned (.tuple #[.string ⟨#[]⟩, .slice none 0 0, .int .i64 2])) w' := .inr ⟨h, rfl, hb⟩
theorem tookO_yes {w w' : World} {t : Option (List UInt8 × List UInt8)} {S R : List UInt8} {ao : Option Addr} {c y : Nat} (h : t = some (S, R)) (hy : R.length = y) (h1 : Src w' ao y c R) (h5 : In5 w' ao) (hb : Below w.heap.size w w') : TookO w t (.returned (.tuple #[.string ⟨S.toArray⟩, .slice ao y c, .int .i64 0])) w' := by
  subst hy
  exact .inl ⟨S, R, ao, c, h, rfl, h1, h5, hb⟩
/-- The answer of TakeNum, the bytes in a block of bytes. -/
def TookN (w : World) (N : Nat) (R : List UInt8) (E : Int) (e : Ending) (w' : World) : Prop :=
  ∃ ao c, e = .returned (.tuple #[.int .i64 (N : Int), .slice ao R.length c, .int .i64 E]) ∧ Src w' ao R.length c R ∧ In5 w' ao ∧ Below w.heap.size w w'
theorem takeNum_own (ao : Option Addr) (m c : Nat) (l : List UInt8) (w : World) (hm : m ≤ 140737488355328) (hs : Src w ao m c l) : Calls Tryz.prog 139 #[.slice ao m c] w (TookN w (nOf l) (rOf l) (eOf l)) :=
  (takeNum_any ao m c l w hm hs).mono fun e w' h => by
    rcases h with ⟨n, r, v, hn, rfl, hN⟩ | ⟨hn, rfl, hb⟩
    · have e1 : nOf l = n := by simp [nOf, hn]
      have e2 : rOf l = r := by simp [rOf, hn]
      have e3 : eOf l = 0 := by simp [eOf, hn]
      obtain ⟨ao, c, rfl, hs, _⟩ := hN.src
      rw [e1, e2, e3]
      exact ⟨ao, c, rfl, hs, in5_own hN.1, hN.2⟩
    · have e1 : nOf l = 0 := by simp [nOf, hn]
      have e2 : rOf l = [] := by simp [rOf, hn]
      have e3 : eOf l = 2 := by simp [eOf, hn]
      rw [e1, e2, e3]
      exact ⟨none, 0, rfl, Src.empty (fun _ => rfl), in5_none _, hb⟩
set_option maxHeartbeats 1000000 in
set_option maxRecDepth 100000 in
theorem takeTextO_none (ao : Option Addr) (m c : Nat) (l : List UInt8) (most : Int) (w : World) (hm : m ≤ 140737488355328) (hs : Src w ao m c l) (hn : takeNum l = none) :
    Calls Tryz.prog 210 #[.slice ao m c, .int .i64 most] w (TookO w (txt l most)) := by
  have KR := keep (readGroups_any ao m c l w hm hs)
  have HT := keep (txt_none (most := most) hn)
  have HN := keep hn
  clear hs hn
  go_enter Tryz.func210, Tryz.ntmps210
  go_wp2_with fail
  go_fit KR.out
  rintro e w1 (⟨n, r, hn, _, _⟩ | ⟨_, rfl, hb1⟩)
  · rw [HN.out] at hn; cases hn
  · have b1 := keep hb1
    clear hb1 KR
    go_wp2
    go_ret3
    exact tookO_no HT.out b1.out

set_option maxHeartbeats 1000000 in
set_option maxRecDepth 100000 in
theorem takeTextO_short (ao : Option Addr) (m c : Nat) (l : List UInt8) (most : Int) (w : World) (n : Nat) (r : List UInt8) (hm : m ≤ 140737488355328) (hs : Src w ao m c l) (hn : takeNum l = some (n, r)) (hno : ¬ ((n : Int) ≤ most ∧ n ≤ r.length)) :
    Calls Tryz.prog 210 #[.slice ao m c, .int .i64 most] w (TookO w (txt l most)) := by
  have KR := keep (readGroups_any ao m c l w hm hs)
  have HT := keep (txt_no (most := most) hn hno)
  have HN := keep hn
  obtain ⟨hn1, hn2⟩ := takeNum_some hn
  have e1 := congrArg List.length hn2
  rw [List.length_append, hs.len] at e1
  clear hs hn hn2
  obtain ⟨k, hk⟩ : ∃ k, m - r.length = k := ⟨_, rfl⟩
  have hrk : r.length = m - k := by omega
  have hkm : k ≤ m := by omega
  rw [hrk] at hno
  have HK := keep hk
  clear hk hrk e1
  go_enter Tryz.func210, Tryz.ntmps210
  go_wp2_with fail
  go_fit KR.out
  rintro e w1 (⟨n', r', hn, rfl, hb1⟩ | ⟨hn, _, _⟩)
  · rw [HN.out] at hn
    cases hn
    have b1 := keep hb1
    rw [HK.out]
    clear hb1 KR
    by_cases h1 : (n : Int) ≤ most
    · have h2 : (m : Int) - (k : Int) < (n : Int) := by omega
      go_wp2
      go_ret3
      exact tookO_no HT.out b1.out
    · have h2 : most < (n : Int) := by omega
      go_wp2
      go_ret3
      exact tookO_no HT.out b1.out
  · rw [HN.out] at hn; cases hn

set_option maxHeartbeats 1000000 in
set_option maxRecDepth 100000 in
theorem takeTextO_gen (b off m c : Nat) (l : List UInt8) (most : Int) (w : World) (n k : Nat) (r : List UInt8) (hm : m ≤ 140737488355328) (hs : Src w (some ⟨b, off, none⟩) m c l) (hn : takeNum l = some (n, r)) (hk : m - r.length = k) (hkm : k + n ≤ m) (h1 : (n : Int) ≤ most) (hsc : k < c) (hec : k + n < c) :
    Calls Tryz.prog 210 #[.slice (some ⟨b, off, none⟩) m c, .int .i64 most] w (TookO w (txt l most)) := by
  have t1 : ((k : Int) + (n : Int)).toNat = k + n := by omega
  have t3 : k + n - k = n := by omega
  have KR := keep (readGroups_any (some ⟨b, off, none⟩) m c l w hm hs)
  have HP := keep (partsT hs hn hk hkm)
  have HN := keep hn
  have hcap := hs.cap
  clear hs hn
  have HK := keep hk
  clear hk
  have g1 : ¬ (most < (n : Int)) := by omega
  have g2 : ¬ ((m : Int) - (k : Int) < (n : Int)) := by omega
  have KB := keep (fun w' (hb : Below w.heap.size w w') => conv_src (HP.out.below hb).text)
  have KE := keep (fun w' (hb : Below w.heap.size w w') => clone_any (some ⟨b, off + (k + n), none⟩) (m - (k + n)) (c - (k + n)) (r.drop n) w' (by omega) (HP.out.below hb).rest)
  have HT := keep (txt_yes (most := most) HN.out ⟨h1, by have := HK.out; omega⟩)
  have h0 : (0 : Int) ≤ (k : Int) := by omega
  go_enter Tryz.func210, Tryz.ntmps210
  go_wp2_with fail
  go_fit KR.out
  rintro e w1 (⟨n', r', hn, rfl, hb1⟩ | ⟨hn, _, _⟩)
  · rw [HN.out] at hn
    cases hn
    have b1 := keep hb1
    rw [HK.out]
    clear hb1 KR
    have hcv := KB.out w1.drew b1.out.drew
    go_wp2_with fail
    go_region_with (go_at_call 43; go_fit (KE.out w1.drew b1.out.drew); rintro e w2 ⟨v2, rfl, hn2⟩; obtain ⟨a2, c2, rfl, hs2, _⟩ := hn2.src; have b2 := keep (b1.out.drew.trans (hn2.2.mono b1.out.drew.size)); have S2 := keep hs2; have I2 := keep (in5_own hn2.1); have hcv2 := KB.out w2 b2.out; clear hn2 hs2)
    all_goals go_wp2
    all_goals go_ret3
    all_goals exact tookO_yes HT.out S2.out.len S2.out I2.out b2.out
  · rw [HN.out] at hn; cases hn
set_option maxHeartbeats 1000000 in
set_option maxRecDepth 100000 in
theorem takeTextO_end (b off : Nat) (l : List UInt8) (most : Int) (w : World) (n k : Nat) (r : List UInt8) (hm : k + n ≤ 140737488355328) (hs : Src w (some ⟨b, off, none⟩) (k + n) (k + n) l) (hn : takeNum l = some (n, r)) (hk : k + n - r.length = k) (h1 : (n : Int) ≤ most) (hsc : 0 < n) :
    Calls Tryz.prog 210 #[.slice (some ⟨b, off, none⟩) (k + n) (k + n), .int .i64 most] w (TookO w (txt l most)) := by
  have t1 : ((k : Int) + (n : Int)).toNat = k + n := by omega
  have t3 : k + n - k = n := by omega
  have KR := keep (readGroups_any (some ⟨b, off, none⟩) (k + n) (k + n) l w hm hs)
  have HP := keep (partsT hs hn hk (by omega))
  have HN := keep hn
  clear hs hn
  have HK := keep hk
  clear hk
  have g1 : ¬ (most < (n : Int)) := by omega
  have g2 : ¬ (((k : Int) + (n : Int)) - (k : Int) < (n : Int)) := by omega
  have KB := keep (fun w' (hb : Below w.heap.size w w') => conv_src (show Src w' (some ⟨b, off + k, none⟩) n n (r.take n) by have := (HP.out.below hb).text; rwa [t3] at this))
  have KE := keep (fun w' (hb : Below w.heap.size w w') => clone_any (some ⟨b, off, none⟩) 0 0 (r.drop n) w' (by omega) ((HP.out.below hb).rest0 rfl))
  have HT := keep (txt_yes (most := most) HN.out ⟨h1, by have := HK.out; omega⟩)
  have h0 : (0 : Int) ≤ (k : Int) := by omega
  go_enter Tryz.func210, Tryz.ntmps210
  go_wp2_with fail
  go_fit KR.out
  rintro e w1 (⟨n', r', hn, rfl, hb1⟩ | ⟨hn, _, _⟩)
  · rw [HN.out] at hn
    cases hn
    have b1 := keep hb1
    rw [HK.out]
    clear hb1 KR
    have hcv := KB.out w1.drew b1.out.drew
    go_wp2_with fail
    go_region_with (go_at_call 43; go_fit (KE.out w1.drew b1.out.drew); rintro e w2 ⟨v2, rfl, hn2⟩; obtain ⟨a2, c2, rfl, hs2, _⟩ := hn2.src; have b2 := keep (b1.out.drew.trans (hn2.2.mono b1.out.drew.size)); have S2 := keep hs2; have I2 := keep (in5_own hn2.1); have hcv2 := KB.out w2 b2.out; clear hn2 hs2)
    all_goals go_wp2
    all_goals go_ret3
    all_goals exact tookO_yes HT.out S2.out.len S2.out I2.out b2.out
  · rw [HN.out] at hn; cases hn
set_option maxHeartbeats 1000000 in
set_option maxRecDepth 100000 in
theorem takeTextO_nil (b off : Nat) (l : List UInt8) (most : Int) (w : World) (k : Nat) (r : List UInt8) (hm : k ≤ 140737488355328) (hs : Src w (some ⟨b, off, none⟩) k k l) (hn : takeNum l = some (0, r)) (hk : k - r.length = k) (h1 : ((0 : Nat) : Int) ≤ most) :
    Calls Tryz.prog 210 #[.slice (some ⟨b, off, none⟩) k k, .int .i64 most] w (TookO w (txt l most)) := by
  have KR := keep (readGroups_any (some ⟨b, off, none⟩) k k l w hm hs)
  have HP := keep (partsT hs hn hk (by omega))
  have HN := keep hn
  clear hs hn
  have HK := keep hk
  clear hk
  have g1 : ¬ (most < 0) := by omega
  have KB := keep (fun w' (hb : Below w.heap.size w w') => conv_src ((HP.out.below hb).text0 rfl))
  have KE := keep (fun w' (hb : Below w.heap.size w w') => clone_any (some ⟨b, off, none⟩) 0 0 (r.drop 0) w' (by omega) ((HP.out.below hb).rest0 rfl))
  have HT := keep (txt_yes (most := most) HN.out ⟨h1, by have := HK.out; omega⟩)
  go_enter Tryz.func210, Tryz.ntmps210
  go_wp2_with fail
  go_fit KR.out
  rintro e w1 (⟨n', r', hn, rfl, hb1⟩ | ⟨hn, _, _⟩)
  · rw [HN.out] at hn
    cases hn
    have b1 := keep hb1
    rw [HK.out]
    clear hb1 KR
    have hcv := KB.out w1.drew b1.out.drew
    go_wp2_with fail
    go_region_with (go_at_call 43; go_fit (KE.out w1.drew b1.out.drew); rintro e w2 ⟨v2, rfl, hn2⟩; obtain ⟨a2, c2, rfl, hs2, _⟩ := hn2.src; have b2 := keep (b1.out.drew.trans (hn2.2.mono b1.out.drew.size)); have S2 := keep hs2; have I2 := keep (in5_own hn2.1); have hcv2 := KB.out w2 b2.out; clear hn2 hs2)
    all_goals go_wp2
    all_goals go_ret3
    all_goals exact tookO_yes HT.out S2.out.len S2.out I2.out b2.out
  · rw [HN.out] at hn; cases hn
theorem takeTextO_any (ao : Option Addr) (m c : Nat) (l : List UInt8) (most : Int) (w : World) (hm : m ≤ 140737488355328) (hs : Src w ao m c l) :
    Calls Tryz.prog 210 #[.slice ao m c, .int .i64 most] w (TookO w (txt l most)) := by
  cases hn : takeNum l with
  | none => exact takeTextO_none ao m c l most w hm hs hn
  | some x =>
    obtain ⟨n, r⟩ := x
    by_cases hno : (n : Int) ≤ most ∧ n ≤ r.length
    · obtain ⟨h1, h2⟩ := hno
      have hn2 := (takeNum_some hn).2
      have e1 := congrArg List.length hn2
      have hp := num_pos n
      rw [List.length_append, hs.len] at e1
      have hcap := hs.cap
      obtain ⟨b, off, rfl, _, _⟩ := hs.form (by omega)
      obtain ⟨k, hk⟩ : ∃ k, m - r.length = k := ⟨_, rfl⟩
      by_cases hec : k + n < c
      · exact takeTextO_gen b off m c l most w n k r hm hs hn hk (by omega) h1 (by omega) hec
      · obtain rfl : c = k + n := by omega
        obtain rfl : m = k + n := by omega
        rcases Nat.eq_zero_or_pos n with h0 | h0
        · subst h0
          exact takeTextO_nil b off l most w k r hm hs hn hk h1
        · exact takeTextO_end b off l most w n k r hm hs hn hk h1 h0
    · exact takeTextO_short ao m c l most w n r hm hs hn hno
end Go.Proofs.YthnebhddakfadaaGreatDoor
namespace Go.Proofs.YthnebhddakfadaaGreatDoor
open Go.RowKit
open Ed (Nt)
variable {F : Nat → Prop}

/-- A reader in memory: its block, what is left. -/
structure Rd (F : Nat → Prop) (w : World) (b : Nat) (ao : Option Addr) (n c : Nat) (l : List UInt8) : Prop where
  row : w.heap[b]? = some (.cells #[.slice ao n c] 216)
  src : Src w ao n c l
  far : ∀ ad, ao = some ad → F ad.block
  free : ¬ F b
theorem Rd.cell {w : World} {b : Nat} {ao : Option Addr} {n c : Nat} {l : List UInt8} (h : Rd F w b ao n c l) : w.cell? ⟨b, 0, none⟩ = some (.slice ao n c) := by
  rw [cell_of_row _ _ _ _ _ _ h.row]; rfl
theorem Rd.lt {w : World} {b : Nat} {ao : Option Addr} {n c : Nat} {l : List UInt8} (h : Rd F w b ao n c l) : b < w.heap.size := (Array.getElem?_eq_some_iff.1 h.row).1
theorem Rd.below {w w' : World} {b : Nat} {ao : Option Addr} {n c : Nat} {l : List UInt8} (h : Rd F w b ao n c l) (hb : Below w.heap.size w w') : Rd F w' b ao n c l := ⟨(hb.block _ h.lt).trans h.row, h.src.below hb, h.far, h.free⟩
/-- The reader goes on by k bytes. -/
theorem Rd.on {w : World} {b : Nat} {ao : Option Addr} {n c : Nat} {l : List UInt8} (h : Rd F w b ao n c l) {a2 : Option Addr} {n2 c2 : Nat} {l2 : List UInt8} (hs : Src w a2 n2 c2 l2) (hf : ∀ ad, a2 = some ad → F ad.block) : Rd F (w.setCell ⟨b, 0, none⟩ (.slice a2 n2 c2)) b a2 n2 c2 l2 :=
  ⟨set_row h.row 0 _, hs.farB (b := b) (fun ad h1 (e : ad.block = b) => h.free (by rw [← e]; exact hf ad h1)) (fun g hg => Below.heap_setCell _ _ _ g hg), hf, h.free⟩
set_option maxHeartbeats 1000000 in
set_option maxRecDepth 100000 in
theorem ahead_any (b : Nat) (ao : Option Addr) (n c : Nat) (l : List UInt8) (k : Nat) (w : World) (h : Rd F w b ao n c l) (hn : n ≤ 140737488355328) (hk : k ≤ 1000) :
    Calls Tryz.prog 208 #[.pointer (some ⟨b, 0, none⟩), .int .i64 (k : Int)] w fun e w' => e = .returned (.slice ao (min k n) c) ∧ Below w.heap.size w w' := by
  have hc := h.cell
  have hcap := h.src.cap
  have hnil := h.src.nil
  clear h
  have h0 : (0 : Int) ≤ (n : Int) := by omega
  have h0k : (0 : Int) ≤ (k : Int) := by omega
  cases ao with
  | none =>
    obtain ⟨rfl, rfl⟩ := hnil rfl
    rcases Nat.eq_zero_or_pos k with rfl | hp
    · go_enter Tryz.func208, Tryz.ntmps208
      go_wp2
      go_region
      all_goals go_wp2
      all_goals go_ret
      all_goals exact ⟨rfl, by first | exact (Below.refl _ _).drew | exact Below.refl _ _⟩
    · go_enter Tryz.func208, Tryz.ntmps208
      go_wp2
      go_region
      all_goals go_wp2
      all_goals go_ret
      all_goals exact ⟨congrArg (fun x => Ending.returned (.slice none x 0)) (show (min (k : Int) 0).toNat = min k 0 by omega), by first | exact (Below.refl _ _).drew | exact Below.refl _ _⟩
  | some ad =>
    by_cases hkn : k < n
    · rw [Nat.min_eq_left (by omega)]
      have h1 : (k : Int) < (n : Int) := by omega
      have h2 : ¬ (n : Int) < (k : Int) := by omega
      have h3 : (k : Int) ≤ (c : Int) := by omega
      go_enter Tryz.func208, Tryz.ntmps208
      go_wp2
      go_region
      all_goals go_wp2
      all_goals go_ret
      all_goals exact ⟨congrArg (fun x => Ending.returned (.slice (some ad) x c)) (show (min (k : Int) (n : Int)).toNat = k by omega), by first | exact (Below.refl _ _).drew | exact Below.refl _ _⟩
    · rw [Nat.min_eq_right (by omega)]
      have h2 : ¬ (k : Int) < (n : Int) := by omega
      have h3 : (n : Int) ≤ (c : Int) := by omega
      go_enter Tryz.func208, Tryz.ntmps208
      go_wp2
      go_region
      all_goals go_wp2
      all_goals go_ret
      all_goals exact ⟨congrArg (fun x => Ending.returned (.slice (some ad) x c)) (show (min (k : Int) (n : Int)).toNat = n by omega), by first | exact (Below.refl _ _).drew | exact Below.refl _ _⟩
/-- The block b. -/
def AtB (b : Nat) (g : Nat) : Prop := g = b
/-- The reader stands at l. -/
def Went (F : Nat → Prop) (w : World) (b : Nat) (l : List UInt8) (w' : World) : Prop := Kept (AtB b) w w' ∧ ∃ a2 c2, Rd F w' b a2 l.length c2 l
theorem went_of {w : World} {b : Nat} {ao : Option Addr} {n c : Nat} {l : List UInt8} (h : Rd F w b ao n c l) {a2 : Option Addr} {m c2 : Nat} {l2 : List UInt8} (hs : Src w a2 m c2 l2) (hf : ∀ ad, a2 = some ad → F ad.block) : Went F w b l2 (w.setCell ⟨b, 0, none⟩ (.slice a2 m c2)) := by
  have e := hs.len
  subst e
  exact ⟨(Kept.refl _ _).setCell (p := ⟨b, 0, none⟩) (.inl (show AtB b b from rfl)) _, a2, c2, h.on hs hf⟩
theorem add_block (ad : Addr) (k : Nat) : (ad.add k).block = ad.block := by
  unfold Addr.add
  split <;> rfl
theorem Went.next {w w1 w2 : World} {b : Nat} {l : List UInt8} (h : Went F w b l w1) (hb : Below w1.heap.size w1 w2) : Went F w b l w2 := by
  obtain ⟨h1, a2, c2, h2⟩ := h
  exact ⟨h1.trans (Kept.of_below hb), a2, c2, h2.below hb⟩
theorem Went.after {w w1 w2 : World} {b : Nat} {l : List UInt8} (hb : Below w.heap.size w w1) (h : Went F w1 b l w2) : Went F w b l w2 := ⟨(Kept.of_below hb).trans h.1, h.2⟩
set_option maxHeartbeats 1000000 in
set_option maxRecDepth 100000 in
theorem goOn_any (b : Nat) (ao : Option Addr) (n c : Nat) (l : List UInt8) (k : Nat) (E : Int) (w : World) (h : Rd F w b ao n c l) (hn : n ≤ 140737488355328) (hk : k ≤ n) :
    Calls Tryz.prog 209 #[.pointer (some ⟨b, 0, none⟩), .int .i64 (k : Int), .int .i64 E] w fun e w' => e = .returned (.tuple #[]) ∧ Went F w b (l.drop (if E = 0 then k else n)) w' := by
  have H := keep h
  have hc := h.cell
  have hfz : w.frozen? ⟨b, 0, none⟩ = false := by simp [World.frozen?, h.row]
  have hcap := h.src.cap
  have hnil := h.src.nil
  clear h
  have h0 : (0 : Int) ≤ (n : Int) := by omega
  have h0k : (0 : Int) ≤ (k : Int) := by omega
  obtain ⟨G, hG⟩ : ∃ G, (l.drop (if E = 0 then k else n)) = G := ⟨_, rfl⟩
  rw [hG]
  have HG := keep hG
  clear hG
  by_cases hE : E = 0
  · have T1 := HG.out
    rw [if_pos hE] at T1
    have HT := keep T1
    clear T1 HG
    subst hE
    cases ao with
    | none =>
      obtain ⟨rfl, rfl⟩ := hnil rfl
      obtain rfl : k = 0 := by omega
      go_enter Tryz.func209, Tryz.ntmps209
      go_wp2
      go_end0
      exact ⟨rfl, went_of H.out (by rw [← HT.out]; exact H.out.src) (fun _ h => by cases h)⟩
    | some ad =>
      have hf := keep (H.out.far ad rfl)
      by_cases hkc : k = c
      · have T := keep (H.out.src.tail0 k hkc)
        obtain rfl : n = c := by omega
        subst hkc
        go_enter Tryz.func209, Tryz.ntmps209
        go_wp2
        go_end0
        exact ⟨rfl, went_of H.out (by rw [← HT.out]; exact T.out) (fun x h => by cases h; exact hf.out)⟩
      · have T := keep (H.out.src.tail k hk)
        have hkc2 : (k : Int) ≤ (n : Int) := by omega
        go_enter Tryz.func209, Tryz.ntmps209
        go_wp2
        go_end0
        exact ⟨rfl, went_of H.out (by rw [← HT.out]; exact T.out) (fun x h => by cases h; rw [add_block]; exact hf.out)⟩
  · have T1 := HG.out
    rw [if_neg hE] at T1
    have HT := keep T1
    clear T1 HG
    cases ao with
    | none =>
      obtain ⟨rfl, rfl⟩ := hnil rfl
      go_enter Tryz.func209, Tryz.ntmps209
      go_wp2
      go_end0
      exact ⟨rfl, went_of H.out (by rw [← HT.out]; exact H.out.src) (fun _ h => by cases h)⟩
    | some ad =>
      have hf := keep (H.out.far ad rfl)
      by_cases hkc : n = c
      · have T := keep (H.out.src.tail0 n hkc)
        subst hkc
        go_enter Tryz.func209, Tryz.ntmps209
        go_wp2
        go_end0
        exact ⟨rfl, went_of H.out (by rw [← HT.out]; exact T.out) (fun x h => by cases h; exact hf.out)⟩
      · have T := keep (H.out.src.tail n (Nat.le_refl _))
        have hnn : n - n = 0 := by omega
        go_enter Tryz.func209, Tryz.ntmps209
        go_wp2
        go_end0
        exact ⟨rfl, went_of H.out (by rw [← HT.out]; have := T.out; rw [hnn] at this; exact this) (fun x h => by cases h; rw [add_block]; exact hf.out)⟩
/-- A number read, and what is left. -/
def Ed.rdN (l : List UInt8) : Nat := nOf (l.take 9)
def Ed.rdL (l : List UInt8) : List UInt8 := l.drop (if eOf (l.take 9) = 0 then (l.take 9).length - (rOf (l.take 9)).length else l.length)
set_option maxHeartbeats 1000000 in
set_option maxRecDepth 100000 in
theorem rnum_any (b : Nat) (ao : Option Addr) (n c : Nat) (l : List UInt8) (w : World) (h : Rd F w b ao n c l) (hn : n ≤ 140737488355328) :
    Calls Tryz.prog 176 #[.pointer (some ⟨b, 0, none⟩)] w fun e w' => e = .returned (.int .i64 (Ed.rdN l : Nat)) ∧ Went F w b (Ed.rdL l) w' := by
  have H := keep h
  have hll := h.src.len
  have ht : l.take (min 9 n) = l.take 9 := by
    rcases Nat.le_total 9 n with h9 | h9
    · rw [Nat.min_eq_left h9]
    · rw [Nat.min_eq_right h9, List.take_of_length_le (by omega), List.take_of_length_le (by omega)]
  have hq : (l.take 9).length = min 9 n := by rw [List.length_take, hll]
  have HS := keep (show Src w ao (min 9 n) c (l.take 9) by have := h.src.head (min 9 n) (by omega); rwa [ht] at this)
  have hr : (rOf (l.take 9)).length ≤ min 9 n := by
    unfold rOf
    cases hx : takeNum (l.take 9) with
    | none => simp
    | some p =>
      obtain ⟨x, r⟩ := p
      have := congrArg List.length (takeNum_some hx).2
      rw [List.length_append, hq] at this
      simp
      omega
  have KA := keep (ahead_any b ao n c l 9 w h hn (by decide))
  have HQ := keep hq
  clear h ht hq
  obtain ⟨q, hq⟩ : ∃ q, min 9 n = q := ⟨_, rfl⟩
  rw [hq] at KA HS HQ hr
  have hqn : q ≤ n := by omega
  clear hq
  obtain ⟨t, hT⟩ : ∃ t, (rOf (l.take 9)).length = t := ⟨_, rfl⟩
  have HT := keep hT
  rw [hT] at hr
  clear hT
  go_enter Tryz.func176, Tryz.ntmps176
  go_wp2_with fail
  go_fit KA.out
  rintro e w1 ⟨rfl, hb1⟩
  have b1 := keep hb1
  clear hb1 KA
  go_wp2_with fail
  go_fit (takeNum_own ao q c (l.take 9) w1 (by omega) (HS.out.below b1.out))
  rintro e w2 ⟨a2, c2, rfl, _, _, hb2⟩
  rw [HT.out]
  have b2 := keep (b1.out.trans (hb2.mono b1.out.size))
  clear hb2
  have es : (q : Int) - (t : Int) = ((q - t : Nat) : Int) := by omega
  go_wp2_with fail
  go_fit (goOn_any b ao n c l (q - t) (eOf (l.take 9)) w2 (H.out.below b2.out) hn (by omega))
  rintro e w3 ⟨rfl, hw3⟩
  have W3 := keep (hw3.after b2.out)
  clear hw3
  go_wp2
  go_ret
  exact ⟨rfl, by unfold Ed.rdL; rw [HQ.out, HT.out, hll]; exact W3.out⟩
/-- A text taken: what it is, what is left, the error. -/
def Ed.tS (l : List UInt8) (most : Int) : List UInt8 := ((txt l most).map (·.1)).getD []
def Ed.tR (l : List UInt8) (most : Int) : List UInt8 := ((txt l most).map (·.2)).getD []
def Ed.tE (l : List UInt8) (most : Int) : Int := if (txt l most).isSome then 0 else 2
theorem takeText_ed (ao : Option Addr) (m c : Nat) (l : List UInt8) (most : Int) (w : World) (hm : m ≤ 140737488355328) (hs : Src w ao m c l) :
    Calls Tryz.prog 210 #[.slice ao m c, .int .i64 most] w fun e w' => ∃ a2 c2, e = .returned (.tuple #[.string ⟨(Ed.tS l most).toArray⟩, .slice a2 (Ed.tR l most).length c2, .int .i64 (Ed.tE l most)]) ∧ Below w.heap.size w w' :=
  (takeTextO_any ao m c l most w hm hs).mono fun e w' h => by
    rcases h with ⟨S, R, a2, c2, ht, rfl, _, _, hb⟩ | ⟨ht, rfl, hb⟩
    · exact ⟨a2, c2, by simp [Ed.tS, Ed.tR, Ed.tE, ht], hb⟩
    · exact ⟨none, 0, by simp [Ed.tS, Ed.tR, Ed.tE, ht], hb⟩
theorem Ed.tR_len (l : List UInt8) (most : Int) : (Ed.tR l most).length ≤ l.length := by
  unfold Ed.tR txt
  cases hx : takeNum l with
  | none => simp
  | some p =>
    obtain ⟨x, r⟩ := p
    have := congrArg List.length (takeNum_some hx).2
    rw [List.length_append] at this
    simp only
    split
    · simp
      omega
    · simp
def Ed.rdS (l : List UInt8) : List UInt8 := Ed.tS (l.take 73) 64
def Ed.rdT (l : List UInt8) : List UInt8 := l.drop (if Ed.tE (l.take 73) 64 = 0 then (l.take 73).length - (Ed.tR (l.take 73) 64).length else l.length)
set_option maxHeartbeats 1000000 in
set_option maxRecDepth 100000 in
theorem rtext_any (b : Nat) (ao : Option Addr) (n c : Nat) (l : List UInt8) (w : World) (h : Rd F w b ao n c l) (hn : n ≤ 140737488355328) :
    Calls Tryz.prog 177 #[.pointer (some ⟨b, 0, none⟩)] w fun e w' => ∃ g cap, e = .returned (.slice (some ⟨g, 0, none⟩) (Ed.rdS l).length cap) ∧ w.heap.size ≤ g ∧ In5 w' (some ⟨g, 0, none⟩) ∧ Src w' (some ⟨g, 0, none⟩) (Ed.rdS l).length cap (Ed.rdS l) ∧ Went F w b (Ed.rdT l) w' := by
  have H := keep h
  have hll := h.src.len
  have ht : l.take (min 73 n) = l.take 73 := by
    rcases Nat.le_total 73 n with h9 | h9
    · rw [Nat.min_eq_left h9]
    · rw [Nat.min_eq_right h9, List.take_of_length_le (by omega), List.take_of_length_le (by omega)]
  have hq : (l.take 73).length = min 73 n := by rw [List.length_take, hll]
  have HS := keep (show Src w ao (min 73 n) c (l.take 73) by have := h.src.head (min 73 n) (by omega); rwa [ht] at this)
  have hr : (Ed.tR (l.take 73) 64).length ≤ min 73 n := by rw [← hq]; exact Ed.tR_len _ _
  have KA := keep (ahead_any b ao n c l 73 w h hn (by decide))
  have HQ := keep hq
  clear h ht hq
  obtain ⟨q, hq⟩ : ∃ q, min 73 n = q := ⟨_, rfl⟩
  rw [hq] at KA HS HQ hr
  have hqn : q ≤ n := by omega
  clear hq
  obtain ⟨t, hT⟩ : ∃ t, (Ed.tR (l.take 73) 64).length = t := ⟨_, rfl⟩
  have HT := keep hT
  rw [hT] at hr
  clear hT
  obtain ⟨S, hS⟩ : ∃ S, Ed.rdS l = S := ⟨_, rfl⟩
  rw [hS]
  have hS2 := keep (show Ed.tS (l.take 73) 64 = S from hS)
  clear hS
  obtain ⟨E, hE⟩ : ∃ E, Ed.tE (l.take 73) 64 = E := ⟨_, rfl⟩
  have HE := keep hE
  clear hE
  go_enter Tryz.func177, Tryz.ntmps177
  go_wp2_with fail
  go_fit KA.out
  rintro e w1 ⟨rfl, hb1⟩
  have b1 := keep hb1
  clear hb1 KA
  go_wp2_with fail
  go_fit (takeText_ed ao q c (l.take 73) 64 w1 (by omega) (HS.out.below b1.out))
  rintro e w2 ⟨a2, c2, rfl, hb2⟩
  rw [HT.out, hS2.out, HE.out]
  have b2 := keep (b1.out.trans (hb2.mono b1.out.size))
  clear hb2
  have es : (q : Int) - (t : Int) = ((q - t : Nat) : Int) := by omega
  go_wp2_with fail
  go_fit (goOn_any b ao n c l (q - t) E w2 (H.out.below b2.out) hn (by omega))
  rintro e w3 ⟨rfl, hw3⟩
  have W3 := keep (hw3.after b2.out)
  clear hw3
  have cv := conv_str S S.length rfl w3
  go_wp2
  go_ret
  refine ⟨w3.heap.size, grownCap w3 S.length 0 5, rfl, W3.out.1.size, fun ad h => ?_, Src.converted w3 S S.length rfl, ?_⟩
  · cases h
    exact ⟨_, _, Lib.bytesWorld_at_new w3 5 ⟨S.toArray⟩⟩
  · unfold Ed.rdT
    rw [HQ.out, HT.out, hll, HE.out]
    exact W3.out.next (below_bytesWorld w3 ⟨S.toArray⟩)
end Go.Proofs.YthnebhddakfadaaGreatDoor
namespace Go.Proofs.YthnebhddakfadaaGreatDoor.Ed

theorem take_pre {p r : List UInt8} {k : Nat} (h : p.length ≤ k) : (p ++ r).take k = p ++ r.take (k - p.length) := by
  rw [List.take_append, List.take_of_length_le h]
theorem rd_num {n : Nat} (h : n < 4611686018427387904) (r : List UInt8) : rdN (num n ++ r) = n ∧ rdL (num n ++ r) = r := by
  have h9 := num_le' n (by omega)
  have ht := take_pre (r := r) h9
  have hp := takeNum_put (r := r.take (9 - (num n).length)) h
  unfold rdN rdL
  rw [ht]
  have e1 : nOf (num n ++ r.take (9 - (num n).length)) = n := by simp [nOf, hp]
  have e2 : rOf (num n ++ r.take (9 - (num n).length)) = r.take (9 - (num n).length) := by simp [rOf, hp]
  have e3 : eOf (num n ++ r.take (9 - (num n).length)) = 0 := by simp [eOf, hp]
  refine ⟨e1, ?_⟩
  rw [e2, e3, if_pos rfl, List.length_append, Nat.add_sub_cancel, List.drop_left]
theorem rd_text {s : List UInt8} (h : s.length ≤ 64) (r : List UInt8) : rdS (num s.length ++ s ++ r) = s ∧ rdT (num s.length ++ s ++ r) = r := by
  have h9 := num_le' s.length (by omega)
  have hl : (num s.length ++ s).length ≤ 73 := by rw [List.length_append]; omega
  have ht := take_pre (r := r) hl
  obtain ⟨x, hx⟩ : ∃ x, r.take (73 - (num s.length ++ s).length) = x := ⟨_, rfl⟩
  rw [hx] at ht
  have hp : takeNum (num s.length ++ s ++ x) = some (s.length, s ++ x) := by
    rw [List.append_assoc]
    exact takeNum_put (by omega)
  have hy := txt_yes (most := 64) hp ⟨by omega, by rw [List.length_append]; omega⟩
  rw [List.take_left, List.drop_left] at hy
  unfold rdS rdT
  rw [ht]
  have e1 : tS (num s.length ++ s ++ x) 64 = s := by unfold tS; rw [hy]; rfl
  have e2 : tR (num s.length ++ s ++ x) 64 = x := by unfold tR; rw [hy]; rfl
  have e3 : tE (num s.length ++ s ++ x) 64 = 0 := by unfold tE; rw [hy]; rfl
  refine ⟨e1, ?_⟩
  have e4 : (num s.length ++ s ++ x).length - x.length = (num s.length ++ s).length := by
    simp only [List.length_append]
    omega
  rw [e2, e3, if_pos rfl, e4, List.drop_left]
/-- A note read, and what is left. -/
def rdM (l : List UInt8) : Nt := ⟨(rdN l : Nat), (rdN (rdL l) : Nat), (rdN (rdL (rdL l)) : Nat), rdS (rdL (rdL (rdL l))), rdS (rdT (rdL (rdL (rdL l))))⟩
def rdML (l : List UInt8) : List UInt8 := rdT (rdT (rdL (rdL (rdL l))))
/-- Notes read, k of them at the most. -/
def rdMs : Nat → List UInt8 → List Nt
  | 0, _ => []
  | k + 1, l => if l.length = 0 then [] else rdM l :: rdMs k (rdML l)
/-- A version read. -/
def rdV (l : List UInt8) : Ver := ⟨(rdN l : Nat), (rdN (rdL l) : Nat), (rdN (rdL (rdL l)) : Nat), (rdN (rdL (rdL (rdL l))) : Nat), rdMs (min (rdN (rdL (rdL (rdL (rdL l))))) 4096) (rdL (rdL (rdL (rdL (rdL l)))))⟩
theorem cl_num {z : Int} (h : isNum z = true) : ((cl z : Nat) : Int) = z ∧ cl z < 4611686018427387904 := by
  unfold isNum at h
  unfold cl
  simp only [Bool.and_eq_true, decide_eq_true_eq] at h
  omega
theorem rd_int {z : Int} (h : isNum z = true) (r : List UInt8) : ((rdN (num (cl z) ++ r) : Nat) : Int) = z ∧ rdL (num (cl z) ++ r) = r := by
  obtain ⟨h1, h2⟩ := cl_num h
  obtain ⟨h3, h4⟩ := rd_num h2 r
  exact ⟨by rw [h3, h1], h4⟩
theorem note_parts {m : Nt} (h : mayBe m = true) : isNum m.num = true ∧ isNum m.level = true ∧ isNum m.count = true ∧ m.first.length ≤ 64 ∧ m.last.length ≤ 64 := by
  unfold mayBe at h
  simp only [Bool.and_eq_true, decide_eq_true_eq] at h
  obtain ⟨⟨⟨⟨⟨⟨⟨h1, h2⟩, h3⟩, h4⟩, h5⟩, h6⟩, h7⟩, _⟩ := h
  unfold isKey at h6 h7
  simp only [Bool.and_eq_true, decide_eq_true_eq] at h6 h7
  refine ⟨h1, ?_, ?_, h6.2, h7.2⟩
  · unfold isNum
    simp only [Bool.and_eq_true, decide_eq_true_eq]
    omega
  · unfold isNum
    simp only [Bool.and_eq_true, decide_eq_true_eq]
    omega
theorem rd_note {m : Nt} (h : mayBe m = true) (r : List UInt8) : rdM (noteB m ++ r) = m ∧ rdML (noteB m ++ r) = r := by
  obtain ⟨h1, h2, h3, h4, h5⟩ := note_parts h
  have e : noteB m ++ r = num (cl m.num) ++ (num (cl m.level) ++ (num (cl m.count) ++ (num m.first.length ++ m.first ++ (num m.last.length ++ m.last ++ r)))) := by
    unfold noteB numsB
    simp
  obtain ⟨a1, a2⟩ := rd_int h1 (num (cl m.level) ++ (num (cl m.count) ++ (num m.first.length ++ m.first ++ (num m.last.length ++ m.last ++ r))))
  obtain ⟨b1, b2⟩ := rd_int h2 (num (cl m.count) ++ (num m.first.length ++ m.first ++ (num m.last.length ++ m.last ++ r)))
  obtain ⟨c1, c2⟩ := rd_int h3 (num m.first.length ++ m.first ++ (num m.last.length ++ m.last ++ r))
  obtain ⟨d1, d2⟩ := rd_text h4 (num m.last.length ++ m.last ++ r)
  obtain ⟨f1, f2⟩ := rd_text h5 r
  rw [e]
  unfold rdM rdML
  rw [a2, b2, c2, d2, a1, b1, c1, d1, f1, f2]
  exact ⟨rfl, rfl⟩
theorem noteB_pos (m : Nt) : 0 < (noteB m).length := by
  have := num_pos m.last.length
  unfold noteB
  simp only [List.length_append]
  omega
theorem rd_notes : ∀ {l : List Nt} (_ : ∀ m ∈ l, mayBe m = true) (r : List UInt8), rdMs l.length (notesB l ++ r) = l
  | [], _, _ => rfl
  | m :: t, h, r => by
    have e : notesB (m :: t) ++ r = noteB m ++ (notesB t ++ r) := by
      unfold notesB
      rw [List.flatMap_cons, List.append_assoc]
    obtain ⟨h1, h2⟩ := rd_note (h m (by simp)) (notesB t ++ r)
    have hp := noteB_pos m
    rw [e, List.length_cons]
    unfold rdMs
    rw [if_neg (by rw [List.length_append]; omega), h1, h2, rd_notes (fun x hx => h x (List.mem_cons_of_mem _ hx)) r]
theorem notes_may2 {l : List Nt} {next : Int} (h : notesOk l next = true) : l.length ≤ 4096 ∧ ∀ m ∈ l, mayBe m = true := by
  unfold notesOk at h
  simp only [Bool.and_eq_true, decide_eq_true_eq] at h
  refine ⟨h.1.1.1, fun m hm => ?_⟩
  obtain ⟨k, hk, rfl⟩ := List.getElem_of_mem hm
  have h2 := List.all_eq_true.1 h.2 k (List.mem_range.2 hk)
  unfold okN at h2
  rw [List.getElem?_eq_getElem hk] at h2
  simp only [Bool.and_eq_true] at h2
  exact h2.1.1
/-- What was encoded is read back, whatever is behind it. -/
theorem rd_ver {v : Ver} (h : chk v = true) (r : List UInt8) : rdV (verB v ++ r) = v := by
  obtain ⟨h1, h2, h3, h4, h5⟩ := chk_parts h
  obtain ⟨hl, hm⟩ := notes_may2 h5
  obtain ⟨gen, next, log, seq, tabs⟩ := v
  simp only at h1 h2 h3 h4 h5 hl hm
  have hN : isNum (tabs.length : Int) = true := by
    unfold isNum
    simp only [Bool.and_eq_true, decide_eq_true_eq]
    omega
  have e : verB ⟨gen, next, log, seq, tabs⟩ ++ r = num (cl gen) ++ (num (cl next) ++ (num (cl log) ++ (num (cl seq) ++ (num (cl (tabs.length : Int)) ++ (notesB tabs ++ r))))) := by
    unfold verB numsB
    simp
  obtain ⟨a1, a2⟩ := rd_int h1 (num (cl next) ++ (num (cl log) ++ (num (cl seq) ++ (num (cl (tabs.length : Int)) ++ (notesB tabs ++ r)))))
  obtain ⟨b1, b2⟩ := rd_int h2 (num (cl log) ++ (num (cl seq) ++ (num (cl (tabs.length : Int)) ++ (notesB tabs ++ r))))
  obtain ⟨c1, c2⟩ := rd_int h3 (num (cl seq) ++ (num (cl (tabs.length : Int)) ++ (notesB tabs ++ r)))
  obtain ⟨d1, d2⟩ := rd_int h4 (num (cl (tabs.length : Int)) ++ (notesB tabs ++ r))
  obtain ⟨f1, f2⟩ := rd_int hN (notesB tabs ++ r)
  have f3 : rdN (num (cl (tabs.length : Int)) ++ (notesB tabs ++ r)) = tabs.length := by omega
  rw [e]
  unfold rdV
  rw [a2, b2, c2, d2, f2, f3, a1, b1, c1, d1, Nat.min_eq_left hl, rd_notes hm r]
/-- Are bytes a version's? -/
def isVer (l : List UInt8) : Bool := chk (rdV l) && decide (verB (rdV l) = l)
theorem isVer_put {v : Ver} (h : chk v = true) : isVer (verB v) = true ∧ rdV (verB v) = v := by
  have e := rd_ver h []
  rw [List.append_nil] at e
  unfold isVer
  rw [e, h]
  exact ⟨by simp, rfl⟩
end Go.Proofs.YthnebhddakfadaaGreatDoor.Ed
namespace Go.Proofs.YthnebhddakfadaaGreatDoor
open Go.RowKit

theorem big_take (l : List UInt8) (k : Nat) (h : k < l.length) : big (l.take (k + 1)) = big (l.take k) * 256 + (fn l k).toNat := by
  rw [List.take_succ_eq_append_getElem h, big_snoc]
  have e : fn l k = l[k] := by simp [fn, List.getD, h]
  rw [e]
theorem or_low (a b : Nat) (ha : a < 72057594037927936) (hb : b < 256) : bits .or .u64 ((a : Int) * 256) (IntKind.u64.wrap (b : Int)) = ((a * 256 + b : Nat) : Int) := by
  have e1 : IntKind.u64.wrap (b : Int) = (b : Int) := by rw [IntKind.wrap_u64]; omega
  have e2 : (a : Int) * 256 = ((a * 256 : Nat) : Int) := by omega
  rw [e1, e2, u64_or_nat _ _ (by omega) (by omega)]
  congr 1
  have := Nat.two_pow_add_eq_or_of_lt (i := 8) hb a
  rw [Nat.mul_comm] at this
  exact this.symm

set_option maxHeartbeats 1000000 in
set_option maxRecDepth 100000 in
theorem readHigh_any (ao : Option Addr) (m c : Nat) (l : List UInt8) (w : World) (hm : m ≤ 8) (hs : Src w ao m c l) :
    Calls Tryz.prog 175 #[.slice ao m c] w fun e w' => e = .returned (.int .u64 ((big l : Nat) : Int)) ∧ Below w.heap.size w w' := by
  have hll := hs.len
  have HS := keep hs
  clear hs
  go_enter Tryz.func175, Tryz.ntmps175
  go_wp2
  go_loopw [3, 8] (fun x i wr => ∃ k : Nat, k ≤ m ∧ i = .int .i64 (k : Int) ∧ x = .int .u64 ((big (l.take k) : Nat) : Int) ∧ Hid (Below w.heap.size w wr)) (fun _ i _ => m - (intOf i).toNat)
  case atStart => exact ⟨0, Nat.zero_le _, rfl, rfl, Below.refl _ _⟩
  case round =>
    obtain ⟨k, hk, rfl, rfl, hb⟩ := hrel
    by_cases hlt : k < m
    · obtain ⟨b, off, rfl, hbw, hby⟩ := HS.out.form (by omega)
      have hcell : wr.cell? ⟨b, off + k, none⟩ = some (.int .u8 ((fn l k).toNat : Int)) := by
        rw [hb.out.cell (p := ⟨b, off + k, none⟩) hbw]; exact hby k hlt
      have h0 : (0 : Int) ≤ (k : Int) := by omega
      have h1 : (k : Int) < (m : Int) := by omega
      clear hby
      have hq : big (l.take k) < 72057594037927936 := by
        have h2 := big_lt (l.take k)
        have h3 : (l.take k).length ≤ 7 := by simp; omega
        have h4 : 256 ^ (l.take k).length ≤ 256 ^ 7 := Nat.pow_le_pow_right (by decide) h3
        have e : (256 : Nat) ^ 7 = 72057594037927936 := rfl
        omega
      have hnext : Hid (big (l.take (k + 1)) = big (l.take k) * 256 + (fn l k).toNat) := big_take l k (by omega)
      have hor := or_low (big (l.take k)) (fn l k).toNat hq (fn l k).toNat_lt
      obtain ⟨q, hq2⟩ : ∃ q, big (l.take k) = q := ⟨_, rfl⟩
      obtain ⟨y, hy⟩ : ∃ y, fn l k = y := ⟨_, rfl⟩
      rw [hq2] at hq hnext hor ⊢
      rw [hy] at hnext hor hcell
      clear hq2 hy
      have hor' := keep hor
      clear hor
      go_wp2
      go_roundw
      case rel => exact ⟨k + 1, by omega, by go_num, by rw [hnext.out, hor'.out], hb⟩
      case measure => simp [intOf]; omega
    · obtain rfl : k = m := by omega
      rw [List.take_of_length_le (by omega)]
      go_wp2
      go_ret
      exact ⟨rfl, hb.out⟩

end Go.Proofs.YthnebhddakfadaaGreatDoor
namespace Go.Proofs.YthnebhddakfadaaGreatDoor
open Go.RowKit

/-- What frame bytes begin with: none, or its body and what stands behind it. -/
def tfr (l : List UInt8) (most : Int) : Option (List UInt8 × List UInt8) :=
  match takeNum l with
  | none => none
  | some (n, r) => if (n : Int) ≤ most ∧ n + 4 ≤ r.length ∧ big (r.take 4) = (crc (num n ++ (r.drop 4).take n)).toNat then some ((r.drop 4).take n, r.drop (4 + n)) else none
theorem tfr_none {l : List UInt8} {most : Int} (h : takeNum l = none) : tfr l most = none := by simp [tfr, h]
theorem tfr_no {l : List UInt8} {most : Int} {n : Nat} {r : List UInt8} (h : takeNum l = some (n, r)) (h2 : ¬ ((n : Int) ≤ most ∧ n + 4 ≤ r.length ∧ big (r.take 4) = (crc (num n ++ (r.drop 4).take n)).toNat)) : tfr l most = none := by
  simp only [tfr, h]; rw [if_neg h2]
theorem tfr_yes {l : List UInt8} {most : Int} {n : Nat} {r : List UInt8} (h : takeNum l = some (n, r)) (h2 : (n : Int) ≤ most ∧ n + 4 ≤ r.length ∧ big (r.take 4) = (crc (num n ++ (r.drop 4).take n)).toNat) : tfr l most = some ((r.drop 4).take n, r.drop (4 + n)) := by
  simp only [tfr, h]; rw [if_pos h2]
/-- The answer of a call that takes a frame. -/
def TookF (w : World) (t : Option (List UInt8 × List UInt8)) (e : Ending) (w' : World) : Prop :=
  (∃ B R ao c ao2 c2, t = some (B, R) ∧ e = .returned (.tuple #[.slice ao B.length c, .slice ao2 R.length c2, .int .i64 0]) ∧ w'.ownsRow w.heap.size 5 1 (.slice ao B.length c) B.length (bv B) ∧ Src w' ao2 R.length c2 R ∧ Below w.heap.size w w') ∨
  (t = none ∧ e = .returned (.tuple #[.slice none 0 0, .slice none 0 0, .int .i64 2]) ∧ Below w.heap.size w w')
theorem tookF_no {w w' : World} {t : Option (List UInt8 × List UInt8)} (h : t = none) (hb : Below w.heap.size w w') : TookF w t (.returned (.tuple #[.slice none 0 0, .slice none 0 0, .int .i64 2])) w' := .inr ⟨h, rfl, hb⟩

set_option maxHeartbeats 1000000 in
set_option maxRecDepth 100000 in
theorem takeFrame_none (ao : Option Addr) (m c : Nat) (l : List UInt8) (most : Int) (w : World) (hm : m ≤ 140737488355328) (hs : Src w ao m c l) (hn : takeNum l = none) :
    Calls Tryz.prog 140 #[.slice ao m c, .int .i64 most] w (TookF w (tfr l most)) := by
  have KR := keep (readGroups_any ao m c l w hm hs)
  have HT := keep (tfr_none (most := most) hn)
  have HN := keep hn
  clear hs hn
  go_enter Tryz.func140, Tryz.ntmps140
  go_wp2_with fail
  go_fit KR.out
  rintro e w1 (⟨n, r, hn, _, _⟩ | ⟨_, rfl, hb1⟩)
  · rw [HN.out] at hn; cases hn
  · have b1 := keep hb1
    clear hb1 KR
    go_wp2
    go_ret3
    exact tookF_no HT.out b1.out

set_option maxHeartbeats 1000000 in
set_option maxRecDepth 100000 in
theorem takeFrame_short (ao : Option Addr) (m c : Nat) (l : List UInt8) (most : Int) (w : World) (n : Nat) (r : List UInt8) (hm : m ≤ 140737488355328) (hs : Src w ao m c l) (hn : takeNum l = some (n, r)) (hno : ¬ ((n : Int) ≤ most ∧ n + 4 ≤ r.length)) :
    Calls Tryz.prog 140 #[.slice ao m c, .int .i64 most] w (TookF w (tfr l most)) := by
  have KR := keep (readGroups_any ao m c l w hm hs)
  have HT := keep (tfr_no (most := most) hn (fun h => hno ⟨h.1, h.2.1⟩))
  have HN := keep hn
  obtain ⟨hn1, hn2⟩ := takeNum_some hn
  have e1 := congrArg List.length hn2
  rw [List.length_append, hs.len] at e1
  clear hs hn hn2
  obtain ⟨k, hk⟩ : ∃ k, m - r.length = k := ⟨_, rfl⟩
  have hrk : r.length = m - k := by omega
  have hkm : k ≤ m := by omega
  rw [hrk] at hno
  have HK := keep hk
  clear hk hrk e1
  go_enter Tryz.func140, Tryz.ntmps140
  go_wp2_with fail
  go_fit KR.out
  rintro e w1 (⟨n', r', hn, rfl, hb1⟩ | ⟨hn, _, _⟩)
  · rw [HN.out] at hn
    cases hn
    have b1 := keep hb1
    rw [HK.out]
    clear hb1 KR
    by_cases h1 : (n : Int) ≤ most
    · have h2 : (m : Int) - (k : Int) - 4 < (n : Int) := by omega
      go_wp2
      go_ret3
      exact tookF_no HT.out b1.out
    · have h2 : most < (n : Int) := by omega
      go_wp2
      go_ret3
      exact tookF_no HT.out b1.out
  · rw [HN.out] at hn; cases hn

/-- The parts of bytes that begin with a number n, as slices. -/
structure Parts (b off m c n k : Nat) (l r : List UInt8) (w : World) : Prop where
  head : Src w (some ⟨b, off, none⟩) k c (num n)
  sum : Src w (some ⟨b, off + k, none⟩) 4 (c - k) (r.take 4)
  body : Src w (some ⟨b, off + (k + 4), none⟩) n (c - (k + 4)) ((r.drop 4).take n)
  rest : Src w (some ⟨b, off + (k + 4 + n), none⟩) (m - (k + 4 + n)) (c - (k + 4 + n)) (r.drop (4 + n))
  body0 : k + 4 = c → Src w (some ⟨b, off, none⟩) n 0 ((r.drop 4).take n)
  rest0 : k + 4 + n = c → Src w (some ⟨b, off, none⟩) 0 0 (r.drop (4 + n))
theorem parts {b off m c n k : Nat} {l r : List UInt8} {w : World} (hs : Src w (some ⟨b, off, none⟩) m c l) (hn : takeNum l = some (n, r)) (hk : m - r.length = k) (hkm : k + (n + 4) ≤ m) : Parts b off m c n k l r w := by
  obtain ⟨_, hn2⟩ := takeNum_some hn
  have e1 := congrArg List.length hn2
  rw [List.length_append, hs.len] at e1
  have hkn : k = (num n).length := by omega
  have hr : l.drop k = r := by rw [hkn, hn2, List.drop_left]
  have hh : l.take k = num n := by rw [hkn, hn2, List.take_left]
  have hcap := hs.cap
  refine ⟨?_, ?_, ?_, ?_, ?_, ?_⟩
  · have := hs.head k (by omega)
    rwa [hh] at this
  · have := (hs.tailS k (by omega)).head 4 (by omega)
    rwa [hr] at this
  · have := (hs.tailS (k + 4) (by omega)).head n (by omega)
    rwa [← List.drop_drop, hr] at this
  · have := hs.tailS (k + 4 + n) (by omega)
    have e2 : l.drop (k + 4 + n) = r.drop (4 + n) := by rw [Nat.add_assoc k 4 n, ← List.drop_drop, hr]
    rwa [e2] at this
  · intro h
    have h0 : n = 0 := by omega
    subst h0
    exact Src.none_of (by simp) (fun e => by cases e)
  · intro h
    exact Src.none_of (by rw [List.length_drop]; omega) (fun e => by cases e)
theorem Parts.below {b off m c n k : Nat} {l r : List UInt8} {w w' : World} (h : Parts b off m c n k l r w) (hb : Below w.heap.size w w') : Parts b off m c n k l r w' :=
  ⟨h.head.below hb, h.sum.below hb, h.body.below hb, h.rest.below hb, fun e => (h.body0 e).below hb, fun e => (h.rest0 e).below hb⟩

theorem tookF_yes {w w' : World} {t : Option (List UInt8 × List UInt8)} {B R : List UInt8} {ao ao2 : Option Addr} {c c2 x y : Nat} (h : t = some (B, R)) (hx : B.length = x) (hy : R.length = y) (h1 : w'.ownsRow w.heap.size 5 1 (.slice ao x c) x (bv B)) (h2 : Src w' ao2 y c2 R) (hb : Below w.heap.size w w') : TookF w t (.returned (.tuple #[.slice ao x c, .slice ao2 y c2, .int .i64 0])) w' := by
  subst hx
  subst hy
  exact .inl ⟨B, R, ao, c, ao2, c2, h, rfl, h1, h2, hb⟩

end Go.Proofs.YthnebhddakfadaaGreatDoor
