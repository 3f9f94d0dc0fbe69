/- code.TakeFrame, whole; and what follows of frames over plain lists; no walk. -/
import Derived.Test.YthnebhddakfadaaGreatDoorTg
import Derived.Test.YthnebhddakfadaaGreatDoorTh
import Derived.Test.YthnebhddakfadaaGreatDoorTi
namespace Go.Proofs.YthnebhddakfadaaGreatDoor
open Go.RowKit

theorem takeFrame_any (ao : Option Addr) (m c : Nat) (l : List UInt8) (most : Int) (w : World) (hm : m ≤ 140737488355328) (hs : Src w ao m c l) :
    Calls Tryz.prog 140 #[.slice ao m c, .int .i64 most] w (TookF w (tfr l most)) := by
  cases hn : takeNum l with
  | none => exact takeFrame_none ao m c l most w hm hs hn
  | some x =>
    obtain ⟨n, r⟩ := x
    by_cases hno : (n : Int) ≤ most ∧ n + 4 ≤ r.length
    · obtain ⟨h1, h2⟩ := hno
      have hn2 := (takeNum_some hn).2
      have e1 := congrArg List.length hn2
      rw [List.length_append, hs.len] at e1
      have hcap := hs.cap
      obtain ⟨b, off, rfl, _, _⟩ := hs.form (by omega)
      obtain ⟨k, hk⟩ : ∃ k, m - r.length = k := ⟨_, rfl⟩
      by_cases hec : k + 4 + n < c
      · exact takeFrame_gen b off m c l most w n k r hm hs hn hk (by omega) h1 (by omega) hec
      · obtain rfl : c = k + 4 + n := by omega
        obtain rfl : m = k + 4 + n := by omega
        rcases Nat.eq_zero_or_pos n with h0 | h0
        · subst h0
          exact takeFrame_nil b off l most w k r hm hs hn hk h1
        · exact takeFrame_end b off l most w n k r hm hs hn hk h1 h0
    · exact takeFrame_short ao m c l most w n r hm hs hn hno

theorem crc_lt (l : List UInt8) : (crc l).toNat < 256 ^ 4 := by have := (crc l).toNat_lt; have e : (256 : Nat) ^ 4 = 4294967296 := rfl; omega
/-- What is taken as a frame is one. -/
theorem tfr_some {l : List UInt8} {most : Int} {B R : List UInt8} (h : tfr l most = some (B, R)) : l = frame B ++ R ∧ (B.length : Int) ≤ most := by
  cases hn : takeNum l with
  | none => rw [tfr_none hn] at h; cases h
  | some x =>
    obtain ⟨n, r⟩ := x
    by_cases hc : (n : Int) ≤ most ∧ n + 4 ≤ r.length ∧ big (r.take 4) = (crc (num n ++ (r.drop 4).take n)).toNat
    · rw [tfr_yes hn hc] at h
      obtain ⟨h1, h2, h3⟩ := hc
      have hn2 := (takeNum_some hn).2
      have e := Option.some.inj h
      have eB : (r.drop 4).take n = B := congrArg Prod.fst e
      have eR : r.drop (4 + n) = R := congrArg Prod.snd e
      have hB : B.length = n := by rw [← eB, List.length_take, List.length_drop]; omega
      have h4 : (r.take 4).length = 4 := by rw [List.length_take]; omega
      have hbe : be 4 (crc (num n ++ B)).toNat = r.take 4 := by
        rw [← eB, ← h3]
        have := be_big (r.take 4)
        rwa [h4] at this
      refine ⟨?_, by rw [hB]; exact h1⟩
      unfold frame
      rw [hB, hbe, hn2, ← eR, ← eB, List.append_assoc, List.append_assoc]
      congr 1
      rw [← List.drop_drop, List.take_append_drop, List.take_append_drop]
    · rw [tfr_no hn hc] at h; cases h
/-- A frame is taken. -/
theorem tfr_frame {B R : List UInt8} {most : Int} (hB : B.length < 4611686018427387904) (h : (B.length : Int) ≤ most) : tfr (frame B ++ R) most = some (B, R) := by
  have hl : frame B ++ R = num B.length ++ (be 4 (crc (num B.length ++ B)).toNat ++ (B ++ R)) := by simp [frame]
  have hn : takeNum (frame B ++ R) = some (B.length, be 4 (crc (num B.length ++ B)).toNat ++ (B ++ R)) := by rw [hl]; exact takeNum_put hB
  have hb4 := be_length 4 (crc (num B.length ++ B)).toNat
  have e1 : (be 4 (crc (num B.length ++ B)).toNat ++ (B ++ R)).take 4 = be 4 (crc (num B.length ++ B)).toNat := List.take_left' hb4
  have e2 : (be 4 (crc (num B.length ++ B)).toNat ++ (B ++ R)).drop 4 = B ++ R := List.drop_left' hb4
  have e3 : (B ++ R).take B.length = B := List.take_left
  have e4 : (be 4 (crc (num B.length ++ B)).toNat ++ (B ++ R)).drop (4 + B.length) = R := by rw [← List.drop_drop, e2, List.drop_left]
  have := tfr_yes (most := most) hn ⟨h, by rw [List.length_append, hb4, List.length_append]; omega, by rw [e1, e2, e3, big_be 4 _ (crc_lt _)]⟩
  rw [this, e2, e3, e4]
end Go.Proofs.YthnebhddakfadaaGreatDoor
