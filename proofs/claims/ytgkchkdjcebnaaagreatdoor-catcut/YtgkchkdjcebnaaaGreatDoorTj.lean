/- code.TakeFrame, whole; and what follows of frames over plain lists; no walk. -/
import Derived.Test.YtgkchkdjcebnaaaGreatDoorTg
import Derived.Test.YtgkchkdjcebnaaaGreatDoorTh
import Derived.Test.YtgkchkdjcebnaaaGreatDoorTi
namespace Go.Proofs.YtgkchkdjcebnaaaGreatDoor
open Go.RowKit

theorem takeFrame_any (ao : Option Addr) (m c : Nat) (l : List UInt8) (most : Int) (w : World) (hm : m ≤ 140737488355328) (hs : Src w ao m c l) :
    Calls Tryz.prog 140 #[.slice ao m c, .int .i64 most] w (TookF w (tfr l most)) := by
  cases hn : takeNum l with
  | none => exact takeFrame_none ao m c l most w hm hs hn
  | some x =>
    obtain ⟨n, r⟩ := x
    by_cases hno : (n : Int) ≤ most ∧ n + 4 ≤ r.length
    · obtain ⟨h1, h2⟩ := hno
      have hn2 := (takeNum_some hn).2
      have e1 := congrArg List.length hn2
      rw [List.length_append, hs.len] at e1
      have hcap := hs.cap
      obtain ⟨b, off, rfl, _, _⟩ := hs.form (by omega)
      obtain ⟨k, hk⟩ : ∃ k, m - r.length = k := ⟨_, rfl⟩
      by_cases hec : k + 4 + n < c
      · exact takeFrame_gen b off m c l most w n k r hm hs hn hk (by omega) h1 (by omega) hec
      · obtain rfl : c = k + 4 + n := by omega
        obtain rfl : m = k + 4 + n := by omega
        rcases Nat.eq_zero_or_pos n with h0 | h0
        · subst h0
          exact takeFrame_nil b off l most w k r hm hs hn hk h1
        · exact takeFrame_end b off l most w n k r hm hs hn hk h1 h0
    · exact takeFrame_short ao m c l most w n r hm hs hn hno

theorem num_of_len {n : Nat} (h : n ≤ 140737488355328) : n < 4611686018427387904 := by omega
theorem crc_lt (l : List UInt8) : (crc l).toNat < 256 ^ 4 := by have := (crc l).toNat_lt; have e : (256 : Nat) ^ 4 = 4294967296 := rfl; omega
/-- What is taken as a frame is one. -/
theorem tfr_some {l : List UInt8} {most : Int} {B R : List UInt8} (h : tfr l most = some (B, R)) : l = frame B ++ R ∧ (B.length : Int) ≤ most := by
  cases hn : takeNum l with
  | none => rw [tfr_none hn] at h; cases h
  | some x =>
    obtain ⟨n, r⟩ := x
    by_cases hc : (n : Int) ≤ most ∧ n + 4 ≤ r.length ∧ big (r.take 4) = (crc (num n ++ (r.drop 4).take n)).toNat
    · rw [tfr_yes hn hc] at h
      obtain ⟨h1, h2, h3⟩ := hc
      have hn2 := (takeNum_some hn).2
      have e := Option.some.inj h
      have eB : (r.drop 4).take n = B := congrArg Prod.fst e
      have eR : r.drop (4 + n) = R := congrArg Prod.snd e
      have hB : B.length = n := by rw [← eB, List.length_take, List.length_drop]; omega
      have h4 : (r.take 4).length = 4 := by rw [List.length_take]; omega
      have hbe : be 4 (crc (num n ++ B)).toNat = r.take 4 := by
        rw [← eB, ← h3]
        have := be_big (r.take 4)
        rwa [h4] at this
      refine ⟨?_, by rw [hB]; exact h1⟩
      unfold frame
      rw [hB, hbe, hn2, ← eR, ← eB, List.append_assoc, List.append_assoc]
      congr 1
      rw [← List.drop_drop, List.take_append_drop, List.take_append_drop]
    · rw [tfr_no hn hc] at h; cases h
/-- A frame is taken. -/
theorem tfr_frame {B R : List UInt8} {most : Int} (hB : B.length < 4611686018427387904) (h : (B.length : Int) ≤ most) : tfr (frame B ++ R) most = some (B, R) := by
  have hl : frame B ++ R = num B.length ++ (be 4 (crc (num B.length ++ B)).toNat ++ (B ++ R)) := by simp [frame]
  have hn : takeNum (frame B ++ R) = some (B.length, be 4 (crc (num B.length ++ B)).toNat ++ (B ++ R)) := by rw [hl]; exact takeNum_put hB
  have hb4 := be_length 4 (crc (num B.length ++ B)).toNat
  have e1 : (be 4 (crc (num B.length ++ B)).toNat ++ (B ++ R)).take 4 = be 4 (crc (num B.length ++ B)).toNat := List.take_left' hb4
  have e2 : (be 4 (crc (num B.length ++ B)).toNat ++ (B ++ R)).drop 4 = B ++ R := List.drop_left' hb4
  have e3 : (B ++ R).take B.length = B := List.take_left
  have e4 : (be 4 (crc (num B.length ++ B)).toNat ++ (B ++ R)).drop (4 + B.length) = R := by rw [← List.drop_drop, e2, List.drop_left]
  have := tfr_yes (most := most) hn ⟨h, by rw [List.length_append, hb4, List.length_append]; omega, by rw [e1, e2, e3, big_be 4 _ (crc_lt _)]⟩
  rw [this, e2, e3, e4]
/-- Of what begins with a frame's number, all frames are as long. -/
theorem frame_same {B C : List UInt8} {s t : List UInt8} (h : frame B ++ s = num C.length ++ t) : B.length = C.length ∧ be 4 (crc (num B.length ++ B)).toNat ++ (B ++ s) = t := by
  have hl : frame B ++ s = num B.length ++ (be 4 (crc (num B.length ++ B)).toNat ++ (B ++ s)) := by simp [frame]
  rw [hl] at h
  exact num_inj h
/-- A frame that is cut off anywhere is none. -/
theorem tfr_cut {B : List UInt8} {most : Int} (j : Nat) (hj : j < (frame B).length) : tfr ((frame B).take j) most = none := by
  cases h : tfr ((frame B).take j) most with
  | none => rfl
  | some x =>
    obtain ⟨C, R⟩ := x
    exfalso
    have h1 := (tfr_some h).1
    have h2 : frame C ++ (R ++ (frame B).drop j) = num B.length ++ (be 4 (crc (num B.length ++ B)).toNat ++ B) := by
      rw [← List.append_assoc, ← h1, List.take_append_drop]
      rfl
    have h3 := (frame_same h2).1
    have h4 := congrArg List.length h1
    rw [List.length_append, List.length_take, frame_length, frame_length, h3] at h4
    rw [frame_length] at hj
    omega
theorem set_ne {t : List UInt8} {q : Nat} {y : UInt8} (hq : q < t.length) (hy : y ≠ fn t q) : t.set q y ≠ t := by
  intro e
  have h1 : (t.set q y)[q]? = some y := by rw [List.getElem?_set_self hq]
  rw [e] at h1
  apply hy
  unfold fn
  rw [List.getD_eq_getElem?_getD, h1]
  rfl
theorem set_split (t : List UInt8) (q : Nat) (y : UInt8) (hq : q < t.length) : t = t.take q ++ fn t q :: t.drop (q + 1) ∧ t.set q y = t.take q ++ y :: t.drop (q + 1) := by
  have e : fn t q = t[q] := by simp [fn, List.getD, hq]
  refine ⟨?_, ?_⟩
  · rw [e, ← List.drop_eq_getElem_cons hq, List.take_append_drop]
  · rw [List.set_eq_take_append_cons_drop, if_pos hq]
/-- One byte turned behind its length: none. -/
theorem tfr_turned {B : List UInt8} {most : Int} (q : Nat) (hq : q < 4 + B.length) (y : UInt8) (hy : y ≠ fn (frame B) ((num B.length).length + q)) : tfr ((frame B).set ((num B.length).length + q) y) most = none := by
  obtain ⟨X, hX⟩ : ∃ X, be 4 (crc (num B.length ++ B)).toNat = X := ⟨_, rfl⟩
  have hXl : X.length = 4 := by rw [← hX]; exact be_length _ _
  have hF : frame B = num B.length ++ (X ++ B) := by rw [← hX]; rfl
  have hset : (frame B).set ((num B.length).length + q) y = num B.length ++ (X ++ B).set q y := by
    rw [hF, List.set_append_right _ _ (by omega)]
    congr 2
    omega
  have hfn : fn (frame B) ((num B.length).length + q) = fn (X ++ B) q := by
    rw [hF]
    unfold fn
    rw [List.getD_eq_getElem?_getD, List.getD_eq_getElem?_getD, List.getElem?_append_right (by omega)]
    congr 3
    omega
  rw [hfn] at hy
  rw [hset]
  have hql : q < (X ++ B).length := by rw [List.length_append, hXl]; exact hq
  cases h : tfr (num B.length ++ (X ++ B).set q y) most with
  | none => rfl
  | some x =>
    obtain ⟨C, R⟩ := x
    exfalso
    have h1 := (tfr_some h).1
    obtain ⟨hCB, h2⟩ := frame_same (B := C) (C := B) (s := R) h1.symm
    have hlen := congrArg List.length h2
    rw [List.length_append, be_length, List.length_append, List.length_set, List.length_append, hXl, hCB] at hlen
    have hR : R = [] := List.length_eq_zero_iff.1 (by omega)
    subst hR
    rw [List.append_nil, hCB] at h2
    rcases Nat.lt_or_ge q 4 with h4 | h4
    · have e : (X ++ B).set q y = X.set q y ++ B := List.set_append_left _ _ (by omega)
      rw [e] at h2
      have hC : C = B := (List.append_inj h2 (by rw [be_length, List.length_set, hXl])).2
      have hX2 := (List.append_inj h2 (by rw [be_length, List.length_set, hXl])).1
      rw [hC, hX] at hX2
      refine set_ne (t := X) (q := q) (y := y) (by omega) ?_ hX2.symm
      rwa [fn_left _ _ _ (by omega)] at hy
    · have e : (X ++ B).set q y = X ++ B.set (q - 4) y := by rw [List.set_append_right _ _ (by omega), hXl]
      rw [e] at h2
      have hC : C = B.set (q - 4) y := (List.append_inj h2 (by rw [be_length, hXl])).2
      have hX2 := (List.append_inj h2 (by rw [be_length, hXl])).1
      have hcrc : crc (num B.length ++ C) = crc (num B.length ++ B) := by
        have h5 : (crc (num B.length ++ C)).toNat = (crc (num B.length ++ B)).toNat := by
          rw [← big_be 4 _ (crc_lt (num B.length ++ C)), hX2, ← hX, big_be 4 _ (crc_lt _)]
        exact UInt32.toNat_inj.1 h5
      have hqB : q - 4 < B.length := by omega
      obtain ⟨s1, s2⟩ := set_split B (q - 4) y hqB
      have hfb : fn (X ++ B) q = fn B (q - 4) := by
        unfold fn
        rw [List.getD_eq_getElem?_getD, List.getD_eq_getElem?_getD, List.getElem?_append_right (by omega), hXl]
      rw [hfb] at hy
      rw [hC, s2] at hcrc
      have hcrc2 : crc ((num B.length ++ B.take (q - 4)) ++ y :: B.drop (q - 4 + 1)) = crc ((num B.length ++ B.take (q - 4)) ++ fn B (q - 4) :: B.drop (q - 4 + 1)) := by
        rw [List.append_assoc, List.append_assoc, hcrc, ← s1]
      exact hy (crc_turned hcrc2)
end Go.Proofs.YtgkchkdjcebnaaaGreatDoor
