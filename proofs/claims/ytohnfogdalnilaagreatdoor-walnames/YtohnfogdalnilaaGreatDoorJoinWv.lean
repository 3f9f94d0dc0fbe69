/- code.TakeFrame, whole; and what follows of frames over plain lists; no walk. -/
/- wal's Add, whole; the walk of wal's first. -/
/- Which bodies bytes begin with, over plain lists; rows of bytes; no walk. -/
/- The arguments of stage 5's statements opened: a slice of byte slices, a slice of numbers; no walk. -/
/- The walk of wal's Replay. -/
/- Adds to one segment of a disk that has no other file, over plain disks; no walk. -/
/- The walks of wal's Need and of Same. -/
/- The walk of awake. -/
import Derived.Test.YtohnfogdalnilaaGreatDoorTg
import Derived.Test.YtohnfogdalnilaaGreatDoorTh
import Derived.Test.YtohnfogdalnilaaGreatDoorTi
import Derived.Test.YtohnfogdalnilaaGreatDoorJoinWf
import Derived.Test.YtohnfogdalnilaaGreatDoorKf
namespace Go.Proofs.YtohnfogdalnilaaGreatDoor
open Go.RowKit

theorem takeFrame_any (ao : Option Addr) (m c : Nat) (l : List UInt8) (most : Int) (w : World) (hm : m ≤ 140737488355328) (hs : Src w ao m c l) :
    Calls Tryz.prog 48 #[.slice ao m c, .int .i64 most] w (TookF w (tfr l most)) := by
  cases hn : takeNum l with
  | none => exact takeFrame_none ao m c l most w hm hs hn
  | some x =>
    obtain ⟨n, r⟩ := x
    by_cases hno : (n : Int) ≤ most ∧ n + 4 ≤ r.length
    · obtain ⟨h1, h2⟩ := hno
      have hn2 := (takeNum_some hn).2
      have e1 := congrArg List.length hn2
      rw [List.length_append, hs.len] at e1
      have hcap := hs.cap
      obtain ⟨b, off, rfl, _, _⟩ := hs.form (by omega)
      obtain ⟨k, hk⟩ : ∃ k, m - r.length = k := ⟨_, rfl⟩
      by_cases hec : k + 4 + n < c
      · exact takeFrame_gen b off m c l most w n k r hm hs hn hk (by omega) h1 (by omega) hec
      · obtain rfl : c = k + 4 + n := by omega
        obtain rfl : m = k + 4 + n := by omega
        rcases Nat.eq_zero_or_pos n with h0 | h0
        · subst h0
          exact takeFrame_nil b off l most w k r hm hs hn hk h1
        · exact takeFrame_end b off l most w n k r hm hs hn hk h1 h0
    · exact takeFrame_short ao m c l most w n r hm hs hn hno

theorem num_of_len {n : Nat} (h : n ≤ 140737488355328) : n < 4611686018427387904 := by omega
theorem crc_lt (l : List UInt8) : (crc l).toNat < 256 ^ 4 := by have := (crc l).toNat_lt; have e : (256 : Nat) ^ 4 = 4294967296 := rfl; omega
/-- What is taken as a frame is one. -/
theorem tfr_some {l : List UInt8} {most : Int} {B R : List UInt8} (h : tfr l most = some (B, R)) : l = frame B ++ R ∧ (B.length : Int) ≤ most := by
  cases hn : takeNum l with
  | none => rw [tfr_none hn] at h; cases h
  | some x =>
    obtain ⟨n, r⟩ := x
    by_cases hc : (n : Int) ≤ most ∧ n + 4 ≤ r.length ∧ big (r.take 4) = (crc (num n ++ (r.drop 4).take n)).toNat
    · rw [tfr_yes hn hc] at h
      obtain ⟨h1, h2, h3⟩ := hc
      have hn2 := (takeNum_some hn).2
      have e := Option.some.inj h
      have eB : (r.drop 4).take n = B := congrArg Prod.fst e
      have eR : r.drop (4 + n) = R := congrArg Prod.snd e
      have hB : B.length = n := by rw [← eB, List.length_take, List.length_drop]; omega
      have h4 : (r.take 4).length = 4 := by rw [List.length_take]; omega
      have hbe : be 4 (crc (num n ++ B)).toNat = r.take 4 := by
        rw [← eB, ← h3]
        have := be_big (r.take 4)
        rwa [h4] at this
      refine ⟨?_, by rw [hB]; exact h1⟩
      unfold frame
      rw [hB, hbe, hn2, ← eR, ← eB, List.append_assoc, List.append_assoc]
      congr 1
      rw [← List.drop_drop, List.take_append_drop, List.take_append_drop]
    · rw [tfr_no hn hc] at h; cases h
/-- A frame is taken. -/
theorem tfr_frame {B R : List UInt8} {most : Int} (hB : B.length < 4611686018427387904) (h : (B.length : Int) ≤ most) : tfr (frame B ++ R) most = some (B, R) := by
  have hl : frame B ++ R = num B.length ++ (be 4 (crc (num B.length ++ B)).toNat ++ (B ++ R)) := by simp [frame]
  have hn : takeNum (frame B ++ R) = some (B.length, be 4 (crc (num B.length ++ B)).toNat ++ (B ++ R)) := by rw [hl]; exact takeNum_put hB
  have hb4 := be_length 4 (crc (num B.length ++ B)).toNat
  have e1 : (be 4 (crc (num B.length ++ B)).toNat ++ (B ++ R)).take 4 = be 4 (crc (num B.length ++ B)).toNat := List.take_left' hb4
  have e2 : (be 4 (crc (num B.length ++ B)).toNat ++ (B ++ R)).drop 4 = B ++ R := List.drop_left' hb4
  have e3 : (B ++ R).take B.length = B := List.take_left
  have e4 : (be 4 (crc (num B.length ++ B)).toNat ++ (B ++ R)).drop (4 + B.length) = R := by rw [← List.drop_drop, e2, List.drop_left]
  have := tfr_yes (most := most) hn ⟨h, by rw [List.length_append, hb4, List.length_append]; omega, by rw [e1, e2, e3, big_be 4 _ (crc_lt _)]⟩
  rw [this, e2, e3, e4]
/-- Of what begins with a frame's number, all frames are as long. -/
theorem frame_same {B C : List UInt8} {s t : List UInt8} (h : frame B ++ s = num C.length ++ t) : B.length = C.length ∧ be 4 (crc (num B.length ++ B)).toNat ++ (B ++ s) = t := by
  have hl : frame B ++ s = num B.length ++ (be 4 (crc (num B.length ++ B)).toNat ++ (B ++ s)) := by simp [frame]
  rw [hl] at h
  exact num_inj h
/-- A frame that is cut off anywhere is none. -/
theorem tfr_cut {B : List UInt8} {most : Int} (j : Nat) (hj : j < (frame B).length) : tfr ((frame B).take j) most = none := by
  cases h : tfr ((frame B).take j) most with
  | none => rfl
  | some x =>
    obtain ⟨C, R⟩ := x
    exfalso
    have h1 := (tfr_some h).1
    have h2 : frame C ++ (R ++ (frame B).drop j) = num B.length ++ (be 4 (crc (num B.length ++ B)).toNat ++ B) := by
      rw [← List.append_assoc, ← h1, List.take_append_drop]
      rfl
    have h3 := (frame_same h2).1
    have h4 := congrArg List.length h1
    rw [List.length_append, List.length_take, frame_length, frame_length, h3] at h4
    rw [frame_length] at hj
    omega
theorem set_ne {t : List UInt8} {q : Nat} {y : UInt8} (hq : q < t.length) (hy : y ≠ fn t q) : t.set q y ≠ t := by
  intro e
  have h1 : (t.set q y)[q]? = some y := by rw [List.getElem?_set_self hq]
  rw [e] at h1
  apply hy
  unfold fn
  rw [List.getD_eq_getElem?_getD, h1]
  rfl
theorem set_split (t : List UInt8) (q : Nat) (y : UInt8) (hq : q < t.length) : t = t.take q ++ fn t q :: t.drop (q + 1) ∧ t.set q y = t.take q ++ y :: t.drop (q + 1) := by
  have e : fn t q = t[q] := by simp [fn, List.getD, hq]
  refine ⟨?_, ?_⟩
  · rw [e, ← List.drop_eq_getElem_cons hq, List.take_append_drop]
  · rw [List.set_eq_take_append_cons_drop, if_pos hq]
/-- One byte turned behind its length: none. -/
theorem tfr_turned {B : List UInt8} {most : Int} (q : Nat) (hq : q < 4 + B.length) (y : UInt8) (hy : y ≠ fn (frame B) ((num B.length).length + q)) : tfr ((frame B).set ((num B.length).length + q) y) most = none := by
  obtain ⟨X, hX⟩ : ∃ X, be 4 (crc (num B.length ++ B)).toNat = X := ⟨_, rfl⟩
  have hXl : X.length = 4 := by rw [← hX]; exact be_length _ _
  have hF : frame B = num B.length ++ (X ++ B) := by rw [← hX]; rfl
  have hset : (frame B).set ((num B.length).length + q) y = num B.length ++ (X ++ B).set q y := by
    rw [hF, List.set_append_right _ _ (by omega)]
    congr 2
    omega
  have hfn : fn (frame B) ((num B.length).length + q) = fn (X ++ B) q := by
    rw [hF]
    unfold fn
    rw [List.getD_eq_getElem?_getD, List.getD_eq_getElem?_getD, List.getElem?_append_right (by omega)]
    congr 3
    omega
  rw [hfn] at hy
  rw [hset]
  have hql : q < (X ++ B).length := by rw [List.length_append, hXl]; exact hq
  cases h : tfr (num B.length ++ (X ++ B).set q y) most with
  | none => rfl
  | some x =>
    obtain ⟨C, R⟩ := x
    exfalso
    have h1 := (tfr_some h).1
    obtain ⟨hCB, h2⟩ := frame_same (B := C) (C := B) (s := R) h1.symm
    have hlen := congrArg List.length h2
    rw [List.length_append, be_length, List.length_append, List.length_set, List.length_append, hXl, hCB] at hlen
    have hR : R = [] := List.length_eq_zero_iff.1 (by omega)
    subst hR
    rw [List.append_nil, hCB] at h2
    rcases Nat.lt_or_ge q 4 with h4 | h4
    · have e : (X ++ B).set q y = X.set q y ++ B := List.set_append_left _ _ (by omega)
      rw [e] at h2
      have hC : C = B := (List.append_inj h2 (by rw [be_length, List.length_set, hXl])).2
      have hX2 := (List.append_inj h2 (by rw [be_length, List.length_set, hXl])).1
      rw [hC, hX] at hX2
      refine set_ne (t := X) (q := q) (y := y) (by omega) ?_ hX2.symm
      rwa [fn_left _ _ _ (by omega)] at hy
    · have e : (X ++ B).set q y = X ++ B.set (q - 4) y := by rw [List.set_append_right _ _ (by omega), hXl]
      rw [e] at h2
      have hC : C = B.set (q - 4) y := (List.append_inj h2 (by rw [be_length, hXl])).2
      have hX2 := (List.append_inj h2 (by rw [be_length, hXl])).1
      have hcrc : crc (num B.length ++ C) = crc (num B.length ++ B) := by
        have h5 : (crc (num B.length ++ C)).toNat = (crc (num B.length ++ B)).toNat := by
          rw [← big_be 4 _ (crc_lt (num B.length ++ C)), hX2, ← hX, big_be 4 _ (crc_lt _)]
        exact UInt32.toNat_inj.1 h5
      have hqB : q - 4 < B.length := by omega
      obtain ⟨s1, s2⟩ := set_split B (q - 4) y hqB
      have hfb : fn (X ++ B) q = fn B (q - 4) := by
        unfold fn
        rw [List.getD_eq_getElem?_getD, List.getD_eq_getElem?_getD, List.getElem?_append_right (by omega), hXl]
      rw [hfb] at hy
      rw [hC, s2] at hcrc
      have hcrc2 : crc ((num B.length ++ B.take (q - 4)) ++ y :: B.drop (q - 4 + 1)) = crc ((num B.length ++ B.take (q - 4)) ++ fn B (q - 4) :: B.drop (q - 4 + 1)) := by
        rw [List.append_assoc, List.append_assoc, hcrc, ← s1]
      exact hy (crc_turned hcrc2)
end Go.Proofs.YtohnfogdalnilaaGreatDoor
namespace Go.Proofs.YtohnfogdalnilaaGreatDoor
open Go.RowKit
open Dk (File Disk)

theorem add_own (U : Nat → Prop) (w0 : World) (S : Nat → Prop) (w : World) (b : Nat) (d : Disk) (n : Int) (ao : Option Addr) (m c : Nat) (body : List UInt8) (hO : Own U w0 S w b d) (htw : Tab w) (hww : 0 < w.heap.size) (hs : ∀ w', Below w.heap.size w w' → Src w' ao m c body) (hdn : d.done ≤ 4611686018427380000) :
    Calls Tryz.prog 20 #[.pointer (some ⟨b, 0, none⟩), .int .i64 n, .slice ao m c] w fun e w' => ∃ S', e = .returned (.int .i64 ((walAdd d n body).1 : Int)) ∧ Own U w0 S' w' b (walAdd d n body).2 := by
  have hlen : body.length = m := (hs w (Below.refl _ _)).len
  unfold walAdd
  cases hseg : isSeg n with
  | false =>
    rw [if_pos (.inl rfl)]
    refine (add_bad b n ao m c w htw hww hseg).mono ?_
    rintro e w' ⟨rfl, hb⟩
    exact ⟨S, rfl, hO.next hb⟩
  | true =>
    rcases Nat.lt_or_ge 1048576 m with hm | hm
    · rw [if_pos (.inr (by omega))]
      refine (add_long b n ao m c w htw hww hseg hm).mono ?_
      rintro e w' ⟨rfl, hb⟩
      exact ⟨S, rfl, hO.next hb⟩
    · rw [if_neg (by rintro (h | h); cases h; omega)]
      cases hd : d.dark with
      | true =>
        rw [if_pos rfl]
        refine (add_dark S b d n ao m c w htw hww hseg hm hO.mem hd).mono ?_
        rintro e w' ⟨rfl, hb⟩
        exact ⟨S, rfl, hO.next hb⟩
      | false =>
        rw [if_neg (by simp)]
        by_cases hf : (d.cap : Int) - (Dk.used d.files : Int) < (roomOf d (segName n) (frame body).length : Int)
        · rw [if_pos hf]
          refine (add_full S b d n ao m c w htw hww hseg hm hO.mem body hs hd hf).mono ?_
          rintro e w' ⟨rfl, hb⟩
          exact ⟨S, rfl, hO.next hb⟩
        · rw [if_neg hf]
          exact add_go S b d n ao m c w htw hww hseg hm U w0 hO body hs hd hf hdn

/-- How many bytes first cuts off. -/
def firstLen (l : List UInt8) : Nat :=
  match takeNum (l.take 9) with
  | none => 0
  | some (n, r) => min l.length ((l.take 9).length - r.length + 4 + n)
set_option maxHeartbeats 1000000 in
set_option maxRecDepth 100000 in
theorem first_any (ao : Option Addr) (m c : Nat) (l : List UInt8) (w : World) (hm : m ≤ 140737488355328) (hs : Src w ao m c l) :
    Calls Tryz.prog 47 #[.slice ao m c] w fun e w' => ∃ ao' c', e = .returned (.slice ao' (firstLen l) c') ∧ firstLen l ≤ m ∧ (∀ w2, Below w.heap.size w w2 → Src w2 ao' (firstLen l) c' (l.take (firstLen l))) ∧ Below w.heap.size w w' := by
  have HS := keep hs
  have hll := hs.len
  have hcap := hs.cap
  have HH := keep (hs.head (min m 9) (Nat.min_le_left _ _))
  have htk : l.take (min m 9) = l.take 9 := by
    rcases Nat.le_total m 9 with h | h
    · rw [Nat.min_eq_left h, List.take_of_length_le (by omega), List.take_of_length_le (by omega)]
    · rw [Nat.min_eq_right h]
  rw [htk] at HH
  obtain ⟨k, hk⟩ : ∃ k, min m 9 = k := ⟨_, rfl⟩
  rw [hk] at HH
  have hkl : (l.take 9).length = k := HH.out.len
  have TK := keep (takeNum_any ao k c (l.take 9) w (by omega) HH.out)
  clear hs htk
  have hmn : min (m : Int) 9 = (k : Int) := by omega
  have hkm : k ≤ m := by omega
  have hk9 : k ≤ 9 := by omega
  have hkm2 : (k : Int) ≤ (m : Int) := by omega
  clear hk
  go_enter Tryz.func47, Tryz.ntmps47
  go_wp2_with fail
  refine TK.out.mono ?_
  rintro e w1 (⟨n, r, v, ht, rfl, hv⟩ | ⟨ht, rfl, hb⟩)
  · have hf : firstLen l = min m (k - r.length + 4 + n) := by unfold firstLen; rw [ht, hll]; simp only [hkl]
    have hn := (takeNum_some ht).1
    have hrl : r.length ≤ k := by
      have := congrArg List.length (takeNum_some ht).2
      rw [List.length_append, hkl] at this
      omega
    have B1 := keep hv.2
    obtain ⟨a1, c1, rfl, _, _⟩ := hv.src
    obtain ⟨R, hR⟩ : ∃ R, r.length = R := ⟨_, rfl⟩
    rw [hR] at hrl hf ⊢
    obtain ⟨Z, hZ⟩ : ∃ Z, k - R + 4 + n = Z := ⟨_, rfl⟩
    obtain ⟨q, hq⟩ : ∃ q, min m Z = q := ⟨_, rfl⟩
    rw [hZ, hq] at hf
    have e1 : IntKind.i64.wrap ((k : Int) - (R : Int)) = (k : Int) - (R : Int) := wrap_small _ (by omega) (by omega)
    have e2 : IntKind.i64.wrap ((k : Int) - (R : Int) + 4) = (k : Int) - (R : Int) + 4 := wrap_small _ (by omega) (by omega)
    have e3 : IntKind.i64.wrap ((k : Int) - (R : Int) + 4 + (n : Int)) = (Z : Int) := by rw [IntKind.wrap_i64]; omega
    have e4 : min (m : Int) (Z : Int) = (q : Int) := by omega
    have hqm : q ≤ m := by omega
    have hqm2 : (q : Int) ≤ (m : Int) := by omega
    have HF := keep hf
    clear hv ht hn hR hZ hq hf TK HH hmn
    go_wp2
    go_ret
    rw [HF.out]
    exact ⟨ao, c, rfl, hqm, fun w2 hb2 => (HS.out.below hb2).head q hqm, B1.out⟩
  · have hf : firstLen l = 0 := by unfold firstLen; rw [ht]
    have B1 := keep hb
    clear ht hb TK HH hmn
    go_wp2
    go_ret
    rw [hf]
    exact ⟨none, 0, rfl, Nat.zero_le _, fun w2 _ => Src.none_of rfl (fun _ => rfl), B1.out⟩
end Go.Proofs.YtohnfogdalnilaaGreatDoor
namespace Go.Proofs.YtohnfogdalnilaaGreatDoor
open Go.RowKit
open Dk (File Disk)

def most : Int := 1048576
/-- The bodies, at most k of them. -/
def bodiesF : Nat → List UInt8 → List (List UInt8)
  | 0, _ => []
  | k + 1, l => match tfr l most with
    | some (B, R) => B :: bodiesF k R
    | none => []
def bodiesOf (l : List UInt8) : List (List UInt8) := bodiesF l.length l
theorem frame_pos (B : List UInt8) : 5 ≤ (frame B).length := by
  have h1 := frame_length B
  have h2 := num_pos B.length
  omega
theorem tfr_less {l B R : List UInt8} (h : tfr l most = some (B, R)) : R.length < l.length := by
  have h1 := (tfr_some h).1
  have h2 := frame_pos B
  rw [h1, List.length_append]
  omega
theorem bodiesF_same : ∀ (k j : Nat) (l : List UInt8), l.length ≤ k → l.length ≤ j → bodiesF k l = bodiesF j l
  | 0, 0, _, _, _ => rfl
  | 0, j + 1, l, h, _ => by
    have : l = [] := List.length_eq_zero_iff.1 (by omega)
    subst this
    simp only [bodiesF]
    cases h1 : tfr ([] : List UInt8) most with
    | none => rfl
    | some x => obtain ⟨B, R⟩ := x; have := tfr_less h1; simp at this
  | k + 1, 0, l, _, h => by
    have : l = [] := List.length_eq_zero_iff.1 (by omega)
    subst this
    simp only [bodiesF]
    cases h1 : tfr ([] : List UInt8) most with
    | none => rfl
    | some x => obtain ⟨B, R⟩ := x; have := tfr_less h1; simp at this
  | k + 1, j + 1, l, h, h' => by
    simp only [bodiesF]
    cases h1 : tfr l most with
    | none => rfl
    | some x =>
      obtain ⟨B, R⟩ := x
      have := tfr_less h1
      simp only
      rw [bodiesF_same k j R (by omega) (by omega)]
theorem bodies_some {l B R : List UInt8} (h : tfr l most = some (B, R)) : bodiesOf l = B :: bodiesOf R := by
  have h1 := tfr_less h
  unfold bodiesOf
  rw [bodiesF_same l.length (l.length + 1) l (Nat.le_refl _) (by omega)]
  simp only [bodiesF, h]
  rw [bodiesF_same l.length R.length R (by omega) (Nat.le_refl _)]
theorem bodies_none {l : List UInt8} (h : tfr l most = none) : bodiesOf l = [] := by
  unfold bodiesOf
  rw [bodiesF_same l.length (l.length + 1) l (Nat.le_refl _) (by omega)]
  simp only [bodiesF, h]
theorem first_some {l B R : List UInt8} (h : tfr l most = some (B, R)) : firstLen l = (frame B).length ∧ tfr (l.take (firstLen l)) most = some (B, []) ∧ l.drop (firstLen l) = R := by
  obtain ⟨h1, h2⟩ := tfr_some h
  have hB : B.length ≤ 1048576 := by unfold most at h2; omega
  have h9 := num_le B.length (by omega)
  have hfl := frame_length B
  have hl : l = num B.length ++ (be 4 (crc (num B.length ++ B)).toNat ++ (B ++ R)) := by rw [h1]; simp [frame]
  have hk : firstLen l = (frame B).length := by
    have ht : l.take 9 = num B.length ++ (be 4 (crc (num B.length ++ B)).toNat ++ (B ++ R)).take (9 - (num B.length).length) := by
      rw [hl, List.take_append, List.take_of_length_le (by omega)]
    have hlen := congrArg List.length ht
    rw [List.length_append] at hlen
    have hll := congrArg List.length h1
    rw [List.length_append] at hll
    unfold firstLen
    rw [show takeNum (l.take 9) = some (B.length, (be 4 (crc (num B.length ++ B)).toNat ++ (B ++ R)).take (9 - (num B.length).length)) by rw [ht]; exact takeNum_put (by omega)]
    simp only
    omega
  refine ⟨hk, ?_, ?_⟩
  · rw [hk, h1, List.take_left']
    · have := tfr_frame (B := B) (R := []) (most := most) (by omega) h2
      rwa [List.append_nil] at this
    · rfl
  · rw [hk, h1, List.drop_left']
    rfl
theorem first_none {l : List UInt8} (h : tfr l most = none) : tfr (l.take (firstLen l)) most = none := by
  cases h1 : tfr (l.take (firstLen l)) most with
  | none => rfl
  | some x =>
    obtain ⟨B, R⟩ := x
    obtain ⟨h2, h3⟩ := tfr_some h1
    have h4 : l = frame B ++ (R ++ l.drop (firstLen l)) := by
      rw [← List.append_assoc, ← h2, List.take_append_drop]
    have h5 : B.length < 4611686018427387904 := by unfold most at h3; omega
    rw [h4, tfr_frame h5 h3] at h
    cases h
/-- Bytes as an element of a row. -/
structure ByteE where
  ptr : Option Addr
  cap : Nat
  bytes : List UInt8
def byteKind : Kind ByteE where
  size := 1
  vals e := [.slice e.ptr e.bytes.length e.cap]
  held w e := Src w e.ptr e.bytes.length e.cap e.bytes
theorem byteKind_ok : byteKind.Ok :=
  ⟨by decide, fun _ => rfl, fun e u hu => by
    simp only [byteKind, List.mem_cons, List.not_mem_nil, or_false] at hu
    rw [hu]; rfl, fun h hb => Src.below h hb⟩
end Go.Proofs.YtohnfogdalnilaaGreatDoor
namespace Go.Proofs.YtohnfogdalnilaaGreatDoor
open Go.ChangeShapes Go.WideShapes Go.ChangeAt Go.RowKit Go.Deep

set_option maxRecDepth 100000 in
/-- A slice of byte slices among the arguments. -/
theorem open_bodies {H : Type} {enc : TypeId × Value → H} {W : World} {v : Value} {d : DataW H} {p : List MemPlace} {base : Nat} (hv : Value.okWide Tryz.prog W .any base 48 v) (h : DataW.Trod enc Tryz.prog W 0 (fun _ => true) true 48 v d p) :
    ∃ ao m c es, v = .slice ao m c ∧ RSrc byteKind W ao m c es ∧ c ≤ maxLen ∧ ∀ e ∈ es, e.cap ≤ maxLen := by
  obtain ⟨a0, len0, cap0, rfl⟩ := okWide_slice Tryz.underlying48 hv
  obtain ⟨fuel, hf⟩ := h
  obtain ⟨ao, m, c, es, h1, h2, h3, h4⟩ := open_recs (enc := enc) (W := W) byteKind_ok (Q := fun e _ => e.cap ≤ maxLen) Tryz.underlying48 (by kernel_rfl) (fun m cs y hy => by
    obtain ⟨v0, rfl⟩ : ∃ v0, cs = [v0] := by
      rcases open_slice Tryz.underlying25 hy with ⟨hcs, _⟩ | ⟨_, _, _, _, _, _, _, hcs, _⟩
      · exact ⟨_, hcs⟩
      · exact ⟨_, hcs⟩
    obtain ⟨ao, m, c, l, q1, q2, q3, _⟩ := open_bytes_of Tryz.underlying25 Tryz.underlying5 cells5 hy
    refine ⟨⟨ao, c, l⟩, ?_, ?_, q3⟩
    · rw [q1]; simp only [byteKind]; rw [q2.len]
    · show Src W ao l.length c l
      rw [q2.len]; exact q2) (v := .slice a0 len0 cap0) (by simpa only [Value.cells] using hf)
  refine ⟨ao, m, c, es, h1, h2, h3, fun e he => ?_⟩
  obtain ⟨i, hi⟩ := List.getElem?_of_mem he
  rcases h4 with ⟨h0, _⟩ | ⟨ds, sp, _, hl, _, hq⟩
  · have := (List.getElem?_eq_some_iff.1 hi).1
    rw [h2.len, h0] at this
    omega
  · have hlt := (List.getElem?_eq_some_iff.1 hi).1
    rw [h2.len, ← hl] at hlt
    exact hq i e _ hi (List.getElem?_eq_getElem hlt)
end Go.Proofs.YtohnfogdalnilaaGreatDoor
namespace Go.Proofs.YtohnfogdalnilaaGreatDoor
open Go.RowKit
open Dk (File Disk)

theorem info_parts3 {P : Program} {t : TypeId} {z : Value} {s b : Nat} (h : (P.info? t).map (fun i => (i.zero, i.size, i.bytes)) = some (some z, s, b)) : ∃ i, P.info? t = some i ∧ i.zero = some z ∧ i.size = s ∧ i.bytes = b := by
  cases hi : P.info? t with
  | none => rw [hi] at h; cases h
  | some i =>
    rw [hi] at h
    simp only [Option.map_some, Option.some.injEq, Prod.mk.injEq] at h
    exact ⟨i, rfl, h.1, h.2.1, h.2.2⟩
theorem infoB : (Tryz.prog.info? 25).map (fun i => (i.zero, i.size, i.bytes)) = some (some (.slice none 0 0), 1, 24) := by kernel_rfl
theorem seg_len (n : Int) : (segName n).length ≤ 17 := by
  cases h : isSeg n with
  | false => rw [segName_none h]; simp
  | true => rw [segName_len h]; omega
/-- A body that the call made. -/
def OwnB (B : Nat) (w : World) (e : ByteE) : Prop := w.ownsRow B 5 1 (.slice e.ptr e.bytes.length e.cap) e.bytes.length (bv e.bytes)
theorem OwnB.held {B : Nat} {w : World} {e : ByteE} (h : OwnB B w e) : byteKind.held w e := by
  obtain ⟨ao, c, e1, h1, _⟩ := Src.of_own h
  cases e1
  exact h1
/-- Replay's answer: an error, or bodies. -/
def Told (w : World) (r : Nat × List (List UInt8)) (e : Ending) (w' : World) : Prop :=
  (r.1 ≠ 0 ∧ e = .returned (.tuple #[.slice none 0 0, .int .i64 (r.1 : Int)]) ∧ Below w.heap.size w w') ∨
  (r.1 = 0 ∧ ∃ ao c es, e = .returned (.tuple #[.slice ao es.length c, .int .i64 0]) ∧ RSrc byteKind w' ao es.length c es ∧ es.map ByteE.bytes = r.2 ∧ c ≤ maxLen ∧ Below w.heap.size w w' ∧ w'.ownsRow w.heap.size 25 1 (.slice ao es.length c) es.length (rv byteKind es) ∧ ∀ e ∈ es, OwnB w.heap.size w' e)
def replayOf (d : Disk) (n : Int) : Nat × List (List UInt8) := ((readOf d.files (segName n)).1, bodiesOf (readOf d.files (segName n)).2)
theorem byte_more {B tF : Nat} {wr W4 w5 : World} {v8 : Value} {n : Nat} {es : List ByteE} {e : ByteE} (hne : ¬ tF = 5) (hv : wr.ownsRow B tF 1 v8 n (rv byteKind es)) (hh : ∀ e ∈ es, OwnB B wr e) (hb : Below wr.heap.size wr W4) (he : OwnB B W4 e) (hg : W4.grownBy w5 v8.ownBlock) : ∀ e' ∈ es ++ [e], OwnB B w5 e' := by
  have h4 : ∀ e' ∈ es ++ [e], OwnB B W4 e' := fun e' hm => by
    rcases List.mem_append.1 hm with hm | hm
    · exact own_block (hh e' hm) (fun g hgg => hb.block g (own_size (hh e' hm) hgg))
    · rw [List.mem_singleton.1 hm]; exact he
  have hv4 : W4.ownsRow B tF 1 v8 n (rv byteKind es) := own_block hv (fun g hgg => hb.block g (own_size hv hgg))
  intro e' hm
  refine own_block (h4 e' hm) (fun g hgg => hg.block g (own_size (h4 e' hm) hgg) (fun e1 => ?_))
  obtain ⟨c1, h1⟩ := own_tag (h4 e' hm) hgg
  obtain ⟨c2, h2⟩ := own_tag hv4 e1.symm
  rw [h1] at h2
  cases h2
  exact hne rfl
set_option maxHeartbeats 2000000 in
set_option maxRecDepth 100000 in
theorem replay_mem (S : Nat → Prop) (b : Nat) (d : Disk) (n : Int) (w : World) (h : Mem S w b d) (ht : Tab w) (hcap : d.cap ≤ 1099511627776) :
    Calls Tryz.prog 19 #[.pointer (some ⟨b, 0, none⟩), .int .i64 n] w (Told w (replayOf d n)) := by
  have HM := keep h
  have hN := keep (name_any n w ht)
  have hsl := seg_len n
  obtain ⟨N, hNN⟩ : ∃ N, segName n = N := ⟨_, rfl⟩
  have hbl : (readOf d.files N).2.length ≤ 1099511627776 := by
    unfold readOf
    split
    · cases hx : Dk.look d.files N with
      | none => simp
      | some f =>
        have h1 := used_mem (Dk.look_some hx).1
        have h2 := h.good.room
        simp only [Dk.cost] at h1
        simp only
        omega
    · simp
  unfold replayOf
  rw [hNN] at hN hsl ⊢
  clear h ht
  go_enter Tryz.func19, Tryz.ntmps19
  go_wp2_with fail
  refine hN.out.mono ?_
  rintro e w1 ⟨rfl, hb1⟩
  have B1 := keep hb1
  clear hb1 hN
  go_wp2_with fail
  refine (read_mem S b d N w1 (HM.out.below B1.out) (by unfold maxLen; omega)).mono ?_
  rintro e w2 ⟨v2, rfl, hv2⟩
  obtain ⟨a2, c2, rfl, hs2, hc2⟩ := hv2.src
  have S2 := keep hs2
  have B2 := keep (B1.out.trans (hv2.2.mono B1.out.size))
  obtain ⟨r, hr⟩ : ∃ r, readOf d.files N = r := ⟨_, rfl⟩
  rw [hr] at S2 hbl ⊢
  obtain ⟨E, l⟩ := r
  simp only at S2 hbl ⊢
  have RR := keep hr
  clear hv2 hs2 hr
  by_cases hE : E = 0
  · subst hE
    obtain ⟨i0, hi, hz0, hz1, hz2⟩ := info_parts3 infoB
    go_wp2_with fail
    go_loopw [6, 8] (fun u v wr => ∃ (rest : List UInt8) (ar : Option Addr) (cr : Nat) (es : List ByteE), u = .slice ar rest.length cr ∧ rest.length ≤ l.length ∧ cr ≤ maxLen ∧ Hid (∀ w', Below w2.heap.size w2 w' → Src w' ar rest.length cr rest) ∧ Hid (wr.ownsRow w2.heap.size 25 1 v es.length (rv byteKind es) ∧ (∀ e ∈ es, OwnB w2.heap.size wr e) ∧ es.map ByteE.bytes ++ bodiesOf rest = bodiesOf l ∧ Below w2.heap.size w2 wr ∧ es.length + rest.length ≤ l.length)) (fun u _ _ => lenOf u)
    case atStart => exact ⟨l, a2, c2, [], rfl, Nat.le_refl _, hc2, fun w' hb' => S2.out.below hb', World.ownsRow_nil _ _ _ _, (fun e h => by cases h), by simp, Below.refl _ _, by simp⟩
    case round =>
      obtain ⟨rest, ar, cr, es, rfl, hrl, hcr, hsr, hI⟩ := hrel
      have FA := keep (first_any ar rest.length cr rest wr (by omega) (hsr.out wr hI.out.2.2.2.1))
      obtain ⟨F, hF⟩ : ∃ F, firstLen rest = F := ⟨_, rfl⟩
      rw [hF] at FA
      have HF := keep hF
      clear hF S2
      go_wp2_with fail
      refine FA.out.mono ?_
      rintro e w3 ⟨a3, c3, rfl, hFm, hs3, hb3⟩
      have B3 := keep hb3
      have TF := keep (takeFrame_any a3 F c3 (rest.take F) most w3 (by omega) (hs3 w3 hb3))
      clear hb3 FA
      unfold most at TF
      cases htf : tfr rest most with
      | none =>
        have h1 := first_none htf
        rw [HF.out] at h1
        have hbn := keep (bodies_none htf)
        unfold most at h1
        have H1 := keep h1
        clear htf h1
        go_wp2_with fail
        refine TF.out.mono ?_
        rintro e w4 (⟨_, _, _, _, _, _, h, _⟩ | ⟨_, rfl, hb4⟩)
        · rw [H1.out] at h; cases h
        have B4 := keep (B3.out.trans (hb4.mono B3.out.size))
        have ho4 := own_block (w' := w4) hI.out.1 (fun g hgg => B4.out.block g (own_size hI.out.1 hgg))
        obtain ⟨a5, c5, rfl, hR5, hc5⟩ := RSrc.own byteKind_ok ho4 (fun e he => byteKind_ok.below (hI.out.2.1 e he).held B4.out)
        have R5 := keep hR5
        have C5 := keep hc5
        have O5 := keep (own_base (B' := w.heap.size) ho4 (fun g hg => Nat.le_trans B2.out.size (ho4.lt g hg).1))
        have P5 : Hid (∀ e ∈ es, OwnB w.heap.size w4 e) := fun e he => by
          have h1 := own_block (w' := w4) (hI.out.2.1 e he) (fun g hgg => B4.out.block g (own_size (hI.out.2.1 e he) hgg))
          exact own_base h1 (fun g hg => Nat.le_trans B2.out.size (h1.lt g hg).1)
        clear hb4 TF hs3 ho4 hR5 hc5
        go_wp2
        go_ret2
        rw [RR.out]
        refine .inr ⟨rfl, a5, c5, es, rfl, R5.out, ?_, C5.out, B2.out.trans ((hI.out.2.2.2.1.trans (B4.out.mono hI.out.2.2.2.1.size)).mono B2.out.size), O5.out, P5.out⟩
        have := hI.out.2.2.1
        rw [hbn.out, List.append_nil] at this
        exact this
      | some x =>
        obtain ⟨B, R'⟩ := x
        obtain ⟨k1, k2, k3⟩ := first_some htf
        have hbs := keep (bodies_some htf)
        have hle := frame_pos B
        rw [HF.out] at k1 k2 k3
        unfold most at k2
        have K1 := keep k1
        have K2 := keep k2
        have K3 := keep k3
        clear htf k1 k2 k3 hle
        go_wp2_with fail
        refine TF.out.mono ?_
        rintro e w4 (⟨B', R2, a4, c4, _, _, h, rfl, ho4, _, hb4⟩ | ⟨h, _, _⟩)
        · rw [K2.out] at h
          cases h
          have B4 := keep (B3.out.trans (hb4.mono B3.out.size))
          have hFp : 0 < rest.length := by have := K1.out; have := frame_pos B; omega
          have hRl : R'.length = rest.length - F := by rw [← K3.out, List.length_drop]
          have hFc : F ≤ cr := by have := (hsr.out wr hI.out.2.2.2.1).cap; omega
          obtain ⟨rb, ro, rfl, hrb, _⟩ := (hsr.out wr hI.out.2.2.2.1).form hFp
          have OB : Hid (OwnB w2.heap.size w4 (⟨a4, c4, B⟩ : ByteE)) := own_base ho4 (fun g hg => Nat.le_trans (Nat.le_trans hI.out.2.2.2.1.size B3.out.size) (ho4.lt g hg).1)
          have b5 := keep (B4.out.alloc B4.out.size (.cells #[.slice a4 B.length c4] 25))
          have ow := keep (own_block (w' := w4.alloc (.cells #[.slice a4 B.length c4] 25)) hI.out.1 (fun g hgg => b5.out.block g (own_size hI.out.1 hgg)))
          have sz := keep (show w2.heap.size ≤ (w4.alloc (.cells #[.slice a4 B.length c4] 25)).heap.size from Nat.le_trans hI.out.2.2.2.1.size b5.out.size)
          have rc := keep (rec_cells (k := byteKind) w4 25 (⟨a4, c4, B⟩ : ByteE))
          have hel : es.length ≤ 1099511627776 := by have := hI.out.2.2.2.2; omega
          have SR := hsr
          have hF0 : (0 : Int) ≤ (F : Int) := by omega
          have hF1 : (F : Int) ≤ (rest.length : Int) := by omega
          have HFM := keep hFm
          have HRL := keep hRl
          have hnx : Hid ((es ++ [(⟨a4, c4, B⟩ : ByteE)]).map ByteE.bytes ++ bodiesOf R' = bodiesOf l) := by
            have h1 := hI.out.2.2.1
            rw [hbs.out] at h1
            show _ = _
            rw [List.map_append, ← h1]
            simp
          have BL5 : Hid (Below w2.heap.size w2 (w4.alloc (.cells #[.slice a4 B.length c4] 25))) := hI.out.2.2.2.1.trans (b5.out.mono hI.out.2.2.2.1.size)
          have hln := hI.out.2.2.2.2
          have hpo : 5 ≤ F := by have := K1.out; have := frame_pos B; omega
          clear hb4 ho4 TF hs3 hsr hRl
          by_cases hcF : cr = F
          · go_wp2_with (first
              | (at_builtin; go_loud (refine wpList_append_rec byteKind_ok rfl _ _ 48 25 rfl w2.heap.size i0 _ 24 Tryz.underlying48 hi hz0 hz1 hz2 rfl u8 es.length es rfl ow.out _ 1 (⟨a4, c4, B⟩ : ByteE) rfl rc.out (by unfold maxLen; omega) (by omega) sz.out ?_); intro v5 w5 ho5 hg5; have HO5 := keep ho5; have HG5 := keep hg5; clear ho5 hg5))
            have BL6 : Hid (Below w2.heap.size w2 w5) := BL5.out.grown HG5.out BL5.out.size (fun j hj => (hI.out.1.lt j hj).1)
            have hm6 := byte_more (by decide) hI.out.1 hI.out.2.1 b5.out (own_block OB.out (fun g hgg => Below.heap_alloc _ _ g (own_size OB.out hgg))) HG5.out
            go_roundw
            case rel =>
              (repeat apply Exists.intro)
              exact ⟨⟨R', some ⟨rb, ro, none⟩, 0, es ++ [(⟨a4, c4, B⟩ : ByteE)], by rw [HRL.out], by have := HRL.out; omega, Nat.zero_le _, fun w' hb' => by
              have h1 := (SR.out w' hb').tail0 F hcF.symm
              rw [K3.out] at h1
              have h2 : R'.length = 0 := by have := HRL.out; have := (SR.out w' hb').cap; omega
              rw [h2]
              exact h1, by rw [List.length_append]; exact HO5.out, hm6, hnx.out, BL6.out, by have := HRL.out; rw [List.length_append, List.length_singleton]; omega⟩, rfl⟩
            case measure => simp [lenOf]; omega
          · go_wp2_with (first
              | (at_builtin; go_loud (refine wpList_append_rec byteKind_ok rfl _ _ 48 25 rfl w2.heap.size i0 _ 24 Tryz.underlying48 hi hz0 hz1 hz2 rfl u8 es.length es rfl ow.out _ 1 (⟨a4, c4, B⟩ : ByteE) rfl rc.out (by unfold maxLen; omega) (by omega) sz.out ?_); intro v5 w5 ho5 hg5; have HO5 := keep ho5; have HG5 := keep hg5; clear ho5 hg5))
            have BL6 : Hid (Below w2.heap.size w2 w5) := BL5.out.grown HG5.out BL5.out.size (fun j hj => (hI.out.1.lt j hj).1)
            have hm6 := byte_more (by decide) hI.out.1 hI.out.2.1 b5.out (own_block OB.out (fun g hgg => Below.heap_alloc _ _ g (own_size OB.out hgg))) HG5.out
            go_roundw
            case rel =>
              (repeat apply Exists.intro)
              exact ⟨⟨R', some ⟨rb, ro + F, none⟩, cr - F, es ++ [(⟨a4, c4, B⟩ : ByteE)], by rw [HRL.out], by have := HRL.out; omega, by omega, fun w' hb' => by
              have h1 := (SR.out w' hb').tailS F HFM.out
              rw [K3.out] at h1
              rw [HRL.out]
              exact h1, by rw [List.length_append]; exact HO5.out, hm6, hnx.out, BL6.out, by have := HRL.out; rw [List.length_append, List.length_singleton]; omega⟩, rfl⟩
            case measure => simp [lenOf]; omega
        · rw [K2.out] at h; cases h
  · have hE1 : ((E : Int) == 0) = false := by rw [beq_eq_false_iff_ne]; omega
    have HE := keep hE
    clear hE
    go_wp2
    go_ret2
    rw [RR.out]
    exact .inl ⟨HE.out, rfl, B2.out⟩
end Go.Proofs.YtohnfogdalnilaaGreatDoor
namespace Go.Proofs.YtohnfogdalnilaaGreatDoor
open Go.RowKit
open Dk (File Disk)

section
variable {c k s : Nat} {N y t : List UInt8}
theorem raw_new (hN : Dk.named N = true) (ht : t.length ≤ 4096) (hr : t.length + 16 + N.length ≤ c) : Dk.raw ⟨c, [], k, none, false⟩ 0 N [] t = (0, ⟨c, [⟨N, 0, t⟩], k + 1, none, false⟩) := by
  rw [Dk.raw_do (l := [⟨N, 0, t⟩]) (by show (Dk.named N && decide (t.length ≤ 4096)) = true; rw [hN, decide_eq_true ht]; rfl) rfl (by
    simp only [Dk.planOf, Dk.planAppend, Dk.look, Dk.used]
    exact (if_neg (by omega)).trans rfl)]
  rfl
theorem raw_more (hN : Dk.named N = true) (ht : t.length ≤ 4096) (hr : 16 + N.length + y.length + t.length ≤ c) : Dk.raw ⟨c, [⟨N, s, y⟩], k, none, false⟩ 0 N [] t = (0, ⟨c, [⟨N, s, y ++ t⟩], k + 1, none, false⟩) := by
  rw [Dk.raw_do (l := [⟨N, s, y ++ t⟩]) (by show (Dk.named N && decide (t.length ≤ 4096)) = true; rw [hN, decide_eq_true ht]; rfl) rfl (by
    simp only [Dk.planOf, Dk.planAppend, Dk.look, if_true, Dk.used, Dk.cost, Dk.put, less_irrefl]
    exact (if_neg (by omega)).trans rfl)]
  rfl
theorem raw_sure (hN : Dk.named N = true) : Dk.raw ⟨c, [⟨N, s, y⟩], k, none, false⟩ 1 N [] [] = (0, ⟨c, [⟨N, y.length, y⟩], k + 1, none, false⟩) := by
  rw [Dk.raw_do (l := [⟨N, y.length, y⟩]) (by show Dk.named N = true; exact hN) rfl (by
    simp only [Dk.planOf, Dk.planSync, Dk.look, if_true, Dk.put, less_irrefl]
    rfl)]
  rfl
theorem adds_more (hN : Dk.named N = true) : ∀ (ts : List (List UInt8)) (y : List UInt8) (k : Nat), (∀ t ∈ ts, t.length ≤ 4096) → 16 + N.length + y.length + ts.flatten.length ≤ c → adds ⟨c, [⟨N, s, y⟩], k, none, false⟩ N ts = (0, ⟨c, [⟨N, s, y ++ ts.flatten⟩], k + ts.length, none, false⟩)
  | [], y, k, _, _ => by simp [adds]
  | t :: ts, y, k, h, hr => by
    rw [List.flatten_cons, List.length_append] at hr
    simp only [adds]
    rw [raw_more hN (h t (by simp)) (by omega)]
    simp only [if_true]
    rw [adds_more hN ts (y ++ t) (k + 1) (fun t' ht' => h t' (by simp [ht'])) (by rw [List.length_append]; omega)]
    simp
    omega
theorem adds_new (hN : Dk.named N = true) (t : List UInt8) (ts : List (List UInt8)) (h : ∀ t' ∈ t :: ts, t'.length ≤ 4096) (hr : 16 + N.length + (t :: ts).flatten.length ≤ c) : adds ⟨c, [], k, none, false⟩ N (t :: ts) = (0, ⟨c, [⟨N, 0, (t :: ts).flatten⟩], k + (t :: ts).length, none, false⟩) := by
  rw [List.flatten_cons, List.length_append] at hr
  simp only [adds]
  rw [raw_new hN (h t (by simp)) (by omega)]
  simp only [if_true]
  rw [adds_more hN ts t (k + 1) (fun t' ht' => h t' (by simp [ht'])) (by omega)]
  simp
  omega
end
theorem chunks_flat (fr : List UInt8) (k : Nat) : ((List.range k).map (chunkOf fr)).flatten = fr.take (k * 4096) := by
  induction k with
  | zero => simp
  | succ k ih =>
    rw [List.range_succ, List.map_append, List.flatten_append, ih]
    simp only [List.map_cons, List.map_nil, List.flatten_cons, List.flatten_nil, List.append_nil, chunkOf]
    rw [Nat.succ_mul, List.take_add]
theorem chunksOf_flat (fr : List UInt8) : (chunksOf fr).flatten = fr := by
  unfold chunksOf
  rw [chunks_flat, List.take_of_length_le (by omega)]
theorem chunksOf_short (fr : List UInt8) : ∀ t ∈ chunksOf fr, t.length ≤ 4096 := fun t ht => by
  unfold chunksOf at ht
  obtain ⟨k, _, rfl⟩ := List.mem_map.1 ht
  unfold chunkOf
  rw [List.length_take]
  omega
theorem chunksOf_length (fr : List UInt8) : (chunksOf fr).length = (fr.length + 4095) / 4096 := by simp [chunksOf]
theorem chunksOf_cons {fr : List UInt8} (h : 0 < fr.length) : ∃ t ts, chunksOf fr = t :: ts := by
  cases hc : chunksOf fr with
  | nil =>
    have := chunksOf_length fr
    rw [hc, List.length_nil] at this
    omega
  | cons t ts => exact ⟨t, ts, rfl⟩
/-- The disk with one segment, sure. -/
def one (c : Nat) (N y : List UInt8) (k : Nat) : Disk := ⟨c, [⟨N, y.length, y⟩], k, none, false⟩
def blank (c : Nat) : Disk := ⟨c, [], 0, none, false⟩
theorem wal_more {c k : Nat} {n : Int} {y body : List UInt8} (hn : isSeg n = true) (hb : body.length ≤ 1048576) (hr : 33 + y.length + (frame body).length ≤ c) : walAdd (one c (segName n) y k) n body = (0, one c (segName n) (y ++ frame body) (k + (chunksOf (frame body)).length + 1)) := by
  have hl := segName_len hn
  have hN := segName_named hn
  unfold walAdd
  rw [hn, if_neg (by rintro (h | h); cases h; omega), if_neg (by simp [one])]
  have hu : Dk.used (one c (segName n) y k).files = 33 + y.length := by simp [one, Dk.used, Dk.cost, hl]
  have hro : roomOf (one c (segName n) y k) (segName n) (frame body).length = (frame body).length := by simp [roomOf, one, Dk.look]
  rw [hu, hro, if_neg (by show ¬ ((c : Int) - _ < _); omega)]
  unfold one
  rw [walGo_last (adds_more hN (chunksOf (frame body)) y k (chunksOf_short _) (by rw [chunksOf_flat, hl]; omega)), raw_sure hN, chunksOf_flat]
theorem wal_new {c : Nat} {n : Int} {body : List UInt8} (hn : isSeg n = true) (hb : body.length ≤ 1048576) (hr : 33 + (frame body).length ≤ c) : walAdd (blank c) n body = (0, one c (segName n) (frame body) ((chunksOf (frame body)).length + 1)) := by
  have hl := segName_len hn
  have hN := segName_named hn
  unfold walAdd
  rw [hn, if_neg (by rintro (h | h); cases h; omega), if_neg (by simp [blank])]
  have hro : roomOf (blank c) (segName n) (frame body).length = (frame body).length + 33 := by simp [roomOf, blank, Dk.look, hl]
  rw [hro, if_neg (by show ¬ ((c : Int) - _ < _); simp only [blank, Dk.used]; omega)]
  obtain ⟨t, ts, hts⟩ := chunksOf_cons (fr := frame body) (by have := frame_pos body; omega)
  have hfl := chunksOf_flat (frame body)
  have hsh := chunksOf_short (frame body)
  unfold blank one
  rw [hts] at hfl hsh
  rw [walGo_last (by rw [hts]; exact adds_new hN t ts hsh (by rw [hfl, hl]; omega)), raw_sure hN, hts, hfl]
  simp
theorem wal_none {c : Nat} {n : Int} {body : List UInt8} (hn : isSeg n = true) (hb : body.length ≤ 1048576) (hr : c < 33 + (frame body).length) : walAdd (blank c) n body = (4, blank c) := by
  have hl := segName_len hn
  unfold walAdd
  rw [hn, if_neg (by rintro (h | h); cases h; omega), if_neg (by simp [blank])]
  have hro : roomOf (blank c) (segName n) (frame body).length = (frame body).length + 33 := by simp [roomOf, blank, Dk.look, hl]
  rw [hro, if_pos (by show (c : Int) - _ < _; simp only [blank, Dk.used]; omega)]
theorem bodies_frame {B R : List UInt8} (h : B.length ≤ 1048576) : bodiesOf (frame B ++ R) = B :: bodiesOf R := bodies_some (tfr_frame (by omega) (by unfold most; omega))
theorem bodies_nil : bodiesOf [] = [] := rfl
theorem replay_one {c k : Nat} {n : Int} {y : List UInt8} (hn : isSeg n = true) : replayOf (one c (segName n) y k) n = (0, bodiesOf y) := by
  unfold replayOf readOf one
  rw [if_pos (segName_named hn)]
  simp [Dk.look]
end Go.Proofs.YtohnfogdalnilaaGreatDoor
namespace Go.Proofs.YtohnfogdalnilaaGreatDoor
open Go.RowKit
open Dk (File Disk)

set_option maxHeartbeats 1000000 in
set_option maxRecDepth 100000 in
theorem need_mem (S : Nat → Prop) (b : Nat) (d : Disk) (n : Int) (ao : Option Addr) (m c : Nat) (body : List UInt8) (w : World) (h : Mem S w b d) (ht : Tab w) (hs : ∀ w', Below w.heap.size w w' → Src w' ao m c body) (hm : m ≤ 1048576) :
    Calls Tryz.prog 33 #[.pointer (some ⟨b, 0, none⟩), .int .i64 n, .slice ao m c] w fun e w' => e = .returned (.int .i64 (roomOf d (segName n) (frame body).length : Int)) ∧ Below w.heap.size w w' := by
  have HM := keep h
  have HS := keep hs
  have hN := keep (name_any n w ht)
  have hsl := seg_len n
  have hbl : body.length = m := (hs w (Below.refl _ _)).len
  have hfl : (frame body).length ≤ 1048589 := by
    have h1 := frame_length body
    have h2 := num_le body.length (by omega)
    omega
  obtain ⟨N, hNN⟩ : ∃ N, segName n = N := ⟨_, rfl⟩
  rw [hNN] at hN hsl ⊢
  clear h ht hs
  go_enter Tryz.func33, Tryz.ntmps33
  go_wp2_with fail
  refine hN.out.mono ?_
  rintro e w1 ⟨rfl, hb1⟩
  have B1 := keep hb1
  have PF := keep (putFrame_any none 0 0 [] ao m c body w1 (by omega) (src_nil w1) (HS.out w1 hb1))
  clear hb1 hN
  go_wp2_with fail
  refine PF.out.mono ?_
  rintro e w2 ⟨v2, rfl, hv2⟩
  simp only [Nat.zero_add, List.nil_append] at hv2
  obtain ⟨a2, k2, rfl, _, _⟩ := hv2.src
  have B2 := keep (B1.out.trans (hv2.2.mono B1.out.size))
  have RM := keep (room_mem S b d N a2 (frame body).length k2 w2 (HM.out.below B2.out) (by omega) (by omega))
  obtain ⟨L, hL⟩ : ∃ L, (frame body).length = L := ⟨_, rfl⟩
  rw [hL] at RM ⊢
  have HL := keep hL
  clear hv2 PF hL hfl
  go_wp2_with fail
  refine RM.out.mono ?_
  rintro e w3 ⟨rfl, hb3⟩
  have B3 := keep (B2.out.trans (hb3.mono B2.out.size))
  clear hb3 RM
  go_wp2
  go_ret
  rw [HL.out]
  exact ⟨rfl, B3.out⟩

theorem row_at {w : World} {ao : Option Addr} {n c : Nat} {es : List ByteE} (h : RSrc byteKind w ao n c es) (hn : 0 < n) : ∃ b off, ao = some ⟨b, off, none⟩ ∧ b < w.heap.size ∧ ∀ (i : Nat) e, es[i]? = some e → w.cell? ⟨b, off + i, none⟩ = some (.slice e.ptr e.bytes.length e.cap) := by
  obtain ⟨b, off, h1, h2, h3⟩ := h.form byteKind_ok hn
  refine ⟨b, off, h1, h2, fun i e he => ?_⟩
  have := h3 i e he 0 (.slice e.ptr e.bytes.length e.cap) rfl
  simpa [byteKind] using this
set_option maxHeartbeats 1000000 in
set_option maxRecDepth 100000 in
theorem same_bodies (ao : Option Addr) (n c : Nat) (es : List ByteE) (ao2 : Option Addr) (n2 c2 : Nat) (es2 : List ByteE) (w : World) (h : RSrc byteKind w ao n c es) (h2 : RSrc byteKind w ao2 n2 c2 es2) (hn : n ≤ 1099511627776) :
    Calls Tryz.prog 23 #[.slice ao n c, .slice ao2 n2 c2] w fun e w' => e = .returned (.bool (decide (es.map ByteE.bytes = es2.map ByteE.bytes))) ∧ Below w.heap.size w w' := by
  have HR := keep h
  have HR2 := keep h2
  have HLEN := keep h.len
  have HLEN2 := keep h2.len
  clear h h2
  by_cases hnn : n = n2
  · subst hnn
    go_enter Tryz.func23, Tryz.ntmps23
    go_wp2_with fail
    go_loopw [5] (fun i wr => ∃ (t : Nat), t ≤ n ∧ i = .int .i64 (t : Int) ∧ Hid ((es.map ByteE.bytes).take t = (es2.map ByteE.bytes).take t) ∧ Hid (Below w.heap.size w wr)) (fun i _ => n - (intOf i).toNat)
    case atStart => exact ⟨0, Nat.zero_le _, rfl, by exact rfl, Below.refl _ _⟩
    case round =>
      obtain ⟨t, ht, rfl, hd, hb⟩ := hrel
      rcases Nat.lt_or_ge t n with hlt | hge
      · obtain ⟨f, hf⟩ : ∃ f, es[t]? = some f := ⟨es[t]'(by have := HLEN.out; omega), List.getElem?_eq_getElem _⟩
        obtain ⟨g, hg⟩ : ∃ f, es2[t]? = some f := ⟨es2[t]'(by have := HLEN2.out; omega), List.getElem?_eq_getElem _⟩
        have HRr := HR.out.below byteKind_ok hb.out
        have HRr2 := HR2.out.below byteKind_ok hb.out
        obtain ⟨b, off, rfl, hbl, hat⟩ := row_at HRr (by omega)
        have hc0 := hat t f hf
        obtain ⟨b2, off2, rfl, hbl2, hat2⟩ := row_at HRr2 (by omega)
        have hd0 := hat2 t g hg
        have j0 : (0 : Int) ≤ (t : Int) := by omega
        have j1 : (t : Int) < (n : Int) := by omega
        have s1' := fun m => conv_src ((HRr.held f (List.mem_of_getElem? hf) : Src wr f.ptr f.bytes.length f.cap f.bytes).below (below_drewN (Below.refl wr.heap.size wr) m))
        have s2' := fun m => conv_src ((HRr2.held g (List.mem_of_getElem? hg) : Src wr g.ptr g.bytes.length g.cap g.bytes).below (below_drewN (Below.refl wr.heap.size wr) m))
        have HF := keep hf
        have HG := keep hg
        obtain ⟨p, k, fbs⟩ := f
        obtain ⟨p2, k2, gbs⟩ := g
        simp only at hc0 hd0 s1' s2'
        clear hat hat2 hf hg HRr HRr2
        by_cases e3 : fbs = gbs
        · have x3 : (fbs == gbs) = true := by simpa using e3
          have hnx : Hid ((es.map ByteE.bytes).take (t + 1) = (es2.map ByteE.bytes).take (t + 1)) := by
            show _ = _
            rw [List.take_add_one, List.take_add_one, hd.out, List.getElem?_map, List.getElem?_map, HF.out, HG.out]
            simp [e3]
          clear e3
          go_wp2_with fail
          go_quiet (fail)
          have hb2 : Hid (Below w.heap.size w (wr.drewN nq)) := below_drewN hb.out _
          go_wp2
          go_roundw
          case rel => exact ⟨t + 1, by omega, by first | rfl | go_num, hnx, hb2⟩
          case measure => simp [intOf]; omega
        · have x3 : (fbs == gbs) = false := by simpa using e3
          have hno : Hid (¬ es.map ByteE.bytes = es2.map ByteE.bytes) := fun e => by
            have h1 := congrArg (fun l : List (List UInt8) => l[t]?) e
            simp only [List.getElem?_map, HF.out, HG.out, Option.map_some, Option.some.injEq] at h1
            exact e3 h1
          clear e3
          go_wp2_with fail
          go_quiet (fail)
          have hb2 : Hid (Below w.heap.size w (wr.drewN nq)) := below_drewN hb.out _
          go_wp2
          go_ret
          exact ⟨by rw [decide_eq_false hno.out]; rfl, hb2.out⟩
      · obtain rfl : t = n := by omega
        have hall : Hid (es.map ByteE.bytes = es2.map ByteE.bytes) := by
          have := hd.out
          rwa [List.take_of_length_le (by rw [List.length_map]; have := HLEN.out; omega), List.take_of_length_le (by rw [List.length_map]; have := HLEN2.out; omega)] at this
        go_wp2
        go_ret
        exact ⟨by rw [decide_eq_true hall.out]; rfl, hb.out⟩
  · have e0 : ((n : Int) == (n2 : Int)) = false := by rw [beq_eq_false_iff_ne]; omega
    have hno : Hid (¬ es.map ByteE.bytes = es2.map ByteE.bytes) := fun e => by
      have h1 := congrArg List.length e
      have h2 := HLEN.out
      have h3 := HLEN2.out
      rw [List.length_map, List.length_map] at h1
      omega
    go_enter Tryz.func23, Tryz.ntmps23
    go_wp2
    go_ret
    exact ⟨by rw [decide_eq_false hno.out]; rfl, Below.refl _ _⟩
end Go.Proofs.YtohnfogdalnilaaGreatDoor
namespace Go.Proofs.YtohnfogdalnilaaGreatDoor
open Go.RowKit
open Dk (File Disk)

abbrev Noone : Nat → Prop := fun _ => False
theorem seg7 : segName 7 = [119, 97, 108, 47, 48, 48, 48, 48, 48, 48, 48, 48, 48, 48, 48, 48, 55] := by decide +kernel
theorem frame_le {body : List UInt8} (h : body.length ≤ 1048576) : (frame body).length ≤ body.length + 13 := by
  have h1 := frame_length body
  have h2 := num_le body.length (by omega)
  omega
theorem chunks_le {body : List UInt8} (h : body.length ≤ 1048576) : (chunksOf (frame body)).length ≤ 1000 := by
  rw [chunksOf_length]
  have := frame_le h
  omega
theorem two_bodies {es : List ByteE} {a b : List UInt8} (h : es.map ByteE.bytes = [a, b]) : ∃ p1 k1 p2 k2, es = [⟨p1, k1, a⟩, ⟨p2, k2, b⟩] := by
  match es, h with
  | [⟨p1, k1, x⟩, ⟨p2, k2, y⟩], h =>
    simp only [List.map_cons, List.map_nil, List.cons.injEq, and_true] at h
    obtain ⟨rfl, rfl⟩ := h
    exact ⟨p1, k1, p2, k2, rfl⟩
theorem aw1 : walAdd ⟨1000, [], 0, none, false⟩ 7 [97, 98] = (0, one 1000 (segName 7) (frame [97, 98]) ((chunksOf (frame [97, 98])).length + 1)) :=
  wal_new (by decide) (by decide) (by have := frame_le (body := [97, 98]) (by decide); have : ([97, 98] : List UInt8).length = 2 := rfl; omega)
theorem aw2 : walAdd (one 1000 (segName 7) (frame [97, 98]) ((chunksOf (frame [97, 98])).length + 1)) 7 [99, 100] = (0, one 1000 (segName 7) (frame [97, 98] ++ frame [99, 100]) ((chunksOf (frame [97, 98])).length + 1 + (chunksOf (frame [99, 100])).length + 1)) :=
  wal_more (by decide) (by decide) (by have := frame_le (body := [97, 98]) (by decide); have := frame_le (body := [99, 100]) (by decide); have : ([97, 98] : List UInt8).length = 2 := rfl; have : ([99, 100] : List UInt8).length = 2 := rfl; omega)
theorem aw3 (k : Nat) : replayOf (one 1000 (segName 7) (frame [97, 98] ++ frame [99, 100]) k) 7 = (0, [[97, 98], [99, 100]]) := by
  rw [replay_one (by decide), bodies_frame (by decide)]
  have := bodies_frame (B := [99, 100]) (R := []) (by decide)
  rw [List.append_nil] at this
  rw [this, bodies_nil]

set_option maxHeartbeats 2000000 in
set_option maxRecDepth 100000 in
theorem awake_any (w : World) (ht : Tab w) (hw : 0 < w.heap.size) : Calls Tryz.prog 6 #[] w fun e w' => e = .returned (.bool true) ∧ Below w.heap.size w w' := by
  have hcv := conv_const
  have hn := keep (new_mem 1000 w (by omega))
  rw [show ((1000 : Nat) : Int) = 1000 from rfl] at hn
  have HT : Hid (∀ w', Below w.heap.size w w' → Tab w' ∧ 0 < w'.heap.size) := fun w' hb => ⟨ht.below hb hw, Nat.lt_of_lt_of_le hw hb.size⟩
  clear ht hw
  go_enter Tryz.func6, Tryz.ntmps6
  go_wp2_with fail
  refine hn.out.mono ?_
  rintro e w1 ⟨b, S, rfl, hm, hS, hb, hbel⟩
  have H1 : Hid (Own Noone w S w1 b ⟨1000, [], 0, none, false⟩) := ⟨hm, fun g hg => .inr (hS g hg), .inr hb, Kept.of_below hbel⟩
  clear hm hS hbel hn hb
  go_wp2_with fail
  have O2 := H1.out.next ((Below.refl _ _).alloc (Nat.le_refl _) (.cells #[.int .u8 97, .int .u8 98] 5 (2, 3)))
  have h2 := add_own Noone w S (w1.alloc (.cells #[.int .u8 97, .int .u8 98] 5 (2, 3))) b ⟨1000, [], 0, none, false⟩ 7 (some ⟨w1.heap.size, 0, none⟩) 2 2 [97, 98] O2 (HT.out _ O2.below).1 (HT.out _ O2.below).2 (fun w' hb => (Src.block (l := [97, 98]) (heap_alloc_new w1 _) rfl).below hb) (by decide)
  rw [aw1] at h2
  refine h2.mono ?_
  rintro e w2 ⟨S2, rfl, hO⟩
  have H2 := keep hO
  have hk1 := chunks_le (body := [97, 98]) (by decide)
  have A2 := keep aw2
  have A3 := keep aw3
  obtain ⟨F1, hF1⟩ : ∃ F, frame [97, 98] = F := ⟨_, rfl⟩
  obtain ⟨F2, hF2⟩ : ∃ F, frame [99, 100] = F := ⟨_, rfl⟩
  rw [hF1] at hk1 H2
  rw [hF1, hF2] at A2 A3
  obtain ⟨k1, hK1⟩ : ∃ k, (chunksOf F1).length + 1 = k := ⟨_, rfl⟩
  rw [hK1] at A2 H2
  have hk1' : k1 ≤ 1001 := by omega
  clear hO h2 H1 O2 hF1 hF2 hK1 hk1
  go_wp2_with fail
  have O3 := H2.out.next ((Below.refl _ _).alloc (Nat.le_refl _) (.cells #[.int .u8 99, .int .u8 100] 5 (2, 3)))
  have h3 := add_own Noone w S2 (w2.alloc (.cells #[.int .u8 99, .int .u8 100] 5 (2, 3))) b _ 7 (some ⟨w2.heap.size, 0, none⟩) 2 2 [99, 100] O3 (HT.out _ O3.below).1 (HT.out _ O3.below).2 (fun w' hb => (Src.block (l := [99, 100]) (heap_alloc_new w2 _) rfl).below hb) (by show k1 ≤ _; omega)
  rw [A2.out] at h3
  refine h3.mono ?_
  rintro e w3 ⟨S3, rfl, hO⟩
  have H3 := keep hO
  obtain ⟨k2, hK2⟩ : ∃ k, k1 + (chunksOf F2).length + 1 = k := ⟨_, rfl⟩
  rw [hK2] at H3
  clear hO h3 H2 O3 hK2 A2 hk1'
  go_wp2_with fail
  have h4 := replay_mem S3 b _ 7 w3 H3.out.mem (HT.out _ H3.out.below).1 (by show 1000 ≤ _; omega)
  rw [A3.out] at h4
  refine h4.mono ?_
  rintro e w4 (⟨h, _⟩ | ⟨_, ao, c, es, rfl, hR, hes, hc, hb4, _⟩)
  · exact absurd rfl h
  obtain ⟨p1, q1, p2, q2, rfl⟩ := two_bodies hes
  have B4 := keep (H3.out.below.trans (hb4.mono H3.out.below.size))
  obtain ⟨br, off, rfl, _, hat⟩ := row_at hR (by simp)
  have c0 := hat 0 _ rfl
  have c1 := hat 1 _ rfl
  simp only [Nat.add_zero] at c0
  have s0 := conv_src (hR.held ⟨p1, q1, [97, 98]⟩ (by simp) : Src w4 p1 _ q1 [97, 98])
  have s1 := conv_src (hR.held ⟨p2, q2, [99, 100]⟩ (by simp) : Src w4 p2 _ q2 [99, 100])
  
  simp only [List.length_cons, List.length_nil, Nat.zero_add, Nat.reduceAdd] at c0 c1 s0 s1 ⊢
  clear hat hR hes h4 H3 A3 hc
  have N7 := keep (name_any 7 w4 (HT.out w4 B4.out).1)
  rw [seg7] at N7
  go_wp2_with fail
  refine N7.out.mono ?_
  rintro e w5 ⟨rfl, hb5⟩
  have B5 := keep (B4.out.trans (hb5.mono B4.out.size))
  have N0 := keep (name_any (-1) w5 (HT.out w5 B5.out).1)
  rw [segName_none (by decide)] at N0
  clear hb5 N7
  go_wp2_with fail
  refine N0.out.mono ?_
  rintro e w6 ⟨rfl, hb6⟩
  have B6 := keep (B5.out.trans (hb6.mono B5.out.size))
  clear hb6 N0
  go_wp2
  go_ret
  exact ⟨rfl, B6.out⟩
end Go.Proofs.YtohnfogdalnilaaGreatDoor
