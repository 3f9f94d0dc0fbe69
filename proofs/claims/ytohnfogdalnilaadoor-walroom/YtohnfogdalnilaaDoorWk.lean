/- Which bodies bytes begin with, over plain lists; rows of bytes; no walk. -/
import Derived.Test.YtohnfogdalnilaaDoorWh
namespace Go.Proofs.YtohnfogdalnilaaDoor
open Go.RowKit
open Dk (File Disk)

def most : Int := 1048576
/-- The bodies, at most k of them. -/
def bodiesF : Nat → List UInt8 → List (List UInt8)
  | 0, _ => []
  | k + 1, l => match tfr l most with
    | some (B, R) => B :: bodiesF k R
    | none => []
def bodiesOf (l : List UInt8) : List (List UInt8) := bodiesF l.length l
theorem frame_pos (B : List UInt8) : 5 ≤ (frame B).length := by
  have h1 := frame_length B
  have h2 := num_pos B.length
  omega
theorem tfr_less {l B R : List UInt8} (h : tfr l most = some (B, R)) : R.length < l.length := by
  have h1 := (tfr_some h).1
  have h2 := frame_pos B
  rw [h1, List.length_append]
  omega
theorem bodiesF_same : ∀ (k j : Nat) (l : List UInt8), l.length ≤ k → l.length ≤ j → bodiesF k l = bodiesF j l
  | 0, 0, _, _, _ => rfl
  | 0, j + 1, l, h, _ => by
    have : l = [] := List.length_eq_zero_iff.1 (by omega)
    subst this
    simp only [bodiesF]
    cases h1 : tfr ([] : List UInt8) most with
    | none => rfl
    | some x => obtain ⟨B, R⟩ := x; have := tfr_less h1; simp at this
  | k + 1, 0, l, _, h => by
    have : l = [] := List.length_eq_zero_iff.1 (by omega)
    subst this
    simp only [bodiesF]
    cases h1 : tfr ([] : List UInt8) most with
    | none => rfl
    | some x => obtain ⟨B, R⟩ := x; have := tfr_less h1; simp at this
  | k + 1, j + 1, l, h, h' => by
    simp only [bodiesF]
    cases h1 : tfr l most with
    | none => rfl
    | some x =>
      obtain ⟨B, R⟩ := x
      have := tfr_less h1
      simp only
      rw [bodiesF_same k j R (by omega) (by omega)]
theorem bodies_some {l B R : List UInt8} (h : tfr l most = some (B, R)) : bodiesOf l = B :: bodiesOf R := by
  have h1 := tfr_less h
  unfold bodiesOf
  rw [bodiesF_same l.length (l.length + 1) l (Nat.le_refl _) (by omega)]
  simp only [bodiesF, h]
  rw [bodiesF_same l.length R.length R (by omega) (Nat.le_refl _)]
theorem bodies_none {l : List UInt8} (h : tfr l most = none) : bodiesOf l = [] := by
  unfold bodiesOf
  rw [bodiesF_same l.length (l.length + 1) l (Nat.le_refl _) (by omega)]
  simp only [bodiesF, h]
theorem first_some {l B R : List UInt8} (h : tfr l most = some (B, R)) : firstLen l = (frame B).length ∧ tfr (l.take (firstLen l)) most = some (B, []) ∧ l.drop (firstLen l) = R := by
  obtain ⟨h1, h2⟩ := tfr_some h
  have hB : B.length ≤ 1048576 := by unfold most at h2; omega
  have h9 := num_le B.length (by omega)
  have hfl := frame_length B
  have hl : l = num B.length ++ (be 4 (crc (num B.length ++ B)).toNat ++ (B ++ R)) := by rw [h1]; simp [frame]
  have hk : firstLen l = (frame B).length := by
    have ht : l.take 9 = num B.length ++ (be 4 (crc (num B.length ++ B)).toNat ++ (B ++ R)).take (9 - (num B.length).length) := by
      rw [hl, List.take_append, List.take_of_length_le (by omega)]
    have hlen := congrArg List.length ht
    rw [List.length_append] at hlen
    have hll := congrArg List.length h1
    rw [List.length_append] at hll
    unfold firstLen
    rw [show takeNum (l.take 9) = some (B.length, (be 4 (crc (num B.length ++ B)).toNat ++ (B ++ R)).take (9 - (num B.length).length)) by rw [ht]; exact takeNum_put (by omega)]
    simp only
    omega
  refine ⟨hk, ?_, ?_⟩
  · rw [hk, h1, List.take_left']
    · have := tfr_frame (B := B) (R := []) (most := most) (by omega) h2
      rwa [List.append_nil] at this
    · rfl
  · rw [hk, h1, List.drop_left']
    rfl
theorem first_none {l : List UInt8} (h : tfr l most = none) : tfr (l.take (firstLen l)) most = none := by
  cases h1 : tfr (l.take (firstLen l)) most with
  | none => rfl
  | some x =>
    obtain ⟨B, R⟩ := x
    obtain ⟨h2, h3⟩ := tfr_some h1
    have h4 : l = frame B ++ (R ++ l.drop (firstLen l)) := by
      rw [← List.append_assoc, ← h2, List.take_append_drop]
    have h5 : B.length < 4611686018427387904 := by unfold most at h3; omega
    rw [h4, tfr_frame h5 h3] at h
    cases h
/-- Bytes as an element of a row. -/
structure ByteE where
  ptr : Option Addr
  cap : Nat
  bytes : List UInt8
def byteKind : Kind ByteE where
  size := 1
  vals e := [.slice e.ptr e.bytes.length e.cap]
  held w e := Src w e.ptr e.bytes.length e.cap e.bytes
theorem byteKind_ok : byteKind.Ok :=
  ⟨by decide, fun _ => rfl, fun e u hu => by
    simp only [byteKind, List.mem_cons, List.not_mem_nil, or_false] at hu
    rw [hu]; rfl, fun h hb => Src.below h hb⟩
end Go.Proofs.YtohnfogdalnilaaDoor
