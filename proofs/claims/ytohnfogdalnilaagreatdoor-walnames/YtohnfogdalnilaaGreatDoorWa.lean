/- What wal's Add does, over plain disks; a segment's name may be a file's; no walk. -/
import Derived.Test.YtohnfogdalnilaaGreatDoorWb
import Derived.Test.YtohnfogdalnilaaGreatDoorPf
namespace Go.Proofs.YtohnfogdalnilaaGreatDoor
open Go.RowKit
open Dk (File Disk)

theorem repeatL_mem {l : List UInt8} {c : Nat} {x : UInt8} (h : x ∈ Lib.repeatL l c) : x ∈ l := by
  induction c with
  | zero => simp [Lib.repeatL] at h
  | succ c ih =>
    simp only [Lib.repeatL, List.mem_append] at h
    exact h.elim id ih
theorem dg_ne (u j : Nat) : Lib.dg u j ≠ 0 := by
  unfold Lib.dg
  intro h
  have := congrArg UInt8.toNat h
  rw [UInt8.toNat_ofNat'] at this
  have e : (0 : UInt8).toNat = 0 := rfl
  rw [e] at this
  omega
theorem segName_named {n : Int} (h : isSeg n = true) : Dk.named (segName n) = true := by
  have hl := segName_len h
  unfold Dk.named
  rw [hl]
  simp only [Nat.reduceLeDiff, decide_true, Bool.true_and, List.all_eq_true]
  intro x hx
  unfold segName at hx
  rw [if_pos h, List.mem_append, List.mem_append] at hx
  have h0 : x ≠ 0 := by
    rcases hx with (hx | hx) | hx
    · rintro rfl
      simp at hx
    · have := repeatL_mem hx
      rintro rfl
      simp at this
    · simp only [isSeg, Bool.and_eq_true, decide_eq_true_eq] at h
      unfold Lib.itoa at hx
      rw [if_neg (by omega), Lib.decDigits_eq, List.mem_map] at hx
      obtain ⟨t, _, rfl⟩ := hx
      exact dg_ne _ _
  simpa using h0

/-- Chunks appended, one behind the other, up to the first error. -/
def adds (d : Disk) (name : List UInt8) : List (List UInt8) → Nat × Disk
  | [] => (0, d)
  | t :: ts => if (Dk.raw d 0 name [] t).1 = 0 then adds (Dk.raw d 0 name [] t).2 name ts else Dk.raw d 0 name [] t
theorem adds_snoc (name : List UInt8) (t : List UInt8) : ∀ (ts : List (List UInt8)) (d : Disk), adds d name (ts ++ [t]) = if (adds d name ts).1 = 0 then Dk.raw (adds d name ts).2 0 name [] t else adds d name ts
  | [], d => by
    simp only [List.nil_append, adds, if_true]
    split
    · rename_i h
      cases hr : Dk.raw d 0 name [] t with
      | mk a b => rw [hr] at h; simp only at h; rw [h]
    · rfl
  | u :: ts, d => by
    simp only [List.cons_append, adds]
    split
    · exact adds_snoc name t ts _
    · first | rfl | (rename_i h; rw [if_neg h])
/-- The k-th chunk. -/
def chunkOf (fr : List UInt8) (k : Nat) : List UInt8 := (fr.drop (k * 4096)).take 4096
def chunksOf (fr : List UInt8) : List (List UInt8) := (List.range ((fr.length + 4095) / 4096)).map (chunkOf fr)
theorem adds_stop (name : List UInt8) (us : List (List UInt8)) {E : Nat} {D : Disk} (hE : E ≠ 0) : ∀ (ts : List (List UInt8)) (d : Disk), adds d name ts = (E, D) → adds d name (ts ++ us) = (E, D)
  | [], d, h => by
    simp only [adds, Prod.mk.injEq] at h
    exact absurd h.1.symm hE
  | t :: ts, d, h => by
    simp only [List.cons_append, adds] at h ⊢
    split at h
    · rename_i h1
      rw [if_pos h1]
      exact adds_stop name us hE ts _ h
    · rename_i h1
      rw [if_neg h1]
      exact h
/-- The frame laid, and made sure. -/
def walGo (d : Disk) (name fr : List UInt8) : Nat × Disk :=
  if (adds d name (chunksOf fr)).1 = 0 then Dk.raw (adds d name (chunksOf fr)).2 1 name [] [] else adds d name (chunksOf fr)
theorem walGo_last {d D : Disk} {name fr : List UInt8} (h : adds d name (chunksOf fr) = (0, D)) : walGo d name fr = Dk.raw D 1 name [] [] := by unfold walGo; rw [h]; rfl
theorem walGo_stop {d D : Disk} {name fr : List UInt8} {E : Nat} (hE : E ≠ 0) (h : adds d name (chunksOf fr) = (E, D)) : walGo d name fr = (E, D) := by unfold walGo; rw [h, if_neg hE]
/-- Add's answer, and the disk it leaves. -/
def walAdd (d : Disk) (n : Int) (body : List UInt8) : Nat × Disk :=
  if isSeg n = false ∨ 1048576 < body.length then (1, d)
  else if d.dark then (5, d)
  else if (d.cap : Int) - (Dk.used d.files : Int) < (roomOf d (segName n) (frame body).length : Int) then (4, d)
  else walGo d (segName n) (frame body)
theorem raw_done (d : Disk) (k : Nat) (a b t : List UInt8) : (Dk.raw d k a b t).2.done ≤ d.done + 1 := by
  rcases Dk.raw_cases d k a b t with ⟨e, _, h⟩ | ⟨m, _, h⟩
  · rw [h]; simp
  · rw [h]
    unfold Dk.write
    have ht : (Dk.tick d).2.done ≤ d.done + 1 := by
      unfold Dk.tick
      split <;> simp
    split <;> exact ht
theorem adds_done (name : List UInt8) : ∀ (ts : List (List UInt8)) (d : Disk), (adds d name ts).2.done ≤ d.done + ts.length
  | [], d => by simp [adds]
  | t :: ts, d => by
    simp only [adds]
    have h1 := raw_done d 0 name [] t
    split
    · have h2 := adds_done name ts (Dk.raw d 0 name [] t).2
      rw [List.length_cons]
      omega
    · rw [List.length_cons]; omega
end Go.Proofs.YtohnfogdalnilaaGreatDoor
