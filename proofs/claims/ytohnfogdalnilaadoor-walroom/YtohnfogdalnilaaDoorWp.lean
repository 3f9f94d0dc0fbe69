/- Adds to one segment of a disk that has no other file, over plain disks; no walk. -/
import Derived.Test.YtohnfogdalnilaaDoorWr
namespace Go.Proofs.YtohnfogdalnilaaDoor
open Go.RowKit
open Dk (File Disk)

section
variable {c k s : Nat} {N y t : List UInt8}
theorem raw_new (hN : Dk.named N = true) (ht : t.length ≤ 4096) (hr : t.length + 16 + N.length ≤ c) : Dk.raw ⟨c, [], k, none, false⟩ 0 N [] t = (0, ⟨c, [⟨N, 0, t⟩], k + 1, none, false⟩) := by
  rw [Dk.raw_do (l := [⟨N, 0, t⟩]) (by show (Dk.named N && decide (t.length ≤ 4096)) = true; rw [hN, decide_eq_true ht]; rfl) rfl (by
    simp only [Dk.planOf, Dk.planAppend, Dk.look, Dk.used]
    exact (if_neg (by omega)).trans rfl)]
  rfl
theorem raw_more (hN : Dk.named N = true) (ht : t.length ≤ 4096) (hr : 16 + N.length + y.length + t.length ≤ c) : Dk.raw ⟨c, [⟨N, s, y⟩], k, none, false⟩ 0 N [] t = (0, ⟨c, [⟨N, s, y ++ t⟩], k + 1, none, false⟩) := by
  rw [Dk.raw_do (l := [⟨N, s, y ++ t⟩]) (by show (Dk.named N && decide (t.length ≤ 4096)) = true; rw [hN, decide_eq_true ht]; rfl) rfl (by
    simp only [Dk.planOf, Dk.planAppend, Dk.look, if_true, Dk.used, Dk.cost, Dk.put, less_irrefl]
    exact (if_neg (by omega)).trans rfl)]
  rfl
theorem raw_sure (hN : Dk.named N = true) : Dk.raw ⟨c, [⟨N, s, y⟩], k, none, false⟩ 1 N [] [] = (0, ⟨c, [⟨N, y.length, y⟩], k + 1, none, false⟩) := by
  rw [Dk.raw_do (l := [⟨N, y.length, y⟩]) (by show Dk.named N = true; exact hN) rfl (by
    simp only [Dk.planOf, Dk.planSync, Dk.look, if_true, Dk.put, less_irrefl]
    rfl)]
  rfl
theorem adds_more (hN : Dk.named N = true) : ∀ (ts : List (List UInt8)) (y : List UInt8) (k : Nat), (∀ t ∈ ts, t.length ≤ 4096) → 16 + N.length + y.length + ts.flatten.length ≤ c → adds ⟨c, [⟨N, s, y⟩], k, none, false⟩ N ts = (0, ⟨c, [⟨N, s, y ++ ts.flatten⟩], k + ts.length, none, false⟩)
  | [], y, k, _, _ => by simp [adds]
  | t :: ts, y, k, h, hr => by
    rw [List.flatten_cons, List.length_append] at hr
    simp only [adds]
    rw [raw_more hN (h t (by simp)) (by omega)]
    simp only [if_true]
    rw [adds_more hN ts (y ++ t) (k + 1) (fun t' ht' => h t' (by simp [ht'])) (by rw [List.length_append]; omega)]
    simp
    omega
theorem adds_new (hN : Dk.named N = true) (t : List UInt8) (ts : List (List UInt8)) (h : ∀ t' ∈ t :: ts, t'.length ≤ 4096) (hr : 16 + N.length + (t :: ts).flatten.length ≤ c) : adds ⟨c, [], k, none, false⟩ N (t :: ts) = (0, ⟨c, [⟨N, 0, (t :: ts).flatten⟩], k + (t :: ts).length, none, false⟩) := by
  rw [List.flatten_cons, List.length_append] at hr
  simp only [adds]
  rw [raw_new hN (h t (by simp)) (by omega)]
  simp only [if_true]
  rw [adds_more hN ts t (k + 1) (fun t' ht' => h t' (by simp [ht'])) (by omega)]
  simp
  omega
end
theorem chunks_flat (fr : List UInt8) (k : Nat) : ((List.range k).map (chunkOf fr)).flatten = fr.take (k * 4096) := by
  induction k with
  | zero => simp
  | succ k ih =>
    rw [List.range_succ, List.map_append, List.flatten_append, ih]
    simp only [List.map_cons, List.map_nil, List.flatten_cons, List.flatten_nil, List.append_nil, chunkOf]
    rw [Nat.succ_mul, List.take_add]
theorem chunksOf_flat (fr : List UInt8) : (chunksOf fr).flatten = fr := by
  unfold chunksOf
  rw [chunks_flat, List.take_of_length_le (by omega)]
theorem chunksOf_short (fr : List UInt8) : ∀ t ∈ chunksOf fr, t.length ≤ 4096 := fun t ht => by
  unfold chunksOf at ht
  obtain ⟨k, _, rfl⟩ := List.mem_map.1 ht
  unfold chunkOf
  rw [List.length_take]
  omega
theorem chunksOf_length (fr : List UInt8) : (chunksOf fr).length = (fr.length + 4095) / 4096 := by simp [chunksOf]
theorem chunksOf_cons {fr : List UInt8} (h : 0 < fr.length) : ∃ t ts, chunksOf fr = t :: ts := by
  cases hc : chunksOf fr with
  | nil =>
    have := chunksOf_length fr
    rw [hc, List.length_nil] at this
    omega
  | cons t ts => exact ⟨t, ts, rfl⟩
/-- The disk with one segment, sure. -/
def one (c : Nat) (N y : List UInt8) (k : Nat) : Disk := ⟨c, [⟨N, y.length, y⟩], k, none, false⟩
def blank (c : Nat) : Disk := ⟨c, [], 0, none, false⟩
theorem wal_more {c k : Nat} {n : Int} {y body : List UInt8} (hn : isSeg n = true) (hb : body.length ≤ 1048576) (hr : 33 + y.length + (frame body).length ≤ c) : walAdd (one c (segName n) y k) n body = (0, one c (segName n) (y ++ frame body) (k + (chunksOf (frame body)).length + 1)) := by
  have hl := segName_len hn
  have hN := segName_named hn
  unfold walAdd
  rw [hn, if_neg (by rintro (h | h); cases h; omega), if_neg (by simp [one])]
  have hu : Dk.used (one c (segName n) y k).files = 33 + y.length := by simp [one, Dk.used, Dk.cost, hl]
  have hro : roomOf (one c (segName n) y k) (segName n) (frame body).length = (frame body).length := by simp [roomOf, one, Dk.look]
  rw [hu, hro, if_neg (by show ¬ ((c : Int) - _ < _); omega)]
  unfold one
  rw [walGo_last (adds_more hN (chunksOf (frame body)) y k (chunksOf_short _) (by rw [chunksOf_flat, hl]; omega)), raw_sure hN, chunksOf_flat]
theorem wal_new {c : Nat} {n : Int} {body : List UInt8} (hn : isSeg n = true) (hb : body.length ≤ 1048576) (hr : 33 + (frame body).length ≤ c) : walAdd (blank c) n body = (0, one c (segName n) (frame body) ((chunksOf (frame body)).length + 1)) := by
  have hl := segName_len hn
  have hN := segName_named hn
  unfold walAdd
  rw [hn, if_neg (by rintro (h | h); cases h; omega), if_neg (by simp [blank])]
  have hro : roomOf (blank c) (segName n) (frame body).length = (frame body).length + 33 := by simp [roomOf, blank, Dk.look, hl]
  rw [hro, if_neg (by show ¬ ((c : Int) - _ < _); simp only [blank, Dk.used]; omega)]
  obtain ⟨t, ts, hts⟩ := chunksOf_cons (fr := frame body) (by have := frame_pos body; omega)
  have hfl := chunksOf_flat (frame body)
  have hsh := chunksOf_short (frame body)
  unfold blank one
  rw [hts] at hfl hsh
  rw [walGo_last (by rw [hts]; exact adds_new hN t ts hsh (by rw [hfl, hl]; omega)), raw_sure hN, hts, hfl]
  simp
theorem wal_none {c : Nat} {n : Int} {body : List UInt8} (hn : isSeg n = true) (hb : body.length ≤ 1048576) (hr : c < 33 + (frame body).length) : walAdd (blank c) n body = (4, blank c) := by
  have hl := segName_len hn
  unfold walAdd
  rw [hn, if_neg (by rintro (h | h); cases h; omega), if_neg (by simp [blank])]
  have hro : roomOf (blank c) (segName n) (frame body).length = (frame body).length + 33 := by simp [roomOf, blank, Dk.look, hl]
  rw [hro, if_pos (by show (c : Int) - _ < _; simp only [blank, Dk.used]; omega)]
theorem bodies_frame {B R : List UInt8} (h : B.length ≤ 1048576) : bodiesOf (frame B ++ R) = B :: bodiesOf R := bodies_some (tfr_frame (by omega) (by unfold most; omega))
theorem bodies_nil : bodiesOf [] = [] := rfl
theorem replay_one {c k : Nat} {n : Int} {y : List UInt8} (hn : isSeg n = true) : replayOf (one c (segName n) y k) n = (0, bodiesOf y) := by
  unfold replayOf readOf one
  rw [if_pos (segName_named hn)]
  simp [Dk.look]
end Go.Proofs.YtohnfogdalnilaaDoor
