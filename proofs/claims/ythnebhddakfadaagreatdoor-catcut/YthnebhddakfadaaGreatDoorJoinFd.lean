/- Bytes laid into a file, chunk by chunk, over plain disks; no walk. -/
/- Segments' names as digits: in the order of their numbers, read back; no walk. -/
/- Files' names by their numbers; files removed, and laid, over plain disks; no walk. -/
/- The walks of strings.Cut at a slash, of cat's called, version, Table. -/
import Derived.Test.YthnebhddakfadaaGreatDoorJoinEcb
import Derived.Test.YthnebhddakfadaaGreatDoorJoinPf
import Derived.Test.YthnebhddakfadaaGreatDoorJoinMe
import Derived.Lib.Atoi
import Derived.Lib.Strings
import Derived.Lib.AtoiTie
namespace Go.Proofs.YthnebhddakfadaaGreatDoor
open Go.RowKit
open Dk (File Disk)

theorem repeatL_mem {l : List UInt8} {c : Nat} {x : UInt8} (h : x ∈ Lib.repeatL l c) : x ∈ l := by
  induction c with
  | zero => simp [Lib.repeatL] at h
  | succ c ih =>
    simp only [Lib.repeatL, List.mem_append] at h
    exact h.elim id ih
theorem dg_ne (u j : Nat) : Lib.dg u j ≠ 0 := by
  unfold Lib.dg
  intro h
  have := congrArg UInt8.toNat h
  rw [UInt8.toNat_ofNat'] at this
  have e : (0 : UInt8).toNat = 0 := rfl
  rw [e] at this
  omega
theorem segName_named {n : Int} (h : isSeg n = true) : Dk.named (segName n) = true := by
  have hl := segName_len h
  unfold Dk.named
  rw [hl]
  simp only [Nat.reduceLeDiff, decide_true, Bool.true_and, List.all_eq_true]
  intro x hx
  unfold segName at hx
  rw [if_pos h, List.mem_append, List.mem_append] at hx
  have h0 : x ≠ 0 := by
    rcases hx with (hx | hx) | hx
    · rintro rfl
      simp at hx
    · have := repeatL_mem hx
      rintro rfl
      simp at this
    · simp only [isSeg, Bool.and_eq_true, decide_eq_true_eq] at h
      unfold Lib.itoa at hx
      rw [if_neg (by omega), Lib.decDigits_eq, List.mem_map] at hx
      obtain ⟨t, _, rfl⟩ := hx
      exact dg_ne _ _
  simpa using h0

/-- Chunks appended, one behind the other, up to the first error. -/
def adds (d : Disk) (name : List UInt8) : List (List UInt8) → Nat × Disk
  | [] => (0, d)
  | t :: ts => if (Dk.raw d 0 name [] t).1 = 0 then adds (Dk.raw d 0 name [] t).2 name ts else Dk.raw d 0 name [] t
theorem adds_snoc (name : List UInt8) (t : List UInt8) : ∀ (ts : List (List UInt8)) (d : Disk), adds d name (ts ++ [t]) = if (adds d name ts).1 = 0 then Dk.raw (adds d name ts).2 0 name [] t else adds d name ts
  | [], d => by
    simp only [List.nil_append, adds, if_true]
    split
    · rename_i h
      cases hr : Dk.raw d 0 name [] t with
      | mk a b => rw [hr] at h; simp only at h; rw [h]
    · rfl
  | u :: ts, d => by
    simp only [List.cons_append, adds]
    split
    · exact adds_snoc name t ts _
    · first | rfl | (rename_i h; rw [if_neg h])
/-- The k-th chunk. -/
def chunkOf (fr : List UInt8) (k : Nat) : List UInt8 := (fr.drop (k * 4096)).take 4096
def chunksOf (fr : List UInt8) : List (List UInt8) := (List.range ((fr.length + 4095) / 4096)).map (chunkOf fr)
theorem adds_stop (name : List UInt8) (us : List (List UInt8)) {E : Nat} {D : Disk} (hE : E ≠ 0) : ∀ (ts : List (List UInt8)) (d : Disk), adds d name ts = (E, D) → adds d name (ts ++ us) = (E, D)
  | [], d, h => by
    simp only [adds, Prod.mk.injEq] at h
    exact absurd h.1.symm hE
  | t :: ts, d, h => by
    simp only [List.cons_append, adds] at h ⊢
    split at h
    · rename_i h1
      rw [if_pos h1]
      exact adds_stop name us hE ts _ h
    · rename_i h1
      rw [if_neg h1]
      exact h
/-- The frame laid, and made sure. -/
def walGo (d : Disk) (name fr : List UInt8) : Nat × Disk :=
  if (adds d name (chunksOf fr)).1 = 0 then Dk.raw (adds d name (chunksOf fr)).2 1 name [] [] else adds d name (chunksOf fr)
theorem walGo_last {d D : Disk} {name fr : List UInt8} (h : adds d name (chunksOf fr) = (0, D)) : walGo d name fr = Dk.raw D 1 name [] [] := by unfold walGo; rw [h]; rfl
theorem walGo_stop {d D : Disk} {name fr : List UInt8} {E : Nat} (hE : E ≠ 0) (h : adds d name (chunksOf fr) = (E, D)) : walGo d name fr = (E, D) := by unfold walGo; rw [h, if_neg hE]
theorem raw_done (d : Disk) (k : Nat) (a b t : List UInt8) : (Dk.raw d k a b t).2.done ≤ d.done + 1 := by
  rcases Dk.raw_cases d k a b t with ⟨e, _, h⟩ | ⟨m, _, h⟩
  · rw [h]; simp
  · rw [h]
    unfold Dk.write
    have ht : (Dk.tick d).2.done ≤ d.done + 1 := by
      unfold Dk.tick
      split <;> simp
    split <;> exact ht
theorem adds_done (name : List UInt8) : ∀ (ts : List (List UInt8)) (d : Disk), (adds d name ts).2.done ≤ d.done + ts.length
  | [], d => by simp [adds]
  | t :: ts, d => by
    simp only [adds]
    have h1 := raw_done d 0 name [] t
    split
    · have h2 := adds_done name ts (Dk.raw d 0 name [] t).2
      rw [List.length_cons]
      omega
    · rw [List.length_cons]; omega
theorem chunks_flat (fr : List UInt8) (k : Nat) : ((List.range k).map (chunkOf fr)).flatten = fr.take (k * 4096) := by
  induction k with
  | zero => simp
  | succ k ih =>
    rw [List.range_succ, List.map_append, List.flatten_append, ih]
    simp only [List.map_cons, List.map_nil, List.flatten_cons, List.flatten_nil, List.append_nil, chunkOf]
    rw [Nat.succ_mul, List.take_add]
theorem chunksOf_flat (fr : List UInt8) : (chunksOf fr).flatten = fr := by
  unfold chunksOf
  rw [chunks_flat, List.take_of_length_le (by omega)]
theorem chunksOf_length (fr : List UInt8) : (chunksOf fr).length = (fr.length + 4095) / 4096 := by simp [chunksOf]
theorem chunksOf_cons {fr : List UInt8} (h : 0 < fr.length) : ∃ t ts, chunksOf fr = t :: ts := by
  cases hc : chunksOf fr with
  | nil =>
    have := chunksOf_length fr
    rw [hc, List.length_nil] at this
    omega
  | cons t ts => exact ⟨t, ts, rfl⟩
theorem look_put {l : List File} {f : File} (hr : Dk.Rising l) (m : List UInt8) : Dk.look (Dk.put l f) m = if f.name = m then some f else Dk.look l m := by
  have hp := Dk.put_rising f hr
  by_cases h : f.name = m
  · rw [if_pos h, ← h]
    exact Dk.look_mem hp (Dk.put_self l f)
  · rw [if_neg h]
    cases hx : Dk.look l m with
    | some g =>
      obtain ⟨h1, h2⟩ := Dk.look_some hx
      have h3 := Dk.look_mem hp (Dk.put_keeps h1 (by rw [h2]; exact fun e => h e.symm))
      rw [h2] at h3
      exact h3
    | none =>
      cases hy : Dk.look (Dk.put l f) m with
      | none => rfl
      | some g =>
        obtain ⟨h1, h2⟩ := Dk.look_some hy
        rcases Dk.put_mem h1 with h3 | ⟨h3, _⟩
        · exact absurd (by rw [← h3]; exact h2) h
        · exact absurd h2 (Dk.look_none hx g h3)
theorem frame_pos (B : List UInt8) : 5 ≤ (frame B).length := by
  have h1 := frame_length B
  have h2 := num_pos B.length
  omega
end Go.Proofs.YthnebhddakfadaaGreatDoor
namespace Go.Proofs.YthnebhddakfadaaGreatDoor
open Go.RowKit

/-- k decimal digits. -/
def fixd : Nat → Nat → List UInt8
  | 0, _ => []
  | k + 1, n => fixd k (n / 10) ++ [UInt8.ofNat (48 + n % 10)]
theorem fixd_length : ∀ (k n : Nat), (fixd k n).length = k
  | 0, _ => rfl
  | k + 1, n => by rw [fixd, List.length_append, fixd_length k]; rfl
theorem repeat_snoc (k : Nat) : Lib.repeatL [48] (k + 1) = Lib.repeatL [48] k ++ [48] := by
  induction k with
  | zero => rfl
  | succ k ih =>
    show [48] ++ Lib.repeatL [48] (k + 1) = ([48] ++ Lib.repeatL [48] k) ++ [48]
    rw [ih, List.append_assoc]
theorem fixd_zero : ∀ (k : Nat), fixd k 0 = Lib.repeatL [48] k
  | 0 => rfl
  | k + 1 => by rw [fixd, Nat.zero_div, fixd_zero k, repeat_snoc]; rfl
theorem fixd_pad : ∀ (k n : Nat), 1 ≤ k → n < 10 ^ k → Lib.repeatL [48] (k - Lib.nDigits n) ++ Lib.decDigits n = fixd k n
  | 0, _, h, _ => absurd h (by omega)
  | k + 1, n, _, hn => by
    by_cases h1 : n < 10
    · rw [Lib.nDigits_small h1, Lib.decDigits_one h1, fixd, Nat.div_eq_of_lt h1, fixd_zero, Nat.mod_eq_of_lt h1, Nat.add_sub_cancel]
    · have hk : 1 ≤ k := by
        rcases Nat.eq_zero_or_pos k with rfl | h
        · simp at hn; omega
        · exact h
      have hd : n / 10 < 10 ^ k := by rw [Nat.pow_succ] at hn; omega
      rw [Lib.nDigits_big h1, Lib.decDigits, dif_neg h1, fixd, ← fixd_pad k (n / 10) hk hd, Nat.add_sub_add_right, List.append_assoc]
theorem segName_fix {n : Int} (h : isSeg n = true) : segName n = [119, 97, 108, 47] ++ fixd 13 n.toNat := by
  have hb : 0 ≤ n ∧ n ≤ 1099511627776 := by simpa [isSeg] using h
  have hi : Lib.itoa n = Lib.decDigits n.toNat := by unfold Lib.itoa; rw [if_neg (by omega)]
  unfold segName
  rw [if_pos h, hi, Lib.decDigits_length, List.append_assoc, fixd_pad 13 n.toNat (by omega) (by have e : (10 : Nat) ^ 13 = 10000000000000 := rfl; omega)]
theorem dig_lt {a b : Nat} (ha : a < 10) (hb : b < 10) (h : a < b) : (UInt8.ofNat (48 + a)).toNat < (UInt8.ofNat (48 + b)).toNat := by
  rw [UInt8.toNat_ofNat', UInt8.toNat_ofNat']; omega
theorem less_snoc : ∀ {x y : List UInt8} (a b : UInt8), x.length = y.length → (less x y = true ∨ (x = y ∧ a.toNat < b.toNat)) → less (x ++ [a]) (y ++ [b]) = true
  | [], [], a, b, _, h => by
    rcases h with h | ⟨_, h⟩
    · cases h
    · exact less_cons.2 (.inl h)
  | c :: x, d :: y, a, b, hl, h => by
    have hl' : x.length = y.length := by simpa using hl
    rcases h with h | ⟨h1, h2⟩
    · rcases less_cons.1 h with h3 | ⟨h3, h4⟩
      · exact less_cons.2 (.inl h3)
      · exact less_cons.2 (.inr ⟨h3, less_snoc a b hl' (.inl h4)⟩)
    · cases h1
      exact less_cons.2 (.inr ⟨rfl, less_snoc a b rfl (.inr ⟨rfl, h2⟩)⟩)
  | [], _ :: _, _, _, hl, _ => by simp at hl
  | _ :: _, [], _, _, hl, _ => by simp at hl
theorem fixd_less : ∀ (k a b : Nat), a < 10 ^ k → b < 10 ^ k → a < b → less (fixd k a) (fixd k b) = true
  | 0, a, b, ha, hb, h => by simp at ha hb; omega
  | k + 1, a, b, ha, hb, h => by
    rw [Nat.pow_succ] at ha hb
    rw [fixd, fixd]
    refine less_snoc _ _ (by rw [fixd_length, fixd_length]) ?_
    by_cases h1 : a / 10 = b / 10
    · exact .inr ⟨by rw [h1], dig_lt (Nat.mod_lt _ (by decide)) (Nat.mod_lt _ (by decide)) (by omega)⟩
    · exact .inl (fixd_less k _ _ (by omega) (by omega) (by omega))
theorem seg_less {a b : Int} (ha : isSeg a = true) (hb : isSeg b = true) (h : a < b) : less (segName a) (segName b) = true := by
  have h1 : 0 ≤ a ∧ a ≤ 1099511627776 := by simpa [isSeg] using ha
  have h2 : 0 ≤ b ∧ b ≤ 1099511627776 := by simpa [isSeg] using hb
  rw [segName_fix ha, segName_fix hb, less_pre]
  have e : (10 : Nat) ^ 13 = 10000000000000 := rfl
  exact fixd_less 13 _ _ (by omega) (by omega) (by omega)
theorem seg_inj {a b : Int} (ha : isSeg a = true) (hb : isSeg b = true) (h : segName a = segName b) : a = b := by
  rcases Int.lt_trichotomy a b with h1 | h1 | h1
  · have := seg_less ha hb h1; rw [h, less_irrefl] at this; cases this
  · exact h1
  · have := seg_less hb ha h1; rw [h, less_irrefl] at this; cases this
theorem decFrom_append : ∀ (x : List UInt8) (acc : Nat) (y : List UInt8), Lib.decFrom acc (x ++ y) = (Lib.decFrom acc x).bind fun m => Lib.decFrom m y
  | [], acc, y => rfl
  | b :: x, acc, y => by
    simp only [List.cons_append, Lib.decFrom]
    cases Lib.digitVal b with
    | none => rfl
    | some d => exact decFrom_append x _ y
theorem dig_val {d : Nat} (h : d < 10) : Lib.digitVal (UInt8.ofNat (48 + d)) = some d := by
  have e : (UInt8.ofNat (48 + d)).toNat = 48 + d := by rw [UInt8.toNat_ofNat']; omega
  unfold Lib.digitVal
  rw [e, if_pos (by omega)]
  congr 1
  omega
theorem decFrom_fixd : ∀ (k n : Nat), n < 10 ^ k → Lib.decFrom 0 (fixd k n) = some n
  | 0, n, h => by simp at h; subst h; rfl
  | k + 1, n, h => by
    rw [Nat.pow_succ] at h
    rw [fixd, decFrom_append, decFrom_fixd k (n / 10) (by omega)]
    simp only [Option.bind_some, Lib.decFrom, dig_val (Nat.mod_lt n (by decide))]
    congr 1
    omega
theorem fixd_head (k n : Nat) : ∃ d t, fixd (k + 1) n = UInt8.ofNat (48 + d) :: t ∧ d < 10 := by
  induction k generalizing n with
  | zero => exact ⟨n % 10, [], rfl, Nat.mod_lt _ (by decide)⟩
  | succ k ih =>
    obtain ⟨d, t, h1, h2⟩ := ih (n / 10)
    exact ⟨d, t ++ [UInt8.ofNat (48 + n % 10)], by rw [fixd, h1]; rfl, h2⟩
theorem atoi_fixd (n : Nat) (h : n < 10 ^ 13) : Lib.atoi (fixd 13 n) = some (n : Int) := by
  obtain ⟨d, t, h1, h2⟩ := fixd_head 12 n
  have h3 := decFrom_fixd 13 n h
  rw [h1] at h3 ⊢
  have e : (UInt8.ofNat (48 + d)).toNat = 48 + d := by rw [UInt8.toNat_ofNat']; omega
  have n1 : (UInt8.ofNat (48 + d) == 45) = false := by
    rw [beq_eq_false_iff_ne]; intro h; have := congrArg UInt8.toNat h; rw [e] at this; simp at this; omega
  have n2 : (UInt8.ofNat (48 + d) == 43) = false := by
    rw [beq_eq_false_iff_ne]; intro h; have := congrArg UInt8.toNat h; rw [e] at this; simp at this; omega
  simp only [Lib.atoi, n1, n2, Bool.false_eq_true, if_false, Lib.decNat, List.isEmpty_cons, h3, Option.map_some]
theorem atoi_seg {n : Int} (h : isSeg n = true) : Lib.atoi (fixd 13 n.toNat) = some n := by
  have hb : 0 ≤ n ∧ n ≤ 1099511627776 := by simpa [isSeg] using h
  rw [atoi_fixd n.toNat (by have e : (10 : Nat) ^ 13 = 10000000000000 := rfl; omega)]
  congr 1
  omega
end Go.Proofs.YthnebhddakfadaaGreatDoor
namespace Go.Proofs.YthnebhddakfadaaGreatDoor
open Go.RowKit
open Dk (File Disk)

/-- The files' names: of a version; of what says which counts; of what is being written; of a table. -/
def manN (g : Int) : List UInt8 := [109, 97, 110, 47] ++ digs g
def curN : List UInt8 := [99, 117, 114]
def tmpN : List UInt8 := [99, 117, 114, 126]
theorem digs_fix {n : Int} (h : isSeg n = true) : digs n = fixd 13 n.toNat := by
  have h1 := segName_fix h
  rw [seg_digs h] at h1
  exact List.append_cancel_left h1
theorem digs_inj {a b : Int} (ha : isSeg a = true) (hb : isSeg b = true) (h : digs a = digs b) : a = b :=
  seg_inj ha hb (by rw [seg_digs ha, seg_digs hb, h])
theorem digs_zero {n : Int} (h : isSeg n = true) : ∀ x ∈ digs n, x ≠ 0 := fun x hx => by
  have h1 := segName_named h
  unfold Dk.named at h1
  simp only [Bool.and_eq_true, List.all_eq_true] at h1
  have h2 := h1.2 x (by rw [seg_digs h]; exact List.mem_append_right _ hx)
  simpa using h2
/-- A folder's name ahead of digits. -/
theorem folder_named {fo : List UInt8} (h1 : fo.length ≤ 50) (h0 : ∀ x ∈ fo, x ≠ 0) {n : Int} (h : isSeg n = true) : Dk.named (fo ++ digs n) = true := by
  have hl := digs_len h
  unfold Dk.named
  rw [List.length_append, hl]
  simp only [Bool.and_eq_true, decide_eq_true_eq, List.all_eq_true]
  refine ⟨⟨by omega, by omega⟩, fun x hx => ?_⟩
  rcases List.mem_append.1 hx with hx | hx
  · simpa using h0 x hx
  · simpa using digs_zero h x hx
theorem manN_named {n : Int} (h : isSeg n = true) : Dk.named (manN n) = true := folder_named (by decide) (by intro x hx; rintro rfl; simp at hx) h
theorem curN_named : Dk.named curN = true := rfl
theorem tmpN_named : Dk.named tmpN = true := rfl
theorem manN_len {n : Int} (h : isSeg n = true) : (manN n).length = 17 := by unfold manN; rw [List.length_append, digs_len h]; rfl
theorem manN_inj {a b : Int} (ha : isSeg a = true) (hb : isSeg b = true) (h : manN a = manN b) : a = b := digs_inj ha hb (List.append_cancel_left h)
theorem manN_cur (g : Int) : manN g ≠ curN := fun e => by
  have := congrArg (fun l => l.head?) e
  simp [manN, curN] at this
theorem manN_tmp (g : Int) : manN g ≠ tmpN := fun e => by
  have := congrArg (fun l => l.head?) e
  simp [manN, tmpN] at this
theorem cur_tmp : curN ≠ tmpN := by decide
/-- What stands behind the first slash. -/
def tailOf : List UInt8 → List UInt8
  | [] => []
  | c :: t => if c = 47 then t else tailOf t
/-- The number that a text says; the number of a file's name. -/
def saidOf (l : List UInt8) : Int := match Lib.atoiAll l with
  | .ok v => v
  | .syntax => 0
  | .range => Lib.atoiSat l
def numOf (l : List UInt8) : Int := saidOf (tailOf l)
/-- Is it the name, in that folder, of the number that it says? -/
def inF (fo : List UInt8) (l : List UInt8) : Bool := isSeg (numOf l) && decide (fo ++ digs (numOf l) = l)
theorem said_digs {n : Int} (h : isSeg n = true) : saidOf (digs n) = n := by
  have h1 := atoi_seg h
  have h2 : Lib.atoiAll (digs n) = .ok n := by
    rw [Lib.atoiAll_short _ (by rw [digs_len h]; decide), digs_fix h, h1]
    rfl
  unfold saidOf
  rw [h2]
theorem tail_folder (a b c : UInt8) (ha : a ≠ 47) (hb : b ≠ 47) (hc : c ≠ 47) (t : List UInt8) : tailOf ([a, b, c, 47] ++ t) = t := by
  simp [tailOf, ha, hb, hc]
theorem num_man {n : Int} (h : isSeg n = true) : numOf (manN n) = n := by
  unfold numOf manN
  rw [tail_folder 109 97 110 (by decide) (by decide) (by decide), said_digs h]
def isMan (l : List UInt8) : Bool := inF [109, 97, 110, 47] l
theorem isMan_yes {n : Int} (h : isSeg n = true) : isMan (manN n) = true := by
  unfold isMan inF
  rw [num_man h, h, Bool.true_and, decide_eq_true_eq]
  rfl
theorem isMan_form {l : List UInt8} (h : isMan l = true) : ∃ n, isSeg n = true ∧ l = manN n := by
  unfold isMan inF at h
  simp only [Bool.and_eq_true, decide_eq_true_eq] at h
  exact ⟨_, h.1, h.2.symm⟩
theorem isMan_cur : isMan curN = false := by
  cases h : isMan curN with
  | false => rfl
  | true => obtain ⟨n, _, e⟩ := isMan_form h; exact absurd e.symm (manN_cur n)
/-- What no raw write on the names of P turns. -/
structure Far (P : List UInt8 → Prop) (k : Nat) (d D : Disk) : Prop where
  good : Dk.Good D
  look : ∀ n, ¬ P n → Dk.look D.files n = Dk.look d.files n
  cap : D.cap = d.cap
  done : D.done ≤ d.done + k
theorem Far.refl (P : List UInt8 → Prop) {d : Disk} (g : Dk.Good d) : Far P 0 d d := ⟨g, fun _ _ => rfl, rfl, Nat.le_refl _⟩
theorem Far.trans {P : List UInt8 → Prop} {j k : Nat} {d D E : Disk} (h : Far P j d D) (i : Far P k D E) : Far P (j + k) d E :=
  ⟨i.good, fun n hn => (i.look n hn).trans (h.look n hn), i.cap.trans h.cap, by have := h.done; have := i.done; omega⟩
theorem Far.wide {P Q : List UInt8 → Prop} {j k : Nat} {d D : Disk} (h : Far P j d D) (hP : ∀ n, P n → Q n) (hk : j ≤ k) : Far Q k d D :=
  ⟨h.good, fun n hn => h.look n (fun e => hn (hP n e)), h.cap, by have := h.done; omega⟩
theorem plan_look {c : Nat} {l m : List File} {dark : Bool} {k : Nat} {a b t : List UInt8} (hr : Dk.Rising l) (h : Dk.plan c l dark k a b t = .inr m) {n : List UInt8} (ha : n ≠ a) (hb : k = 2 → n ≠ b) : Dk.look m n = Dk.look l n := by
  unfold Dk.plan at h
  split at h
  · obtain ⟨_, _, h⟩ := Dk.guard_inr h
    unfold Dk.planAppend at h
    split at h
    · rename_i f hf
      split at h
      · cases h
      · cases h
        rw [look_put hr, if_neg (by show ¬ f.name = n; rw [(Dk.look_some hf).2]; exact fun e => ha e.symm)]
    · split at h
      · cases h
      · cases h
        rw [look_put hr, if_neg (fun e => ha e.symm)]
  · obtain ⟨_, _, h⟩ := Dk.guard_inr h
    unfold Dk.planSync at h
    split at h
    · rename_i f hf
      cases h
      rw [look_put hr, if_neg (by show ¬ f.name = n; rw [(Dk.look_some hf).2]; exact fun e => ha e.symm)]
    · cases h
  · obtain ⟨_, _, h⟩ := Dk.guard_inr h
    unfold Dk.planRename at h
    split at h
    · rename_i f hf
      split at h
      · cases h
      · cases h
        rw [look_put (Dk.drop_rising _ hr), if_neg (fun e => hb rfl e.symm), Dk.look_drop (fun e => ha e.symm)]
    · cases h
  · obtain ⟨_, _, h⟩ := Dk.guard_inr h
    unfold Dk.planRemove at h
    split at h
    · cases h
      rw [Dk.look_drop (fun e => ha e.symm)]
    · cases h
theorem write_files (d : Disk) (l : List File) : ((Dk.write d l).1 = 0 ∧ (Dk.write d l).2.files = l) ∨ ((Dk.write d l).1 = 5 ∧ (Dk.write d l).2.files = d.files) := by
  unfold Dk.write
  split
  · exact .inl ⟨rfl, rfl⟩
  · exact .inr ⟨rfl, (Dk.tick_files d).1⟩
theorem write_cap (d : Disk) (l : List File) : (Dk.write d l).2.cap = d.cap := by
  unfold Dk.write
  split
  · exact (Dk.tick_files d).2
  · exact (Dk.tick_files d).2
theorem raw_cap (d : Disk) (k : Nat) (a b t : List UInt8) : (Dk.raw d k a b t).2.cap = d.cap := by
  rcases Dk.raw_cases d k a b t with ⟨e, _, h⟩ | ⟨m, _, h⟩
  · rw [h]
  · rw [h, write_cap]
theorem raw_far {d : Disk} (g : Dk.Good d) (k : Nat) (a b t : List UInt8) : Far (fun n => n = a ∨ (k = 2 ∧ n = b)) 1 d (Dk.raw d k a b t).2 := by
  refine ⟨Dk.raw_good k a b t g, fun n hn => ?_, raw_cap d k a b t, raw_done d k a b t⟩
  rcases Dk.raw_cases d k a b t with ⟨e, _, h⟩ | ⟨m, hp, h⟩
  · rw [h]
  · rw [h]
    rcases write_files d m with ⟨_, hm⟩ | ⟨_, hm⟩
    · rw [hm]
      exact plan_look g.rising hp (fun e => hn (.inl e)) (fun hk e => hn (.inr ⟨hk, e⟩))
    · rw [hm]
theorem plan_err {c : Nat} {l : List File} {dark : Bool} {k : Nat} {a b t : List UInt8} {e : Nat} (h : Dk.plan c l dark k a b t = .inl e) : e ≠ 0 := by
  have hg : ∀ (ok : Bool) (r : Nat ⊕ List File), (∀ e, r = .inl e → e ≠ 0) → Dk.guard dark ok r = .inl e → e ≠ 0 := fun ok r hr h => by
    unfold Dk.guard at h
    split at h
    · split at h
      · cases h; decide
      · exact hr e h
    · cases h; decide
  unfold Dk.plan at h
  split at h
  · refine hg _ _ (fun e he => ?_) h
    unfold Dk.planAppend at he
    split at he <;> split at he <;> cases he <;> decide
  · refine hg _ _ (fun e he => ?_) h
    unfold Dk.planSync at he
    split at he <;> cases he
    decide
  · refine hg _ _ (fun e he => ?_) h
    unfold Dk.planRename at he
    split at he
    · split at he <;> cases he
      decide
    · cases he; decide
  · refine hg _ _ (fun e he => ?_) h
    unfold Dk.planRemove at he
    split at he <;> cases he
    decide
/-- A raw write that is answered OK is done. -/
theorem raw_ok {d : Disk} {k : Nat} {a b t : List UInt8} (h : (Dk.raw d k a b t).1 = 0) : ∃ m, Dk.plan d.cap d.files d.dark k a b t = .inr m ∧ (Dk.raw d k a b t).2.files = m := by
  rcases Dk.raw_cases d k a b t with ⟨e, hp, hx⟩ | ⟨m, hp, hx⟩
  · rw [hx] at h
    exact absurd h (plan_err hp)
  · refine ⟨m, hp, ?_⟩
    rw [hx] at h ⊢
    rcases write_files d m with ⟨_, hm⟩ | ⟨h5, _⟩
    · exact hm
    · rw [h5] at h; cases h
theorem append_ok {d : Disk} (g : Dk.Good d) {N t b : List UInt8} (h : (Dk.raw d 0 N b t).1 = 0) : Dk.look (Dk.raw d 0 N b t).2.files N = match Dk.look d.files N with
    | some f => some { f with bytes := f.bytes ++ t }
    | none => some ⟨N, 0, t⟩ := by
  obtain ⟨m, hp, hm⟩ := raw_ok h
  rw [hm]
  obtain ⟨_, _, hp⟩ := Dk.guard_inr (show Dk.guard d.dark (Dk.named N && decide (t.length ≤ 4096)) (Dk.planAppend d.cap d.files N t) = .inr m from hp)
  unfold Dk.planAppend at hp
  split at hp
  · rename_i f hf
    split at hp
    · cases hp
    · cases hp
      rw [look_put g.rising, hf]
      exact if_pos (Dk.look_some hf).2
  · rename_i hf
    split at hp
    · cases hp
    · cases hp
      rw [look_put g.rising, hf]
      exact if_pos rfl
theorem sync_ok {d : Disk} (g : Dk.Good d) {N t b : List UInt8} (h : (Dk.raw d 1 N b t).1 = 0) {f : File} (hf : Dk.look d.files N = some f) : Dk.look (Dk.raw d 1 N b t).2.files N = some { f with safe := f.bytes.length } := by
  obtain ⟨m, hp, hm⟩ := raw_ok h
  rw [hm]
  obtain ⟨_, _, hp⟩ := Dk.guard_inr (show Dk.guard d.dark (Dk.named N) (Dk.planSync d.files N) = .inr m from hp)
  unfold Dk.planSync at hp
  rw [hf] at hp
  cases hp
  rw [look_put g.rising]
  exact if_pos (Dk.look_some hf).2
theorem rename_ok {d : Disk} (g : Dk.Good d) {a b t : List UInt8} (h : (Dk.raw d 2 a b t).1 = 0) (hab : a ≠ b) : ∃ f, Dk.look d.files a = some f ∧ Dk.look (Dk.raw d 2 a b t).2.files b = some { f with name := b } ∧ Dk.look (Dk.raw d 2 a b t).2.files a = none := by
  obtain ⟨f, h1, h2, h3⟩ := Dk.rename_moves g h
  refine ⟨f, h1, h2, ?_⟩
  cases hx : Dk.look (Dk.raw d 2 a b t).2.files a with
  | none => rfl
  | some q => exact absurd (h3.1 (by rw [hx]; rfl)) hab
theorem remove_ok {d : Disk} {a b t : List UInt8} (h : (Dk.raw d 3 a b t).1 = 0) : Dk.look (Dk.raw d 3 a b t).2.files a = none := by
  obtain ⟨m, hp, hm⟩ := raw_ok h
  rw [hm]
  obtain ⟨_, _, hp⟩ := Dk.guard_inr (show Dk.guard d.dark (Dk.named a) (Dk.planRemove d.files a) = .inr m from hp)
  unfold Dk.planRemove at hp
  split at hp
  · cases hp
    exact Dk.look_dropped _ _
  · cases hp
/-- A removal makes no file. -/
theorem remove_less {d : Disk} (g : Dk.Good d) (a b t : List UInt8) {n : List UInt8} (h : Dk.look d.files n = none) : Dk.look (Dk.raw d 3 a b t).2.files n = none := by
  by_cases hn : n = a
  · subst hn
    by_cases h0 : (Dk.raw d 3 n b t).1 = 0
    · exact remove_ok h0
    · rw [Dk.raw_refused h0]; exact h
  · rw [(raw_far g 3 a b t).look n (fun e => e.elim hn (fun e => by cases e.1))]
    exact h

/-- Files removed of which it is told so, by name, up to the first error. -/
def rmv (p : List UInt8 → Bool) (d : Disk) : List (List UInt8) → Nat × Disk
  | [] => (0, d)
  | n :: t => if p n then (if (Dk.raw d 3 n [] []).1 = 0 then rmv p (Dk.raw d 3 n [] []).2 t else Dk.raw d 3 n [] []) else rmv p d t
def namesOf (d : Disk) : List (List UInt8) := d.files.map (·.name)
def rmvAll (p : List UInt8 → Bool) (d : Disk) : Nat × Disk := rmv p d (namesOf d)
theorem rmv_far (p : List UInt8 → Bool) : ∀ (ns : List (List UInt8)) (d : Disk), Dk.Good d → Far (fun n => p n = true) ns.length d (rmv p d ns).2
  | [], d, g => Far.refl _ g
  | n :: t, d, g => by
    have hr := (raw_far g 3 n [] []).wide (Q := fun m => m = n) (fun m e => e.elim id (fun e => by cases e.1)) (Nat.le_refl _)
    simp only [rmv, List.length_cons]
    split
    · rename_i hp
      have hr2 := hr.wide (Q := fun m => p m = true) (fun m e => by rw [e]; exact hp) (Nat.le_refl _)
      split
      · exact (hr2.trans (rmv_far p t _ hr.good)).wide (fun _ e => e) (by omega)
      · exact hr2.wide (fun _ e => e) (by omega)
    · exact (rmv_far p t d g).wide (fun _ e => e) (by omega)
theorem rmv_less (p : List UInt8 → Bool) : ∀ (ns : List (List UInt8)) (d : Disk), Dk.Good d → ∀ n, Dk.look d.files n = none → Dk.look (rmv p d ns).2.files n = none
  | [], d, g, n, h => h
  | m :: t, d, g, n, h => by
    simp only [rmv]
    split
    · split
      · exact rmv_less p t _ (Dk.raw_good 3 m [] [] g) n (remove_less g m [] [] h)
      · exact remove_less g m [] [] h
    · exact rmv_less p t d g n h
theorem rmv_ok (p : List UInt8 → Bool) : ∀ (ns : List (List UInt8)) (d : Disk), Dk.Good d → (rmv p d ns).1 = 0 → ∀ n ∈ ns, p n = true → Dk.look (rmv p d ns).2.files n = none
  | [], _, _, _, n, hn, _ => by cases hn
  | m :: t, d, g, h, n, hn, hp => by
    simp only [rmv] at h ⊢
    rcases List.mem_cons.1 hn with rfl | hn
    · rw [if_pos hp] at h ⊢
      split at h
      · rename_i h0
        rw [if_pos h0]
        exact rmv_less p t _ (Dk.raw_good 3 n [] [] g) n (remove_ok h0)
      · rename_i h0
        exact absurd h h0
    · split
      · rename_i hm
        rw [if_pos hm] at h
        split at h
        · rename_i h0
          rw [if_pos h0]
          exact rmv_ok p t _ (Dk.raw_good 3 m [] [] g) h n hn hp
        · rename_i h0
          exact absurd h h0
      · rename_i hm
        rw [if_neg hm] at h
        exact rmv_ok p t d g h n hn hp
theorem files_cap {d : Disk} (g : Dk.Good d) : d.files.length ≤ d.cap := by
  have h : ∀ l : List File, l.length ≤ Dk.used l := fun l => by
    induction l with
    | nil => exact Nat.le_refl _
    | cons f t ih => simp only [List.length_cons, Dk.used, Dk.cost]; omega
  exact Nat.le_trans (h _) g.room
theorem rmvAll_far (p : List UInt8 → Bool) {d : Disk} (g : Dk.Good d) : Far (fun n => p n = true) d.cap d (rmvAll p d).2 :=
  (rmv_far p _ d g).wide (fun _ e => e) (by unfold namesOf; rw [List.length_map]; exact files_cap g)
theorem rmvAll_ok {p : List UInt8 → Bool} {d : Disk} (g : Dk.Good d) (h : (rmvAll p d).1 = 0) {n : List UInt8} (hp : p n = true) : Dk.look (rmvAll p d).2.files n = none := by
  cases hx : Dk.look d.files n with
  | none => exact rmv_less p _ d g n hx
  | some f =>
    obtain ⟨h1, h2⟩ := Dk.look_some hx
    exact rmv_ok p _ d g h n (List.mem_map.2 ⟨f, h1, h2⟩) hp
theorem adds_far (N : List UInt8) : ∀ (ts : List (List UInt8)) (d : Disk), Dk.Good d → Far (fun n => n = N) ts.length d (adds d N ts).2
  | [], d, g => Far.refl _ g
  | t :: ts, d, g => by
    have hr := (raw_far g 0 N [] t).wide (Q := fun m => m = N) (fun m e => e.elim id (fun e => by cases e.1)) (Nat.le_refl _)
    simp only [adds, List.length_cons]
    split
    · exact (hr.trans (adds_far N ts _ hr.good)).wide (fun _ e => e) (by omega)
    · exact hr.wide (fun _ e => e) (by omega)
theorem walGo_far {d : Disk} (g : Dk.Good d) (N fr : List UInt8) : Far (fun n => n = N) (fr.length + 1) d (walGo d N fr).2 := by
  have h1 := (adds_far N (chunksOf fr) d g).wide (Q := fun n => n = N) (k := fr.length) (fun _ e => e) (by rw [chunksOf_length]; omega)
  unfold walGo
  split
  · exact h1.trans ((raw_far h1.good 1 N [] []).wide (fun m e => e.elim id (fun e => by cases e.1)) (Nat.le_refl _))
  · exact h1.wide (fun _ e => e) (by omega)
theorem adds_on {N : List UInt8} {s : Nat} : ∀ (ts : List (List UInt8)) (d : Disk) (y : List UInt8), Dk.Good d → (adds d N ts).1 = 0 → Dk.look d.files N = some ⟨N, s, y⟩ → Dk.look (adds d N ts).2.files N = some ⟨N, s, y ++ ts.flatten⟩
  | [], d, y, _, _, h => by rw [List.flatten_nil, List.append_nil]; exact h
  | t :: ts, d, y, g, h0, h => by
    simp only [adds] at h0 ⊢
    split at h0
    · rename_i h1
      rw [if_pos h1]
      have h2 := append_ok g h1
      rw [h] at h2
      rw [adds_on ts _ (y ++ t) (Dk.raw_good 0 N [] t g) h0 h2, List.flatten_cons, List.append_assoc]
    · rename_i h1
      exact absurd h0 h1
/-- A file laid anew, and sure. -/
theorem walGo_ok {d : Disk} (g : Dk.Good d) {N fr : List UInt8} (hf : 0 < fr.length) (h0 : (walGo d N fr).1 = 0) (hn : Dk.look d.files N = none) : Dk.look (walGo d N fr).2.files N = some ⟨N, fr.length, fr⟩ := by
  obtain ⟨t, ts, hc⟩ := chunksOf_cons hf
  have hfl := chunksOf_flat fr
  unfold walGo at h0 ⊢
  split at h0
  · rename_i h1
    rw [if_pos h1]
    have hA : Dk.look (adds d N (chunksOf fr)).2.files N = some ⟨N, 0, fr⟩ := by
      rw [hc] at h1 hfl ⊢
      simp only [adds] at h1 ⊢
      split at h1
      · rename_i h2
        rw [if_pos h2]
        have h3 := append_ok g h2
        rw [hn] at h3
        rw [adds_on ts _ t (Dk.raw_good 0 N [] t g) h1 h3, ← hfl, List.flatten_cons]
      · rename_i h2
        exact absurd h1 h2
    exact sync_ok (adds_far N _ d g).good h0 hA
  · rename_i h1
    exact absurd h0 h1
/-- Files laid, one behind the other, up to the first error. -/
def wrt (d : Disk) : List (List UInt8 × List UInt8) → Nat × Disk
  | [] => (0, d)
  | f :: t => if (walGo d f.1 f.2).1 = 0 then wrt (walGo d f.1 f.2).2 t else walGo d f.1 f.2
end Go.Proofs.YthnebhddakfadaaGreatDoor
namespace Go.Proofs.YthnebhddakfadaaGreatDoor
open Go.RowKit
open Dk (File Disk)

theorem idx_tail : ∀ (S : List UInt8), (Lib.indexByte S 47 = -1 ∧ tailOf S = []) ∨ ∃ k : Nat, Lib.indexByte S 47 = (k : Int) ∧ k < S.length ∧ S.drop (k + 1) = tailOf S
  | [] => .inl ⟨rfl, rfl⟩
  | c :: t => by
    by_cases hc : c = 47
    · subst hc
      exact .inr ⟨0, by simp [Lib.indexByte], by simp, by simp [tailOf]⟩
    · have hb : (c == 47) = false := by simpa using hc
      rcases idx_tail t with ⟨h1, h2⟩ | ⟨k, h1, h2, h3⟩
      · exact .inl ⟨by simp [Lib.indexByte, hb, h1], by simp [tailOf, hc, h2]⟩
      · refine .inr ⟨k + 1, ?_, by simpa using h2, by simp [tailOf, hc, h3]⟩
        have hn : ((k : Int) == -1) = false := by rw [beq_eq_false_iff_ne]; omega
        simp [Lib.indexByte, hb, h1, hn]
set_option maxHeartbeats 1000000 in
set_option maxRecDepth 100000 in
theorem sindex_all (S : List UInt8) (w : World) :
    Calls Tryz.prog 172 #[.string ⟨S.toArray⟩, .string ⟨#[47]⟩] w fun e w' => e = .returned (.int .i64 (Lib.indexByte S 47)) ∧ w' = w := by
  by_cases h : S = [47]
  · subst h
    go_enter Tryz.func172, Tryz.ntmps172
    go_wp2
    go_ret
    exact ⟨rfl, rfl⟩
  · exact sindex_any S w (by rw [beq_eq_false_iff_ne]; exact fun e => h e.symm)
theorem drop_str (S : List UInt8) (k n : Nat) (hn : n = S.length) : (⟨S.toArray⟩ : ByteArray).extract k n = ⟨(S.drop k).toArray⟩ := by
  apply ByteArray.ext
  rw [ByteArray.data_extract]
  apply Array.ext'
  simp
  exact List.take_of_length_le (by rw [List.length_drop]; omega)
set_option maxHeartbeats 1000000 in
set_option maxRecDepth 100000 in
theorem scut_all (S : List UInt8) (hl : S.length ≤ 4611686018427387904) (w : World) :
    Calls Tryz.prog 136 #[.string ⟨S.toArray⟩, .string ⟨#[47]⟩] w fun e w' => (∃ x, e = .returned (.tuple #[.string x, .string ⟨(tailOf S).toArray⟩, .bool (decide (0 ≤ Lib.indexByte S 47))])) ∧ Below w.heap.size w w' := by
  have SI := keep (sindex_all S w)
  rcases idx_tail S with ⟨h1, h2⟩ | ⟨k, h1, h2, h3⟩
  · rw [h1] at SI ⊢
    rw [h2]
    clear h1 h2
    go_enter Tryz.func136, Tryz.ntmps136
    go_wp2_with fail
    refine SI.out.mono ?_
    rintro e w1 ⟨rfl, rfl⟩
    go_wp2
    go_ret3
    exact ⟨⟨_, rfl⟩, Below.refl _ _⟩
  · rw [h1] at SI ⊢
    rw [← h3, decide_eq_true (by omega)]
    obtain ⟨n, hn⟩ : ∃ n, S.length = n := ⟨_, rfl⟩
    have e4 := drop_str S (k + 1) n hn.symm
    rw [hn] at h2 hl
    have k0 : (0 : Int) ≤ (k : Int) := by omega
    have k1 : (k : Int) ≤ (n : Int) := by omega
    have k2 : (k : Int) + 1 ≤ (n : Int) := by omega
    have k3 : IntKind.i64.wrap ((k : Int) + 1) = (k : Int) + 1 := wrap_small _ (by omega) (by omega)
    have k4 : (0 : Int) ≤ (k : Int) + 1 := by omega
    have k5 : ((k : Int) + 1).toNat = k + 1 := by omega
    have HE := keep e4
    clear h1 h3 e4
    go_enter Tryz.func136, Tryz.ntmps136
    go_wp2_with fail
    refine SI.out.mono ?_
    rintro e w1 ⟨rfl, rfl⟩
    go_wp2
    go_region
    all_goals go_wp2
    go_ret3
    rw [← HE.out]
    exact ⟨⟨_, rfl⟩, (Below.refl _ _).drew⟩
set_option maxHeartbeats 1000000 in
set_option maxRecDepth 100000 in
theorem cut_all (S : List UInt8) (hl : S.length ≤ 4611686018427387904) (w : World) :
    Calls Tryz.prog 92 #[.string ⟨S.toArray⟩, .string ⟨#[47]⟩] w fun e w' => (∃ x, e = .returned (.tuple #[.string x, .string ⟨(tailOf S).toArray⟩, .bool (decide (0 ≤ Lib.indexByte S 47))])) ∧ Below w.heap.size w w' := by
  have SC := keep (scut_all S hl w)
  obtain ⟨y, hy⟩ : ∃ y, decide (0 ≤ Lib.indexByte S 47) = y := ⟨_, rfl⟩
  rw [hy] at SC ⊢
  clear hy hl
  go_enter Tryz.func92, Tryz.ntmps92
  go_wp2_with fail
  refine SC.out.mono ?_
  rintro e w1 ⟨⟨x, rfl⟩, hb1⟩
  have B1 := keep hb1
  clear hb1
  go_wp2
  go_ret3
  exact ⟨⟨_, rfl⟩, B1.out⟩
/-- The name of a number's file in a folder. -/
def calledL (fo : List UInt8) (n : Int) : List UInt8 := if isSeg n then fo ++ digs n else []
set_option maxHeartbeats 1000000 in
set_option maxRecDepth 100000 in
theorem called_any (fo : List UInt8) (n : Int) (w : World) (ht : Tab w) (hf : fo.length ≤ 100) :
    Calls Tryz.prog 44 #[.string ⟨fo.toArray⟩, .int .i64 n] w fun e w' => e = .returned (.string ⟨(calledL fo n).toArray⟩) ∧ Below w.heap.size w w' := by
  cases h : isSeg n with
  | true =>
    unfold calledL
    rw [h, if_pos rfl]
    exact called_yes fo n w ht h hf
  | false =>
    unfold calledL
    rw [h, if_neg (by decide)]
    have NA := keep (name_any n w ht)
    rw [segName_none h] at NA
    have CW : Hid (∀ w, Calls Tryz.prog 92 #[.string ⟨([] : List UInt8).toArray⟩, .string ⟨#[47]⟩] w fun e w' => (∃ x, e = .returned (.tuple #[.string x, .string ⟨([] : List UInt8).toArray⟩, .bool false])) ∧ Below w.heap.size w w') := fun w => cut_all [] (by decide) w
    clear h ht
    go_enter Tryz.func44, Tryz.ntmps44
    go_wp2_with fail
    refine NA.out.mono ?_
    rintro e w1 ⟨rfl, hb1⟩
    have B1 := keep hb1
    clear hb1
    go_wp2_with fail
    refine (CW.out w1).mono ?_
    rintro e w2 ⟨⟨x, rfl⟩, hb2⟩
    have B2 := keep (B1.out.trans (hb2.mono B1.out.size))
    clear hb2
    go_wp2
    go_ret
    exact ⟨rfl, B2.out⟩
set_option maxHeartbeats 1000000 in
set_option maxRecDepth 100000 in
theorem version_any (n : Int) (w : World) (ht : Tab w) :
    Calls Tryz.prog 53 #[.int .i64 n] w fun e w' => e = .returned (.string ⟨(calledL [109, 97, 110, 47] n).toArray⟩) ∧ Below w.heap.size w w' := by
  have CA := keep (called_any [109, 97, 110, 47] n w ht (by decide))
  go_enter Tryz.func53, Tryz.ntmps53
  go_wp2_with fail
  refine CA.out.mono ?_
  rintro e w1 ⟨rfl, hb1⟩
  have B1 := keep hb1
  clear hb1 CA
  go_wp2
  go_ret
  exact ⟨rfl, B1.out⟩
set_option maxHeartbeats 1000000 in
set_option maxRecDepth 100000 in
theorem table_any (n : Int) (w : World) (ht : Tab w) :
    Calls Tryz.prog 17 #[.int .i64 n] w fun e w' => e = .returned (.string ⟨(calledL [116, 97, 98, 47] n).toArray⟩) ∧ Below w.heap.size w w' := by
  have CA := keep (called_any [116, 97, 98, 47] n w ht (by decide))
  go_enter Tryz.func17, Tryz.ntmps17
  go_wp2_with fail
  refine CA.out.mono ?_
  rintro e w1 ⟨rfl, hb1⟩
  have B1 := keep hb1
  clear hb1 CA
  go_wp2
  go_ret
  exact ⟨rfl, B1.out⟩
end Go.Proofs.YthnebhddakfadaaGreatDoor
