/- What a save leaves, and what stays of a version, over plain disks; no walk. -/
/- The walks of cat's isNone, written and cost. -/
import Derived.Test.YthnebhddakfadaaGreatDoorJoinFd
import Derived.Test.YthnebhddakfadaaGreatDoorJoinTf
import Derived.Test.YthnebhddakfadaaGreatDoorTj
import Derived.Test.YthnebhddakfadaaGreatDoorFe
import Derived.Test.YthnebhddakfadaaGreatDoorJoinHs
namespace Go.Proofs.YthnebhddakfadaaGreatDoor
open Go.RowKit
open Dk (File Disk)
open Ed (Ver)

/-- The files that a save writes; what they cost. -/
def verF (v : Ver) : List (List UInt8 × List UInt8) := [(manN v.gen, frame (Ed.verB v)), (tmpN, frame (num (cl v.gen)))]
def costF : List (List UInt8 × List UInt8) → Nat
  | [] => 0
  | f :: t => 16 + f.1.length + f.2.length + costF t
/-- Save, behind its tests. -/
def catGo (d : Disk) (v : Ver) : Nat × Disk :=
  if (rmvAll (fun n => n == tmpN || n == manN v.gen) d).1 = 0 then
    if (wrt (rmvAll (fun n => n == tmpN || n == manN v.gen) d).2 (verF v)).1 = 0 then
      if (Dk.raw (wrt (rmvAll (fun n => n == tmpN || n == manN v.gen) d).2 (verF v)).2 2 tmpN curN []).1 = 0 then
        rmvAll (fun n => isMan n && !(n == manN v.gen)) (Dk.raw (wrt (rmvAll (fun n => n == tmpN || n == manN v.gen) d).2 (verF v)).2 2 tmpN curN []).2
      else Dk.raw (wrt (rmvAll (fun n => n == tmpN || n == manN v.gen) d).2 (verF v)).2 2 tmpN curN []
    else wrt (rmvAll (fun n => n == tmpN || n == manN v.gen) d).2 (verF v)
  else rmvAll (fun n => n == tmpN || n == manN v.gen) d
def catSave (d : Disk) (v : Ver) : Nat × Disk :=
  if Ed.chk v = false ∨ v.gen = 0 then (1, d)
  else if d.dark then (5, d)
  else if (d.cap : Int) - (Dk.used d.files : Int) < (costF (verF v) : Int) then (4, d)
  else catGo d v
/-- The body of bytes that are one frame and no more. -/
def unf (l : List UInt8) : Option (List UInt8) := match tfr l l.length with
  | some (b, []) => some b
  | _ => none
def zeroVer : Ver := ⟨0, 0, 0, 0, []⟩
/-- The Gen that "cur" says. -/
def genOf (l : List UInt8) : Option Nat := match unf l with
  | some b => match takeNum b with
    | some (g, []) => some g
    | _ => none
  | none => none
/-- What a version's file says. -/
def verOf (g : Int) (l : List UInt8) : Option Ver := match unf l with
  | some b => if Ed.isVer b && decide ((Ed.rdV b).gen = g) then some (Ed.rdV b) else none
  | none => none
def catLoad (d : Disk) : Nat × Ver := match Dk.look d.files curN with
  | none => (0, zeroVer)
  | some f => match genOf f.bytes with
    | none => (2, zeroVer)
    | some g => match (if isSeg (g : Int) then Dk.look d.files (manN g) else none) with
      | none => (2, zeroVer)
      | some h => match verOf g h.bytes with
        | none => (2, zeroVer)
        | some v => (0, v)
theorem chk_seg {v : Ver} (h : Ed.chk v = true) : isSeg v.gen = true := by
  have h1 := (Ed.chk_parts h).1
  unfold Ed.isNum at h1
  exact h1
theorem unf_frame {b : List UInt8} (h : b.length < 4611686018427387904) : unf (frame b) = some b := by
  have h1 := frame_length b
  have h2 := tfr_frame (B := b) (R := []) (most := ((frame b).length : Int)) h (by omega)
  rw [List.append_nil] at h2
  unfold unf
  rw [h2]
theorem take_num_nil {n : Nat} (h : n < 4611686018427387904) : takeNum (num n) = some (n, []) := by
  have := takeNum_put (n := n) (r := []) h
  rwa [List.append_nil] at this
theorem ver_short {v : Ver} (h : Ed.chk v = true) : 0 < (Ed.verB v).length ∧ (Ed.verB v).length ≤ 1000000 := by
  obtain ⟨_, _, _, _, hno⟩ := Ed.chk_parts h
  have h1 := (Ed.notes_may2 hno).1
  have h2 := Ed.notesB_len (l := v.tabs) (fun m hm => (Ed.note_parts ((Ed.notes_may2 hno).2 m hm)).2.2.2)
  have h3 := Ed.numsB_len [v.gen, v.next, v.log, v.seq, (v.tabs.length : Int)]
  have h4 : 0 < (Ed.numsB [v.gen, v.next, v.log, v.seq, (v.tabs.length : Int)]).length := by
    have h5 := num_pos (cl v.gen)
    unfold Ed.numsB
    simp only [List.flatMap_cons, List.length_append]
    omega
  unfold Ed.verB
  rw [List.length_append]
  simp only [List.length_cons, List.length_nil] at h3
  omega
theorem gen_frame {g : Int} (h : isSeg g = true) : genOf (frame (num (cl g))) = some g.toNat ∧ ((g.toNat : Nat) : Int) = g := by
  have hb : 0 ≤ g ∧ g ≤ 1099511627776 := by simpa [isSeg] using h
  have hc : cl g = g.toNat := by unfold cl; omega
  have h9 := num9 g
  refine ⟨?_, by omega⟩
  unfold genOf
  rw [unf_frame (by omega)]
  simp only
  rw [hc, take_num_nil (by omega)]

/-- The version v counts, and is sure. -/
def Sure (d : Disk) (v : Ver) : Prop := (v = zeroVer ∧ Dk.look d.files curN = none) ∨ (Ed.chk v = true ∧ v.gen ≠ 0 ∧ Dk.look d.files curN = some ⟨curN, (frame (num (cl v.gen))).length, frame (num (cl v.gen))⟩ ∧ Dk.look d.files (manN v.gen) = some ⟨manN v.gen, (frame (Ed.verB v)).length, frame (Ed.verB v)⟩)
theorem Sure.load {d : Disk} {v : Ver} (h : Sure d v) : catLoad d = (0, v) := by
  rcases h with ⟨rfl, h⟩ | ⟨hc, h0, h1, h2⟩
  · unfold catLoad
    rw [h]
  · have hs := chk_seg hc
    obtain ⟨g1, g2⟩ := gen_frame hs
    have hl := ver_short hc
    unfold catLoad
    rw [h1]
    simp only
    rw [g1]
    simp only
    rw [g2, hs, if_pos rfl, h2]
    simp only
    have h3 : verOf v.gen (frame (Ed.verB v)) = some v := by
      unfold verOf
      rw [unf_frame (by omega)]
      simp only
      have hp := Ed.isVer_put hc
      rw [hp.1, hp.2]
      simp
    rw [h3]
theorem look_kept : ∀ {l : List File} (ps : List Nat) {n : List UInt8}, (Dk.look l n = none → Dk.look (Dk.keptAll l ps) n = none) ∧ ∀ f, Dk.look l n = some f → ∃ p, Dk.look (Dk.keptAll l ps) n = some (Dk.kept f p)
  | [], ps, n => by cases ps <;> exact ⟨fun _ => rfl, fun f h => by cases h⟩
  | g :: t, [], n => by
    have ih := look_kept (l := t) [] (n := n)
    simp only [Dk.look, Dk.keptAll]
    by_cases h : g.name = n
    · rw [if_pos h, if_pos (show (Dk.kept g 0).name = n from h)]
      refine ⟨fun h1 => ?_, fun f hf => ?_⟩
      · cases h1
      · cases hf
        exact ⟨0, rfl⟩
    · rw [if_neg h, if_neg (show ¬ (Dk.kept g 0).name = n from h)]
      exact ih
  | g :: t, p :: ps, n => by
    have ih := look_kept (l := t) ps (n := n)
    simp only [Dk.look, Dk.keptAll]
    by_cases h : g.name = n
    · rw [if_pos h, if_pos (show (Dk.kept g p).name = n from h)]
      refine ⟨fun h1 => ?_, fun f hf => ?_⟩
      · cases h1
      · cases hf
        exact ⟨p, rfl⟩
    · rw [if_neg h, if_neg (show ¬ (Dk.kept g p).name = n from h)]
      exact ih
theorem kept_sure (n b : List UInt8) (p : Nat) : Dk.kept ⟨n, b.length, b⟩ p = ⟨n, b.length, b⟩ := by
  simp [Dk.kept, Nat.mod_one]
theorem Sure.crash {d : Disk} {v : Ver} (h : Sure d v) (ps : List Nat) : Sure (Dk.crash d ps) v := by
  rcases h with ⟨h0, h⟩ | ⟨hc, h0, h1, h2⟩
  · exact .inl ⟨h0, (look_kept ps).1 h⟩
  · refine .inr ⟨hc, h0, ?_, ?_⟩
    · obtain ⟨p, hp⟩ := (look_kept (l := d.files) ps).2 _ h1
      rw [kept_sure] at hp
      exact hp
    · obtain ⟨p, hp⟩ := (look_kept (l := d.files) ps).2 _ h2
      rw [kept_sure] at hp
      exact hp
/-- What doesn't turn "cur", nor the version's file, leaves the version as it is. -/
theorem Sure.far {d D : Disk} {v : Ver} {P : List UInt8 → Prop} {k : Nat} (h : Sure d v) (hf : Far P k d D) (hc : ¬ P curN) (hm : v.gen ≠ 0 → ¬ P (manN v.gen)) : Sure D v := by
  rcases h with ⟨h0, h⟩ | ⟨hk, h0, h1, h2⟩
  · exact .inl ⟨h0, (hf.look _ hc).trans h⟩
  · exact .inr ⟨hk, h0, (hf.look _ hc).trans h1, (hf.look _ (hm h0)).trans h2⟩
theorem wrt_far {v : Ver} {d : Disk} (g : Dk.Good d) : Far (fun n => n = manN v.gen ∨ n = tmpN) ((frame (Ed.verB v)).length + (frame (num (cl v.gen))).length + 2) d (wrt d (verF v)).2 := by
  unfold verF
  simp only [wrt]
  have h1 := walGo_far g (manN v.gen) (frame (Ed.verB v))
  have h2 := walGo_far h1.good tmpN (frame (num (cl v.gen)))
  split
  · split
    · exact ((h1.wide (fun _ e => .inl e) (Nat.le_refl _)).trans (h2.wide (fun _ e => .inr e) (Nat.le_refl _))).wide (fun _ e => e) (by omega)
    · exact ((h1.wide (fun _ e => .inl e) (Nat.le_refl _)).trans (h2.wide (fun _ e => .inr e) (Nat.le_refl _))).wide (fun _ e => e) (by omega)
  · exact h1.wide (fun _ e => .inl e) (by omega)
theorem wrt_ok {v : Ver} {d : Disk} (g : Dk.Good d) (h : (wrt d (verF v)).1 = 0) (hm : Dk.look d.files (manN v.gen) = none) (ht : Dk.look d.files tmpN = none) :
    Dk.look (wrt d (verF v)).2.files (manN v.gen) = some ⟨manN v.gen, (frame (Ed.verB v)).length, frame (Ed.verB v)⟩ ∧ Dk.look (wrt d (verF v)).2.files tmpN = some ⟨tmpN, (frame (num (cl v.gen))).length, frame (num (cl v.gen))⟩ := by
  have f1 := frame_pos (Ed.verB v)
  have f2 := frame_pos (num (cl v.gen))
  unfold verF at h ⊢
  simp only [wrt] at h ⊢
  have h1 := walGo_far g (manN v.gen) (frame (Ed.verB v))
  have h2 := walGo_far h1.good tmpN (frame (num (cl v.gen)))
  split at h
  · rename_i a1
    rw [if_pos a1]
    split at h
    · rename_i a2
      rw [if_pos a2]
      have b1 := walGo_ok g (by omega) a1 hm
      have b2 := walGo_ok h1.good (by omega) a2 ((h1.look tmpN (fun e => manN_tmp _ e.symm)).trans ht)
      exact ⟨(h2.look _ (manN_tmp _)).trans b1, b2⟩
    · rename_i a2
      exact absurd h a2
  · rename_i a1
    exact absurd h a1
/-- How much a save may write. -/
theorem cat_far {d : Disk} {v : Ver} (g : Dk.Good d) : Far (fun n => n = curN ∨ n = tmpN ∨ n = manN v.gen ∨ isMan n = true) (2 * d.cap + ((frame (Ed.verB v)).length + (frame (num (cl v.gen))).length + 3)) d (catGo d v).2 := by
  have h1 := (rmvAll_far (fun n => n == tmpN || n == manN v.gen) g).wide (Q := fun n => n = curN ∨ n = tmpN ∨ n = manN v.gen ∨ isMan n = true) (fun n e => by
    simp only [Bool.or_eq_true, beq_iff_eq] at e
    rcases e with e | e
    · exact .inr (.inl e)
    · exact .inr (.inr (.inl e))) (Nat.le_refl _)
  unfold catGo
  split
  · have h2 := h1.trans ((wrt_far (v := v) h1.good).wide (fun n e => by
      rcases e with e | e
      · exact .inr (.inr (.inl e))
      · exact .inr (.inl e)) (Nat.le_refl _))
    split
    · have h3 := h2.trans ((raw_far h2.good 2 tmpN curN []).wide (fun n e => by
        rcases e with e | ⟨_, e⟩
        · exact .inr (.inl e)
        · exact .inl e) (Nat.le_refl _))
      split
      · have h4 := h3.trans ((rmvAll_far (fun n => isMan n && !(n == manN v.gen)) h3.good).wide (fun n e => by
          simp only [Bool.and_eq_true] at e
          exact .inr (.inr (.inr e.1))) (Nat.le_refl _))
        have hc := h3.cap
        exact h4.wide (fun _ e => e) (by omega)
      · exact h3.wide (fun _ e => e) (by omega)
    · exact h2.wide (fun _ e => e) (by omega)
  · exact h1.wide (fun _ e => e) (by omega)
theorem catSave_far {d : Disk} (v : Ver) (g : Dk.Good d) : Far (fun n => n = curN ∨ n = tmpN ∨ isMan n = true) (2 * d.cap + 3000000) d (catSave d v).2 := by
  unfold catSave
  split
  · exact (Far.refl _ g).wide (fun _ e => e) (Nat.zero_le _)
  · rename_i h0
    have hc : Ed.chk v = true := by
      cases h : Ed.chk v with
      | true => rfl
      | false => exact absurd (.inl h) h0
    split
    · exact (Far.refl _ g).wide (fun _ e => e) (Nat.zero_le _)
    · split
      · exact (Far.refl _ g).wide (fun _ e => e) (Nat.zero_le _)
      · have h1 := ver_short hc
        have h2 := frame_length (Ed.verB v)
        have h3 := num_le (Ed.verB v).length (by omega)
        have h4 := frame_length (num (cl v.gen))
        have h5 := num9 v.gen
        have h6 := num_le (num (cl v.gen)).length (by omega)
        refine (cat_far (v := v) g).wide (fun n e => ?_) (by omega)
        rcases e with e | e | e | e
        · exact .inl e
        · exact .inr (.inl e)
        · exact .inr (.inr (by rw [e]; exact isMan_yes (chk_seg hc)))
        · exact .inr (.inr e)
/-- What was answered OK counts, and is sure. -/
theorem catGo_ok {d : Disk} {v : Ver} (g : Dk.Good d) (hc : Ed.chk v = true) (h0 : v.gen ≠ 0) (h : (catGo d v).1 = 0) : Sure (catGo d v).2 v := by
  unfold catGo at h ⊢
  have h1 := rmvAll_far (fun n => n == tmpN || n == manN v.gen) g
  split at h
  · rename_i a1
    rw [if_pos a1]
    have n1 := rmvAll_ok g a1 (n := manN v.gen) (by simp)
    have n2 := rmvAll_ok g a1 (n := tmpN) (by simp)
    have h2 := wrt_far (v := v) h1.good
    split at h
    · rename_i a2
      rw [if_pos a2]
      obtain ⟨w1, w2⟩ := wrt_ok h1.good a2 n1 n2
      have h3 := raw_far h2.good 2 tmpN curN []
      split at h
      · rename_i a3
        rw [if_pos a3]
        obtain ⟨f, r1, r2, _⟩ := rename_ok h2.good a3 (by decide)
        rw [w2] at r1
        cases r1
        have s3 : Sure (Dk.raw (wrt (rmvAll (fun n => n == tmpN || n == manN v.gen) d).2 (verF v)).2 2 tmpN curN []).2 v :=
          .inr ⟨hc, h0, r2, (h3.look _ (fun e => e.elim (manN_tmp _) (fun e => manN_cur _ e.2))).trans w1⟩
        refine s3.far (rmvAll_far _ h3.good) (fun e => ?_) (fun _ e => ?_)
        · rw [isMan_cur] at e; cases e
        · simp at e
      · rename_i a3
        exact absurd h a3
    · rename_i a2
      exact absurd h a2
  · rename_i a1
    exact absurd h a1
/-- Whatever a save comes to, the elder version counts, or the new one. -/
theorem catGo_any {d : Disk} {u v : Ver} (g : Dk.Good d) (hs : Sure d u) (hne : u.gen ≠ v.gen) (hc : Ed.chk v = true) (h0 : v.gen ≠ 0) : Sure (catGo d v).2 u ∨ Sure (catGo d v).2 v := by
  by_cases hz : (catGo d v).1 = 0
  · exact .inr (catGo_ok g hc h0 hz)
  have hu : u.gen ≠ 0 → isSeg u.gen = true := fun h => by
    rcases hs with ⟨h1, _⟩ | ⟨h1, _⟩
    · exact absurd (by rw [h1]; rfl) h
    · exact chk_seg h1
  have hmm : u.gen ≠ 0 → manN u.gen ≠ manN v.gen := fun h e => hne (manN_inj (hu h) (chk_seg hc) e)
  unfold catGo at hz ⊢
  have h1 := rmvAll_far (fun n => n == tmpN || n == manN v.gen) g
  have s1 : Sure (rmvAll (fun n => n == tmpN || n == manN v.gen) d).2 u := hs.far h1 (fun e => by
    simp only [Bool.or_eq_true, beq_iff_eq] at e
    rcases e with e | e
    · exact cur_tmp e
    · exact manN_cur _ e.symm) (fun h e => by
    simp only [Bool.or_eq_true, beq_iff_eq] at e
    rcases e with e | e
    · exact manN_tmp _ e
    · exact hmm h e)
  split
  · rename_i a1
    rw [if_pos a1] at hz
    have n1 := rmvAll_ok g a1 (n := manN v.gen) (by simp)
    have n2 := rmvAll_ok g a1 (n := tmpN) (by simp)
    have h2 := wrt_far (v := v) h1.good
    have s2 : Sure (wrt (rmvAll (fun n => n == tmpN || n == manN v.gen) d).2 (verF v)).2 u := s1.far h2 (fun e => by
      rcases e with e | e
      · exact manN_cur _ e.symm
      · exact cur_tmp e) (fun h e => by
      rcases e with e | e
      · exact hmm h e
      · exact manN_tmp _ e)
    split
    · rename_i a2
      rw [if_pos a2] at hz
      obtain ⟨w1, w2⟩ := wrt_ok h1.good a2 n1 n2
      have h3 := raw_far h2.good 2 tmpN curN []
      split
      · rename_i a3
        rw [if_pos a3] at hz
        obtain ⟨f, r1, r2, _⟩ := rename_ok h2.good a3 (by decide)
        rw [w2] at r1
        cases r1
        have s3 : Sure (Dk.raw (wrt (rmvAll (fun n => n == tmpN || n == manN v.gen) d).2 (verF v)).2 2 tmpN curN []).2 v :=
          .inr ⟨hc, h0, r2, (h3.look _ (fun e => e.elim (manN_tmp _) (fun e => manN_cur _ e.2))).trans w1⟩
        refine .inr (s3.far (rmvAll_far _ h3.good) (fun e => ?_) (fun _ e => ?_))
        · rw [isMan_cur] at e; cases e
        · simp at e
      · rename_i a3
        left
        have hf : (Dk.raw (wrt (rmvAll (fun n => n == tmpN || n == manN v.gen) d).2 (verF v)).2 2 tmpN curN []).2.files = (wrt (rmvAll (fun n => n == tmpN || n == manN v.gen) d).2 (verF v)).2.files := Dk.raw_refused a3
        unfold Sure at s2 ⊢
        rw [hf]
        exact s2
    · exact .inl s2
  · exact .inl s1
theorem catSave_ok {d : Disk} {v : Ver} (g : Dk.Good d) (h : (catSave d v).1 = 0) : Ed.chk v = true ∧ v.gen ≠ 0 ∧ Sure (catSave d v).2 v := by
  unfold catSave at h ⊢
  split at h
  · cases h
  · rename_i a1
    split at h
    · cases h
    · rename_i a2
      split at h
      · cases h
      · rename_i a3
        rw [if_neg a1, if_neg a2, if_neg a3]
        have hc : Ed.chk v = true := by
          cases hx : Ed.chk v with
          | true => rfl
          | false => exact absurd (.inl hx) a1
        have h0 : v.gen ≠ 0 := fun e => a1 (.inr e)
        exact ⟨hc, h0, catGo_ok g hc h0 h⟩
theorem catSave_any {d : Disk} {u : Ver} (v : Ver) (g : Dk.Good d) (hs : Sure d u) (hne : u.gen ≠ v.gen) : Sure (catSave d v).2 u ∨ Sure (catSave d v).2 v := by
  unfold catSave
  split
  · exact .inl hs
  · rename_i a1
    split
    · exact .inl hs
    · split
      · exact .inl hs
      · have hc : Ed.chk v = true := by
          cases hx : Ed.chk v with
          | true => rfl
          | false => exact absurd (.inl hx) a1
        exact catGo_any g hs hne hc (fun e => a1 (.inr e))

/-- All files are called as a version's, "cur" or "cur~". -/
def Vn (d : Disk) : Prop := ∀ f ∈ d.files, f.name = curN ∨ f.name = tmpN ∨ isMan f.name = true
theorem Vn.far {d D : Disk} {k : Nat} (h : Vn d) (hf : Far (fun n => n = curN ∨ n = tmpN ∨ isMan n = true) k d D) : Vn D := fun f hm => by
  by_cases hp : f.name = curN ∨ f.name = tmpN ∨ isMan f.name = true
  · exact hp
  · have h1 := Dk.look_mem hf.good.rising hm
    rw [hf.look _ hp] at h1
    exact h f (Dk.look_some h1).1
/-- Two names, and no other. -/
theorem two_files {l : List File} {a b : List UInt8} (hr : Dk.Rising l) (h : ∀ f ∈ l, f.name = a ∨ f.name = b) (ha : (Dk.look l a).isSome = true) (hb : (Dk.look l b).isSome = true) (hab : a ≠ b) : l.length = 2 := by
  have nd : ∀ {f : File} {t : List File}, Dk.Rising (f :: t) → ∀ g ∈ t, g.name ≠ f.name := fun hr g hg e => by
    have := hr.1 g hg
    rw [e, less_irrefl] at this
    cases this
  match l, hr, h, ha, hb with
  | [], _, _, ha, _ => simp [Dk.look] at ha
  | [f], _, h, ha, hb =>
    simp only [Dk.look] at ha hb
    by_cases h1 : f.name = a
    · rw [if_neg (fun e => hab (h1.symm.trans e))] at hb
      cases hb
    · rw [if_neg h1] at ha
      cases ha
  | [f, k], _, _, _, _ => rfl
  | f :: k :: m :: t, hr, h, _, _ =>
    exfalso
    have h1 := nd hr k (by simp)
    have h2 := nd hr m (by simp)
    have h3 := nd hr.2 m (by simp)
    have a1 := h f (by simp)
    have a2 := h k (by simp)
    have a3 := h m (by simp)
    rcases a1 with a1 | a1 <;> rcases a2 with a2 | a2 <;> rcases a3 with a3 | a3 <;> simp_all
end Go.Proofs.YthnebhddakfadaaGreatDoor
namespace Go.Proofs.YthnebhddakfadaaGreatDoor
open Go.RowKit
open Dk (File Disk)

/-- A file that is to be laid: where its bytes are. -/
structure WF where
  name : List UInt8
  p : Option Addr
  c : Nat
  bytes : List UInt8
def wfK : Kind WF where
  size := 3
  vals x := [.string ⟨x.name.toArray⟩, .int .i64 0, .slice x.p x.bytes.length x.c]
  held w x := Src w x.p x.bytes.length x.c x.bytes
theorem wfK_ok : wfK.Ok :=
  ⟨by decide, fun _ => rfl, fun e u hu => by
    simp only [wfK, List.mem_cons, List.not_mem_nil, or_false] at hu
    rcases hu with rfl | rfl | rfl <;> rfl, fun h hb => Src.below h hb⟩
def WF.pair (x : WF) : List UInt8 × List UInt8 := (x.name, x.bytes)
theorem wf_cells {w : World} {b off n c : Nat} {es : List WF} (h : RSrc wfK w (some ⟨b, off, none⟩) n c es) {i : Nat} {x : WF} (hx : es[i]? = some x) :
    w.cell? ⟨b, off + i * 3, none⟩ = some (.string ⟨x.name.toArray⟩) ∧ w.cell? ⟨b, off + i * 3 + 1, none⟩ = some (.int .i64 0) ∧ w.cell? ⟨b, off + i * 3 + 2, none⟩ = some (.slice x.p x.bytes.length x.c) := by
  have one : ∀ (j : Nat) (u : Value), (wfK.vals x)[j]? = some u → w.cell? ⟨b, off + i * 3 + j, none⟩ = some u := fun j u hu => by
    have hj : j < 3 := (List.getElem?_eq_some_iff.1 hu).1
    have := h.cells _ rfl (i * wfK.size + j) u ((rv_at wfK_ok j hx hj).trans hu)
    rw [Addr.add_mid] at this
    rw [show off + i * 3 + j = off + (i * wfK.size + j) by show _ = off + (i * 3 + j); omega]
    exact this
  exact ⟨one 0 _ rfl, one 1 _ rfl, one 2 _ rfl⟩
theorem costF_snoc : ∀ (l : List (List UInt8 × List UInt8)) (f : List UInt8 × List UInt8), costF (l ++ [f]) = costF l + (16 + f.1.length + f.2.length)
  | [], f => by simp [costF]
  | g :: t, f => by simp only [List.cons_append, costF, costF_snoc t f]; omega
theorem costF_take (es : List WF) (k : Nat) : costF ((es.take k).map WF.pair) ≤ costF (es.map WF.pair) := by
  have h : ∀ (l m : List (List UInt8 × List UInt8)), costF l ≤ costF (l ++ m) := fun l m => by
    induction l with
    | nil => exact Nat.zero_le _
    | cons g t ih => simp only [List.cons_append, costF]; omega
  have h1 := h ((es.take k).map WF.pair) ((es.drop k).map WF.pair)
  rwa [← List.map_append, List.take_append_drop] at h1
theorem file_len {S : Nat → Prop} {w : World} {b : Nat} {d : Disk} (h : Mem S w b d) {n nm : List UInt8} {sf : Nat} {fb : List UInt8} (hx : Dk.look d.files n = some ⟨nm, sf, fb⟩) : fb.length ≤ 140737488355328 := by
  have hg := h.good
  obtain ⟨m, l, left, h⟩ := h
  have h1 := h.capb
  have h2 := hg.room
  have h3 : ∀ l : List File, ∀ f ∈ l, f.bytes.length ≤ Dk.used l := fun l => by
    induction l with
    | nil => intro f hf; cases hf
    | cons g t ih =>
      intro f hf
      rcases List.mem_cons.1 hf with rfl | hf
      · simp only [Dk.used, Dk.cost]; omega
      · have := ih f hf; simp only [Dk.used]; omega
  have h4 := h3 _ _ (Dk.look_some hx).1
  simp only at h4
  omega
set_option maxHeartbeats 4000000 in
set_option maxRecDepth 100000 in
theorem cnone_mem (S : Nat → Prop) (b : Nat) (d : Disk) (w : World) (h : Mem S w b d) :
    Calls Tryz.prog 49 #[.pointer (some ⟨b, 0, none⟩)] w fun e w' => e = .returned (.bool false) ∧ Below w.heap.size w w' := by
  cases hx : Dk.look d.files [99, 117, 114, 126] with
  | none => exact cnone_none S b d w h hx
  | some f =>
    obtain ⟨nm, sf, fb⟩ := f
    have HR := keep (read_some S b d [99, 117, 114, 126] nm sf fb w h (by unfold maxLen; decide) rfl hx (file_len h hx))
    clear h hx
    go_enter Tryz.func49, Tryz.ntmps49
    go_wp2_with fail
    refine HR.out.mono ?_
    rintro e w1 ⟨v, rfl, hn⟩
    have B1 := keep hn.2
    clear hn
    go_wp2
    go_ret
    exact ⟨rfl, B1.out⟩
/-- What written answers, where the version may be. -/
structure WrA (w : World) (v : Ed.Ver) (e : Ending) (w' : World) : Prop where
  ex : ∃ (g : Nat) (a1 : Option Addr) (c1 : Nat) (a2 : Option Addr) (c2 : Nat), e = .returned (.tuple #[.slice (some ⟨g, 0, none⟩) 2 2, .int .i64 0]) ∧ w.heap.size ≤ g ∧
    w'.heap[g]? = some (.cells #[.string ⟨(manN v.gen).toArray⟩, .int .i64 0, .slice a1 (frame (Ed.verB v)).length c1, .string ⟨tmpN.toArray⟩, .int .i64 0, .slice a2 (frame (num (cl v.gen))).length c2] 70 (0, 0)) ∧
    w'.ownsRow w.heap.size 5 1 (.slice a1 (frame (Ed.verB v)).length c1) (frame (Ed.verB v)).length (bv (frame (Ed.verB v))) ∧
    w'.ownsRow w.heap.size 5 1 (.slice a2 (frame (num (cl v.gen))).length c2) (frame (num (cl v.gen))).length (bv (frame (num (cl v.gen))))
  bel : Below w.heap.size w w'
set_option maxHeartbeats 4000000 in
set_option maxRecDepth 100000 in
theorem written_no (x : VV) (w : World) (hx : VV.held w x) (hck : Ed.chk x.v = false) :
    Calls Tryz.prog 48 #[x.val] w fun e w' => e = .returned (.tuple #[.slice none 0 0, .int .i64 1]) ∧ Below w.heap.size w w' := by
  obtain ⟨p, n, c, gen, next, log, seq, es⟩ := x
  obtain ⟨W1, hW1⟩ : ∃ W1, w.alloc (.cells #[.int .i64 gen, .int .i64 next, .int .i64 log, .int .i64 seq, .slice p n c] 50) = W1 := ⟨_, rfl⟩
  have b1 : Hid (Below w.heap.size w W1) := by rw [← hW1]; exact (Below.refl _ _).alloc (Nat.le_refl _) _
  have g1 : Hid (W1.heap[w.heap.size]? = some (.cells #[.int .i64 gen, .int .i64 next, .int .i64 log, .int .i64 seq, .slice p n c] 50)) := by rw [← hW1]; exact heap_alloc_new w _
  have c0 : W1.cell? ⟨w.heap.size, 0, none⟩ = some (.int .i64 gen) := cell_of_row _ _ _ _ _ _ g1.out
  have c1 : W1.cell? ⟨w.heap.size, 1, none⟩ = some (.int .i64 next) := cell_of_row _ _ _ _ _ _ g1.out
  have c2 : W1.cell? ⟨w.heap.size, 2, none⟩ = some (.int .i64 log) := cell_of_row _ _ _ _ _ _ g1.out
  have c3 : W1.cell? ⟨w.heap.size, 3, none⟩ = some (.int .i64 seq) := cell_of_row _ _ _ _ _ _ g1.out
  have c4 : W1.cell? ⟨w.heap.size, 4, none⟩ = some (.slice p n c) := cell_of_row _ _ _ _ _ _ g1.out
  have EN := keep (encode_any ⟨p, n, c, gen, next, log, seq, es⟩ W1 (hx.below b1.out))
  unfold EncA at EN
  rw [hck] at EN
  have e1 : chkN (VV.v ⟨p, n, c, gen, next, log, seq, es⟩) = 1 := by unfold chkN; rw [hck]; rfl
  rw [e1] at EN
  unfold VV.val at EN ⊢
  simp only at EN ⊢
  clear hx hck e1
  go_enter Tryz.func48, Tryz.ntmps48
  go_wp2_with fail
  refine EN.out.mono ?_
  rintro e w2 ⟨a, m, cc, l, rfl, _, _, hb2⟩
  have B2 := keep (b1.out.trans (hb2.mono b1.out.size))
  clear hb2 EN
  go_wp2
  go_ret2
  exact ⟨rfl, B2.out⟩
set_option maxHeartbeats 4000000 in
set_option maxRecDepth 100000 in
theorem written_yes (x : VV) (w : World) (hx : VV.held w x) (hck : Ed.chk x.v = true) (hg : Gl w) :
    Calls Tryz.prog 48 #[x.val] w (WrA w x.v) := by
  obtain ⟨p, n, c, gen, next, log, seq, es⟩ := x
  have hseg := chk_seg hck
  have hsh := ver_short hck
  obtain ⟨V, hV⟩ : ∃ V, VV.v ⟨p, n, c, gen, next, log, seq, es⟩ = V := ⟨_, rfl⟩
  have HGE : Hid (V.gen = gen) := by show _ = _; rw [← hV]; rfl
  rw [hV] at hck hseg hsh ⊢
  obtain ⟨W1, hW1⟩ : ∃ W1, w.alloc (.cells #[.int .i64 gen, .int .i64 next, .int .i64 log, .int .i64 seq, .slice p n c] 50) = W1 := ⟨_, rfl⟩
  have b1 : Hid (Below w.heap.size w W1) := by rw [← hW1]; exact (Below.refl _ _).alloc (Nat.le_refl _) _
  have g1 : Hid (W1.heap[w.heap.size]? = some (.cells #[.int .i64 gen, .int .i64 next, .int .i64 log, .int .i64 seq, .slice p n c] 50)) := by rw [← hW1]; exact heap_alloc_new w _
  have c0 : W1.cell? ⟨w.heap.size, 0, none⟩ = some (.int .i64 gen) := cell_of_row _ _ _ _ _ _ g1.out
  have c1 : W1.cell? ⟨w.heap.size, 1, none⟩ = some (.int .i64 next) := cell_of_row _ _ _ _ _ _ g1.out
  have c2 : W1.cell? ⟨w.heap.size, 2, none⟩ = some (.int .i64 log) := cell_of_row _ _ _ _ _ _ g1.out
  have c3 : W1.cell? ⟨w.heap.size, 3, none⟩ = some (.int .i64 seq) := cell_of_row _ _ _ _ _ _ g1.out
  have c4 : W1.cell? ⟨w.heap.size, 4, none⟩ = some (.slice p n c) := cell_of_row _ _ _ _ _ _ g1.out
  have EN := keep (encode_any ⟨p, n, c, gen, next, log, seq, es⟩ W1 (hx.below b1.out))
  unfold EncA at EN
  rw [hV, hck] at EN
  have e1 : chkN V = 0 := by unfold chkN; rw [hck]; rfl
  rw [e1] at EN
  unfold VV.val at EN ⊢
  simp only at EN ⊢
  have HG := keep hg
  have HSEG := keep hseg
  have HSH := keep hsh
  clear hx hck e1 hg hseg hsh hV
  go_enter Tryz.func48, Tryz.ntmps48
  go_wp2_with fail
  refine EN.out.mono ?_
  rintro e w2 ⟨a, m, cc, l, rfl, hs2, hl2, hb2⟩
  rw [if_pos trivial] at hl2
  subst hl2
  have B2 := keep (b1.out.trans (hb2.mono b1.out.size))
  have G2 := keep ((hb2.block _ (Array.getElem?_eq_some_iff.1 g1.out).1).trans g1.out)
  have S2 := keep hs2
  have HM : Hid ((Ed.verB V).length = m) := hs2.len
  have CG : Hid (∀ w', Below w2.heap.size w2 w' → w'.cell? ⟨w.heap.size, 0, none⟩ = some (.int .i64 gen)) := fun w' hb => below_cell hb (cell_of_row _ _ _ _ _ _ G2.out)
  have KA : Hid (∀ w', Below w2.heap.size w2 w' → Calls Tryz.prog 53 #[.int .i64 gen] w' fun e w'' => e = .returned (.string ⟨(manN V.gen).toArray⟩) ∧ Below w'.heap.size w' w'') := fun w' hb => by
    refine (version_any gen w' (HG.out.below (B2.out.trans (hb.mono B2.out.size))).tab).mono ?_
    rintro e w'' ⟨rfl, hb2⟩
    refine ⟨?_, hb2⟩
    have h1 := HSEG.out
    rw [HGE.out] at h1 ⊢
    unfold calledL
    rw [if_pos h1]
    rfl
  have KB : Hid (∀ w', Below w2.heap.size w2 w' → Calls Tryz.prog 99 #[.slice none 0 0, .slice a m cc] w' fun e w'' => ∃ a1 k1, e = .returned (.slice a1 (frame (Ed.verB V)).length k1) ∧ w''.ownsRow w2.heap.size 5 1 (.slice a1 (frame (Ed.verB V)).length k1) (frame (Ed.verB V)).length (bv (frame (Ed.verB V))) ∧ Below w'.heap.size w' w'') := fun w' hb => by
    refine (putFrame_any none 0 0 [] a m cc (Ed.verB V) w' (by have := HSH.out.2; have := HM.out; omega) (src_nil w') (S2.out.below hb)).mono ?_
    rintro e w'' ⟨v, rfl, hn⟩
    simp only [Nat.zero_add, List.nil_append] at hn
    obtain ⟨a1, k1, rfl, _, _⟩ := hn.src
    exact ⟨a1, k1, rfl, own_base hn.1 (fun g hg => Nat.le_trans hb.size (hn.1.lt g hg).1), hn.2⟩
  have KC : Hid (∀ w', Below w2.heap.size w2 w' → Calls Tryz.prog 100 #[.slice none 0 0, .int .i64 gen] w' fun e w'' => ∃ a1 k1, e = .returned (.slice a1 (num (cl V.gen)).length k1) ∧ Src w'' a1 (num (cl V.gen)).length k1 (num (cl V.gen)) ∧ Below w'.heap.size w' w'') := fun w' hb => by
    rw [HGE.out]
    refine (putNum_any none 0 0 [] gen w' (by omega) (src_nil w')).mono ?_
    rintro e w'' ⟨v, rfl, hn⟩
    simp only [Nat.zero_add, List.nil_append] at hn
    obtain ⟨a1, k1, rfl, hs, _⟩ := hn.src
    exact ⟨a1, k1, rfl, hs, hn.2⟩
  have KD : Hid (∀ (a3 : Option Addr) (k3 : Nat) (w' : World), Below w2.heap.size w2 w' → Src w' a3 (num (cl V.gen)).length k3 (num (cl V.gen)) → Calls Tryz.prog 99 #[.slice none 0 0, .slice a3 (num (cl V.gen)).length k3] w' fun e w'' => ∃ a1 k1, e = .returned (.slice a1 (frame (num (cl V.gen))).length k1) ∧ w''.ownsRow w2.heap.size 5 1 (.slice a1 (frame (num (cl V.gen))).length k1) (frame (num (cl V.gen))).length (bv (frame (num (cl V.gen)))) ∧ Below w'.heap.size w' w'') := fun a3 k3 w' hb hs => by
    refine (putFrame_any none 0 0 [] a3 _ k3 (num (cl V.gen)) w' (by have := num9 V.gen; omega) (src_nil w') hs).mono ?_
    rintro e w'' ⟨v, rfl, hn⟩
    simp only [Nat.zero_add, List.nil_append] at hn
    obtain ⟨a1, k1, rfl, _, _⟩ := hn.src
    exact ⟨a1, k1, rfl, own_base hn.1 (fun g hg => Nat.le_trans hb.size (hn.1.lt g hg).1), hn.2⟩
  have ANS : Hid (∀ (g : Nat) (a1 : Option Addr) (k1 : Nat) (a2 : Option Addr) (k2 : Nat) (w' : World), w2.heap.size ≤ g → w'.heap[g]? = some (.cells #[.string ⟨(manN V.gen).toArray⟩, .int .i64 0, .slice a1 (frame (Ed.verB V)).length k1, .string ⟨tmpN.toArray⟩, .int .i64 0, .slice a2 (frame (num (cl V.gen))).length k2] 70 (0, 0)) → w'.ownsRow w2.heap.size 5 1 (.slice a1 (frame (Ed.verB V)).length k1) (frame (Ed.verB V)).length (bv (frame (Ed.verB V))) → w'.ownsRow w2.heap.size 5 1 (.slice a2 (frame (num (cl V.gen))).length k2) (frame (num (cl V.gen))).length (bv (frame (num (cl V.gen)))) → Below w2.heap.size w2 w' → WrA w V (.returned (.tuple #[.slice (some ⟨g, 0, none⟩) 2 2, .int .i64 0])) w') := fun g a1 k1 a2 k2 w' h1 h2 h3 h4 h5 =>
    ⟨⟨g, a1, k1, a2, k2, rfl, Nat.le_trans B2.out.size h1, h2, own_base h3 (fun g hg => Nat.le_trans B2.out.size (h3.lt g hg).1), own_base h4 (fun g hg => Nat.le_trans B2.out.size (h4.lt g hg).1)⟩, B2.out.trans (h5.mono B2.out.size)⟩
  obtain ⟨f1, hf1⟩ : ∃ f, frame (Ed.verB V) = f := ⟨_, rfl⟩
  obtain ⟨f2, hf2⟩ : ∃ f, frame (num (cl V.gen)) = f := ⟨_, rfl⟩
  obtain ⟨nm, hnm⟩ : ∃ f, manN V.gen = f := ⟨_, rfl⟩
  obtain ⟨nn, hnn⟩ : ∃ f, num (cl V.gen) = f := ⟨_, rfl⟩
  rw [hf1] at KB ANS
  rw [hf2] at KD ANS
  rw [hnm] at KA ANS
  rw [hnn] at KC KD
  obtain ⟨F1, hF1⟩ : ∃ n, f1.length = n := ⟨_, rfl⟩
  obtain ⟨F2, hF2⟩ : ∃ n, f2.length = n := ⟨_, rfl⟩
  obtain ⟨NN, hNN⟩ : ∃ n, nn.length = n := ⟨_, rfl⟩
  rw [hF1] at KB ANS
  rw [hF2] at KD ANS
  rw [hNN] at KC KD
  unfold tmpN at ANS
  clear hW1 hs2 hb2 EN hf1 hf2 hnm hnn hF1 hF2 hNN c0 c1 c2 c3 c4
  go_wp2_with fail
  refine region_share (fun a' a'' w' => ∃ (g : Nat) (a1 : Option Addr) (k1 : Nat) (a2 : Option Addr) (k2 : Nat) (a3 : Option Addr) (k3 : Nat), a'' = sets a' [(14, .pointer (some ⟨w.heap.size, 0, none⟩)), (15, .int .i64 gen), (16, .string ⟨nm.toArray⟩), (17, .slice a m cc), (18, .slice a1 F1 k1), (19, .agg #[.string ⟨nm.toArray⟩, .int .i64 0, .slice a1 F1 k1]), (20, .pointer (some ⟨w.heap.size, 0, none⟩)), (21, .int .i64 gen), (0x16, .slice a3 NN k3), (23, .slice a2 F2 k2), (24, .agg #[.string ⟨#[99, 117, 114, 126]⟩, .int .i64 0, .slice a2 F2 k2]), (25, .slice (some ⟨g, 0, none⟩) 2 2), (2, .slice (some ⟨g, 0, none⟩) 2 2), (3, .int .i64 0)] ∧ WrA w V (.returned (.tuple #[.slice (some ⟨g, 0, none⟩) 2 2, .int .i64 0])) w') ?_ ?_
  · refine wp_region_held_drew (S := fun w' => Below w2.heap.size w2 w') (by kernel_rfl) ((Below.refl _ _).drew) (fun hHeld => ?_)
    refine takeH (i := 0) 14 (v := .pointer (some ⟨w.heap.size, 0, none⟩)) rfl rfl (by kernel_rfl) (by kernel_rfl) (by kernel_rfl) (fun _ _ _ h => h) (Or.inl ⟨by rfl, ?_⟩) (by assumption) ?_
    · intro w' hSw'
      go_simp
    simp only [Act.put, List.setIfInBounds_toArray, List.set_cons_zero, List.set_cons_succ]
    refine takeH (i := 1) 15 (v := .int .i64 gen) rfl rfl (by kernel_rfl) (by kernel_rfl) (by kernel_rfl) (fun _ _ _ h => h) (Or.inl ⟨by rfl, ?_⟩) (by assumption) ?_
    · intro w' hSw'
      have d0 := CG.out w' hSw'
      go_simp
    simp only [Act.put, List.setIfInBounds_toArray, List.set_cons_zero, List.set_cons_succ]
    refine takeH (i := 3) 17 (v := .slice a m cc) rfl rfl (by kernel_rfl) (by kernel_rfl) (by kernel_rfl) (fun _ _ _ h => h) (Or.inl ⟨by rfl, ?_⟩) (by assumption) ?_
    · intro w' hSw'
      go_simp
    simp only [Act.put, List.setIfInBounds_toArray, List.set_cons_zero, List.set_cons_succ]
    refine takeH (i := 6) 20 (v := .pointer (some ⟨w.heap.size, 0, none⟩)) rfl rfl (by kernel_rfl) (by kernel_rfl) (by kernel_rfl) (fun _ _ _ h => h) (Or.inl ⟨by rfl, ?_⟩) (by assumption) ?_
    · intro w' hSw'
      go_simp
    simp only [Act.put, List.setIfInBounds_toArray, List.set_cons_zero, List.set_cons_succ]
    refine takeH (i := 7) 21 (v := .int .i64 gen) rfl rfl (by kernel_rfl) (by kernel_rfl) (by kernel_rfl) (fun _ _ _ h => h) (Or.inl ⟨by rfl, ?_⟩) (by assumption) ?_
    · intro w' hSw'
      have d0 := CG.out w' hSw'
      go_simp
    simp only [Act.put, List.setIfInBounds_toArray, List.set_cons_zero, List.set_cons_succ]
    refine wpAnyH_ready (rs := [2]) (by kernel_rfl) (by simp) ?_
    refine AllReadyH.cons rfl (fun K hK => ?_) AllReadyH.nil
    · go_simp
      refine (KA.out _ (Below.refl _ _).drew).mono ?_
      rintro e u1 ⟨rfl, hb5⟩
      have Q1 := keep hb5
      have v1 : Hid (Below w2.heap.size w2 u1) := ((Below.refl _ _).drew).trans (hb5.mono (Nat.le_refl _))
      clear hb5
      go_wp2_with fail
      refine hK.out _ _ (v1.out) (fun hH1 => ?_)
      clear hK K
      refine wpAnyH_ready (rs := [4]) (by kernel_rfl) (by simp) ?_
      refine AllReadyH.cons rfl (fun K hK => ?_) AllReadyH.nil
      · go_simp
        refine (KB.out _ v1.out).mono ?_
        rintro e u2 ⟨a1, k1, rfl, ho5, hb5⟩
        have Q2 := keep hb5
        have v2 : Hid (Below w2.heap.size w2 u2) := v1.out.trans (hb5.mono v1.out.size)
        have y2 := keep ho5
        clear hb5 ho5
        go_wp2_with fail
        refine hK.out _ _ (v2.out) (fun hH2 => ?_)
        clear hK K
        refine takeH (i := 5) 19 (v := .agg #[.string ⟨nm.toArray⟩, .int .i64 0, .slice a1 F1 k1]) rfl rfl (by kernel_rfl) (by kernel_rfl) (by kernel_rfl) (fun _ _ _ h => h) (Or.inl ⟨by rfl, ?_⟩) (by assumption) ?_
        · intro w' hSw'
          go_simp
        simp only [Act.put, List.setIfInBounds_toArray, List.set_cons_zero, List.set_cons_succ]
        refine wpAnyH_ready (rs := [8]) (by kernel_rfl) (by simp) ?_
        refine AllReadyH.cons rfl (fun K hK => ?_) AllReadyH.nil
        · go_simp
          refine (KC.out _ v2.out).mono ?_
          rintro e u3 ⟨a3, k3, rfl, ho5, hb5⟩
          have Q3 := keep hb5
          have v3 : Hid (Below w2.heap.size w2 u3) := v2.out.trans (hb5.mono v2.out.size)
          have y3 := keep ho5
          clear hb5 ho5
          have z4 := keep (own_block y2.out (fun g hg => (Q3.out.block g (own_size y2.out hg))))
          go_wp2_with fail
          refine hK.out _ _ (v3.out) (fun hH3 => ?_)
          clear hK K
          refine wpAnyH_ready (rs := [9]) (by kernel_rfl) (by simp) ?_
          refine AllReadyH.cons rfl (fun K hK => ?_) AllReadyH.nil
          · go_simp
            refine (KD.out a3 k3 _ v3.out y3.out).mono ?_
            rintro e u5 ⟨a2, k2, rfl, ho5, hb5⟩
            have Q5 := keep hb5
            have v5 : Hid (Below w2.heap.size w2 u5) := v3.out.trans (hb5.mono v3.out.size)
            have y5 := keep ho5
            clear hb5 ho5
            have z6 := keep (own_block z4.out (fun g hg => (Q5.out.block g (own_size z4.out hg))))
            go_wp2_with fail
            refine hK.out _ _ (v5.out) (fun hH5 => ?_)
            clear hK K
            refine takeH (i := 10) 24 (v := .agg #[.string ⟨#[99, 117, 114, 126]⟩, .int .i64 0, .slice a2 F2 k2]) rfl rfl (by kernel_rfl) (by kernel_rfl) (by kernel_rfl) (fun _ _ _ h => h) (Or.inl ⟨by rfl, ?_⟩) (by assumption) ?_
            · intro w' hSw'
              go_simp
            simp only [Act.put, List.setIfInBounds_toArray, List.set_cons_zero, List.set_cons_succ]
            refine wpAnyH_ready (rs := [11]) (by kernel_rfl) (by simp) ?_
            refine AllReadyH.cons rfl (fun K hK => ?_) AllReadyH.nil
            go_simp
            refine hK.out _ _ (v5.out.alloc v5.out.size _) (fun hHeld9 => ?_)
            clear hK K
            refine takeH (i := 12) 2 (v := .slice (some ⟨u5.heap.size, 0, none⟩) 2 2) rfl rfl (by kernel_rfl) (by kernel_rfl) (by kernel_rfl) (fun _ _ _ h => h) (Or.inl ⟨by rfl, ?_⟩) (by assumption) ?_
            · intro w' hSw'
              go_simp
            simp only [Act.put, List.setIfInBounds_toArray, List.set_cons_zero, List.set_cons_succ]
            refine takeH (i := 13) 3 (v := .int .i64 0) rfl rfl (by kernel_rfl) (by kernel_rfl) (by kernel_rfl) (fun _ _ _ h => h) (Or.inl ⟨by rfl, ?_⟩) (by assumption) ?_
            · intro w' hSw'
              go_simp
            simp only [Act.put, List.setIfInBounds_toArray, List.set_cons_zero, List.set_cons_succ]
            refine wpAnyH_done (by kernel_rfl) ?_ _
            refine ⟨_, a1, k1, a2, k2, a3, k3, (by simp only [sets, Act.put, List.setIfInBounds_toArray, List.set_cons_zero, List.set_cons_succ]; all_goals rfl), ANS.out _ a1 k1 a2 k2 _ v5.out.size (heap_alloc_new u5 _) ?_ ?_ (v5.out.alloc v5.out.size _)⟩
            · exact own_block z6.out (fun g hg => Below.heap_alloc _ _ _ (own_size z6.out hg))
            · exact own_block y5.out (fun g hg => Below.heap_alloc _ _ _ (own_size y5.out hg))
  rintro a'' w5 ⟨g, a1, k1, a2, k2, a3, k3, rfl, hG⟩
  have GG := keep hG
  clear hG
  simp only [sets, Act.put, List.setIfInBounds_toArray, List.set_cons_zero, List.set_cons_succ]
  go_wp2
  go_ret2
  exact GG.out
set_option maxHeartbeats 4000000 in
set_option maxRecDepth 100000 in
theorem catcost_any (ao : Option Addr) (n c : Nat) (es : List WF) (w : World) (hs : RSrc wfK w ao n c es) (hn : n ≤ 1000) (hc : costF (es.map WF.pair) ≤ 4611686018427387904) :
    Calls Tryz.prog 52 #[.slice ao n c] w fun e w' => e = .returned (.int .i64 (costF (es.map WF.pair) : Int)) ∧ Below w.heap.size w w' := by
  have SRC := keep hs
  have HL := keep hs.len
  have HC := keep hc
  have FULL : Hid (es.take n = es) := List.take_of_length_le (by rw [hs.len]; exact Nat.le_refl _)
  clear hs hc
  go_enter Tryz.func52, Tryz.ntmps52
  go_wp2
  go_loopw [3, 8] (fun s i wr => ∃ k : Nat, k ≤ n ∧ s = .int .i64 (costF ((es.take k).map WF.pair) : Int) ∧ i = .int .i64 (k : Int) ∧ Hid (Below w.heap.size w wr)) (fun _ i _ => n - (intOf i).toNat)
  case atStart => exact ⟨0, Nat.zero_le _, rfl, rfl, Below.refl _ _⟩
  case round =>
    obtain ⟨k, hk, rfl, rfl, hI⟩ := hrel
    by_cases hkn : k < n
    · obtain ⟨b, off, rfl, _, _⟩ := SRC.out.form wfK_ok (by omega)
      obtain ⟨x, hx⟩ : ∃ x, es[k]? = some x := ⟨es[k]'(by rw [HL.out]; exact hkn), List.getElem?_eq_getElem _⟩
      have hS := SRC.out.below wfK_ok hI.out
      obtain ⟨p0, p1, p2⟩ := wf_cells hS hx
      have TM : Hid (costF ((es.take (k + 1)).map WF.pair) = costF ((es.take k).map WF.pair) + (16 + x.name.length + x.bytes.length)) := by
        show _ = _
        rw [List.take_add_one, hx, Option.toList_some, List.map_append, List.map_cons, List.map_nil, costF_snoc]
        rfl
      have TL : Hid (costF ((es.take (k + 1)).map WF.pair) ≤ 4611686018427387904) := Nat.le_trans (costF_take _ _) HC.out
      obtain ⟨A, hA⟩ : ∃ A, costF ((es.take k).map WF.pair) = A := ⟨_, rfl⟩
      rw [hA] at TM ⊢
      obtain ⟨A2, hA2⟩ : ∃ A2, costF ((es.take (k + 1)).map WF.pair) = A2 := ⟨_, rfl⟩
      rw [hA2] at TM TL
      obtain ⟨nm, xp, xc, xb⟩ := x
      simp only at p0 p1 p2 TM
      obtain ⟨NL, hNL⟩ : ∃ q, nm.length = q := ⟨_, rfl⟩
      obtain ⟨BL, hBL⟩ : ∃ q, xb.length = q := ⟨_, rfl⟩
      rw [hNL, hBL] at TM
      rw [hBL] at p2
      have hsz : (⟨nm.toArray⟩ : ByteArray).size = NL := by rw [← hNL]; simp [ByteArray.size]
      have tm := TM.out
      have tl := TL.out
      have w1 : IntKind.i64.wrap (16 + (NL : Int)) = 16 + (NL : Int) := wrap_small _ (by omega) (by omega)
      have w2 : IntKind.i64.wrap (16 + (NL : Int) + (BL : Int)) = 16 + (NL : Int) + (BL : Int) := wrap_small _ (by omega) (by omega)
      have w3 : IntKind.i64.wrap ((A : Int) + (16 + (NL : Int) + (BL : Int))) = (A2 : Int) := by rw [IntKind.wrap_i64]; omega
      have ll : (k : Int) < (n : Int) := by omega
      have l0 : (0 : Int) ≤ (k : Int) := by omega
      have BI := keep (hI.out.alloc hI.out.size (.cells #[.string ⟨nm.toArray⟩, .int .i64 0, .slice xp BL xc] 70))
      have q2 : (wr.alloc (.cells #[.string ⟨nm.toArray⟩, .int .i64 0, .slice xp BL xc] 70)).cell? ⟨wr.heap.size, 2, none⟩ = some (.slice xp BL xc) := cell_of_row _ _ _ _ _ _ (heap_alloc_new wr _)
      have q0 : (wr.alloc (.cells #[.string ⟨nm.toArray⟩, .int .i64 0, .slice xp BL xc] 70)).cell? ⟨wr.heap.size, 0, none⟩ = some (.string ⟨nm.toArray⟩) := cell_of_row _ _ _ _ _ _ (heap_alloc_new wr _)
      have HAA := keep hA2
      clear hA hA2 hNL hBL hx hS tm tl hI TM TL
      go_wp2
      go_roundw
      case rel => exact ⟨k + 1, by omega, by rw [HAA.out], by go_num, BI.out⟩
      case measure => simp [intOf]; omega
    · obtain rfl : k = n := by omega
      rw [FULL.out]
      go_wp2
      go_ret
      exact ⟨rfl, hI.out⟩
end Go.Proofs.YthnebhddakfadaaGreatDoor
