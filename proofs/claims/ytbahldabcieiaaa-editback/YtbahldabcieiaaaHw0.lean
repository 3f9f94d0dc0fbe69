/- Versions read from bytes, over plain lists; no walk. -/
import Derived.Test.YtbahldabcieiaaaHv
namespace Go.Proofs.Ytbahldabcieiaaa.Ed

theorem take_pre {p r : List UInt8} {k : Nat} (h : p.length ≤ k) : (p ++ r).take k = p ++ r.take (k - p.length) := by
  rw [List.take_append, List.take_of_length_le h]
theorem rd_num {n : Nat} (h : n < 4611686018427387904) (r : List UInt8) : rdN (num n ++ r) = n ∧ rdL (num n ++ r) = r := by
  have h9 := num_le' n (by omega)
  have ht := take_pre (r := r) h9
  have hp := takeNum_put (r := r.take (9 - (num n).length)) h
  unfold rdN rdL
  rw [ht]
  have e1 : nOf (num n ++ r.take (9 - (num n).length)) = n := by simp [nOf, hp]
  have e2 : rOf (num n ++ r.take (9 - (num n).length)) = r.take (9 - (num n).length) := by simp [rOf, hp]
  have e3 : eOf (num n ++ r.take (9 - (num n).length)) = 0 := by simp [eOf, hp]
  refine ⟨e1, ?_⟩
  rw [e2, e3, if_pos rfl, List.length_append, Nat.add_sub_cancel, List.drop_left]
theorem rd_text {s : List UInt8} (h : s.length ≤ 64) (r : List UInt8) : rdS (num s.length ++ s ++ r) = s ∧ rdT (num s.length ++ s ++ r) = r := by
  have h9 := num_le' s.length (by omega)
  have hl : (num s.length ++ s).length ≤ 73 := by rw [List.length_append]; omega
  have ht := take_pre (r := r) hl
  obtain ⟨x, hx⟩ : ∃ x, r.take (73 - (num s.length ++ s).length) = x := ⟨_, rfl⟩
  rw [hx] at ht
  have hp : takeNum (num s.length ++ s ++ x) = some (s.length, s ++ x) := by
    rw [List.append_assoc]
    exact takeNum_put (by omega)
  have hy := txt_yes (most := 64) hp ⟨by omega, by rw [List.length_append]; omega⟩
  rw [List.take_left, List.drop_left] at hy
  unfold rdS rdT
  rw [ht]
  have e1 : tS (num s.length ++ s ++ x) 64 = s := by unfold tS; rw [hy]; rfl
  have e2 : tR (num s.length ++ s ++ x) 64 = x := by unfold tR; rw [hy]; rfl
  have e3 : tE (num s.length ++ s ++ x) 64 = 0 := by unfold tE; rw [hy]; rfl
  refine ⟨e1, ?_⟩
  have e4 : (num s.length ++ s ++ x).length - x.length = (num s.length ++ s).length := by
    simp only [List.length_append]
    omega
  rw [e2, e3, if_pos rfl, e4, List.drop_left]
/-- A note read, and what is left. -/
def rdM (l : List UInt8) : Nt := ⟨(rdN l : Nat), (rdN (rdL l) : Nat), (rdN (rdL (rdL l)) : Nat), rdS (rdL (rdL (rdL l))), rdS (rdT (rdL (rdL (rdL l))))⟩
def rdML (l : List UInt8) : List UInt8 := rdT (rdT (rdL (rdL (rdL l))))
/-- Notes read, k of them at the most. -/
def rdMs : Nat → List UInt8 → List Nt
  | 0, _ => []
  | k + 1, l => if l.length = 0 then [] else rdM l :: rdMs k (rdML l)
/-- A version read. -/
def rdV (l : List UInt8) : Ver := ⟨(rdN l : Nat), (rdN (rdL l) : Nat), (rdN (rdL (rdL l)) : Nat), (rdN (rdL (rdL (rdL l))) : Nat), rdMs (min (rdN (rdL (rdL (rdL (rdL l))))) 4096) (rdL (rdL (rdL (rdL (rdL l)))))⟩
theorem cl_num {z : Int} (h : isNum z = true) : ((cl z : Nat) : Int) = z ∧ cl z < 4611686018427387904 := by
  unfold isNum at h
  unfold cl
  simp only [Bool.and_eq_true, decide_eq_true_eq] at h
  omega
theorem rd_int {z : Int} (h : isNum z = true) (r : List UInt8) : ((rdN (num (cl z) ++ r) : Nat) : Int) = z ∧ rdL (num (cl z) ++ r) = r := by
  obtain ⟨h1, h2⟩ := cl_num h
  obtain ⟨h3, h4⟩ := rd_num h2 r
  exact ⟨by rw [h3, h1], h4⟩
theorem note_parts {m : Nt} (h : mayBe m = true) : isNum m.num = true ∧ isNum m.level = true ∧ isNum m.count = true ∧ m.first.length ≤ 64 ∧ m.last.length ≤ 64 := by
  unfold mayBe at h
  simp only [Bool.and_eq_true, decide_eq_true_eq] at h
  obtain ⟨⟨⟨⟨⟨⟨⟨h1, h2⟩, h3⟩, h4⟩, h5⟩, h6⟩, h7⟩, _⟩ := h
  unfold isKey at h6 h7
  simp only [Bool.and_eq_true, decide_eq_true_eq] at h6 h7
  refine ⟨h1, ?_, ?_, h6.2, h7.2⟩
  · unfold isNum
    simp only [Bool.and_eq_true, decide_eq_true_eq]
    omega
  · unfold isNum
    simp only [Bool.and_eq_true, decide_eq_true_eq]
    omega
theorem rd_note {m : Nt} (h : mayBe m = true) (r : List UInt8) : rdM (noteB m ++ r) = m ∧ rdML (noteB m ++ r) = r := by
  obtain ⟨h1, h2, h3, h4, h5⟩ := note_parts h
  have e : noteB m ++ r = num (cl m.num) ++ (num (cl m.level) ++ (num (cl m.count) ++ (num m.first.length ++ m.first ++ (num m.last.length ++ m.last ++ r)))) := by
    unfold noteB numsB
    simp
  obtain ⟨a1, a2⟩ := rd_int h1 (num (cl m.level) ++ (num (cl m.count) ++ (num m.first.length ++ m.first ++ (num m.last.length ++ m.last ++ r))))
  obtain ⟨b1, b2⟩ := rd_int h2 (num (cl m.count) ++ (num m.first.length ++ m.first ++ (num m.last.length ++ m.last ++ r)))
  obtain ⟨c1, c2⟩ := rd_int h3 (num m.first.length ++ m.first ++ (num m.last.length ++ m.last ++ r))
  obtain ⟨d1, d2⟩ := rd_text h4 (num m.last.length ++ m.last ++ r)
  obtain ⟨f1, f2⟩ := rd_text h5 r
  rw [e]
  unfold rdM rdML
  rw [a2, b2, c2, d2, a1, b1, c1, d1, f1, f2]
  exact ⟨rfl, rfl⟩
theorem noteB_pos (m : Nt) : 0 < (noteB m).length := by
  have := num_pos m.last.length
  unfold noteB
  simp only [List.length_append]
  omega
theorem rd_notes : ∀ {l : List Nt} (_ : ∀ m ∈ l, mayBe m = true) (r : List UInt8), rdMs l.length (notesB l ++ r) = l
  | [], _, _ => rfl
  | m :: t, h, r => by
    have e : notesB (m :: t) ++ r = noteB m ++ (notesB t ++ r) := by
      unfold notesB
      rw [List.flatMap_cons, List.append_assoc]
    obtain ⟨h1, h2⟩ := rd_note (h m (by simp)) (notesB t ++ r)
    have hp := noteB_pos m
    rw [e, List.length_cons]
    unfold rdMs
    rw [if_neg (by rw [List.length_append]; omega), h1, h2, rd_notes (fun x hx => h x (List.mem_cons_of_mem _ hx)) r]
theorem notes_may2 {l : List Nt} {next : Int} (h : notesOk l next = true) : l.length ≤ 4096 ∧ ∀ m ∈ l, mayBe m = true := by
  unfold notesOk at h
  simp only [Bool.and_eq_true, decide_eq_true_eq] at h
  refine ⟨h.1.1.1, fun m hm => ?_⟩
  obtain ⟨k, hk, rfl⟩ := List.getElem_of_mem hm
  have h2 := List.all_eq_true.1 h.2 k (List.mem_range.2 hk)
  unfold okN at h2
  rw [List.getElem?_eq_getElem hk] at h2
  simp only [Bool.and_eq_true] at h2
  exact h2.1.1
/-- What was encoded is read back, whatever is behind it. -/
theorem rd_ver {v : Ver} (h : chk v = true) (r : List UInt8) : rdV (verB v ++ r) = v := by
  obtain ⟨h1, h2, h3, h4, h5⟩ := chk_parts h
  obtain ⟨hl, hm⟩ := notes_may2 h5
  obtain ⟨gen, next, log, seq, tabs⟩ := v
  simp only at h1 h2 h3 h4 h5 hl hm
  have hN : isNum (tabs.length : Int) = true := by
    unfold isNum
    simp only [Bool.and_eq_true, decide_eq_true_eq]
    omega
  have e : verB ⟨gen, next, log, seq, tabs⟩ ++ r = num (cl gen) ++ (num (cl next) ++ (num (cl log) ++ (num (cl seq) ++ (num (cl (tabs.length : Int)) ++ (notesB tabs ++ r))))) := by
    unfold verB numsB
    simp
  obtain ⟨a1, a2⟩ := rd_int h1 (num (cl next) ++ (num (cl log) ++ (num (cl seq) ++ (num (cl (tabs.length : Int)) ++ (notesB tabs ++ r)))))
  obtain ⟨b1, b2⟩ := rd_int h2 (num (cl log) ++ (num (cl seq) ++ (num (cl (tabs.length : Int)) ++ (notesB tabs ++ r))))
  obtain ⟨c1, c2⟩ := rd_int h3 (num (cl seq) ++ (num (cl (tabs.length : Int)) ++ (notesB tabs ++ r)))
  obtain ⟨d1, d2⟩ := rd_int h4 (num (cl (tabs.length : Int)) ++ (notesB tabs ++ r))
  obtain ⟨f1, f2⟩ := rd_int hN (notesB tabs ++ r)
  have f3 : rdN (num (cl (tabs.length : Int)) ++ (notesB tabs ++ r)) = tabs.length := by omega
  rw [e]
  unfold rdV
  rw [a2, b2, c2, d2, f2, f3, a1, b1, c1, d1, Nat.min_eq_left hl, rd_notes hm r]
/-- Are bytes a version's? -/
def isVer (l : List UInt8) : Bool := chk (rdV l) && decide (verB (rdV l) = l)
theorem isVer_put {v : Ver} (h : chk v = true) : isVer (verB v) = true ∧ rdV (verB v) = v := by
  have e := rd_ver h []
  rw [List.append_nil] at e
  unfold isVer
  rw [e, h]
  exact ⟨by simp, rfl⟩
theorem isVer_more {v : Ver} (h : chk v = true) {r : List UInt8} (hr : 0 < r.length) : isVer (verB v ++ r) = false := by
  unfold isVer
  rw [rd_ver h r, h, Bool.true_and, decide_eq_false_iff_not]
  intro e
  have := congrArg List.length e
  rw [List.length_append] at this
  omega
theorem isVer_cut {v : Ver} (h : chk v = true) {k : Nat} (hk : k < (verB v).length) : isVer ((verB v).take k) = false := by
  cases hx : isVer ((verB v).take k) with
  | false => rfl
  | true =>
    unfold isVer at hx
    simp only [Bool.and_eq_true, decide_eq_true_eq] at hx
    have h2 := isVer_more hx.1 (r := (verB v).drop k) (by rw [List.length_drop]; omega)
    rw [hx.2, List.take_append_drop, (isVer_put h).1] at h2
    cases h2
end Go.Proofs.Ytbahldabcieiaaa.Ed
