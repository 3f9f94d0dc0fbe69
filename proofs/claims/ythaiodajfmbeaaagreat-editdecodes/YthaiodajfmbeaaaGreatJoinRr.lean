/- Versions read from bytes, over plain lists; no walk. -/
/- Versions read from bytes as the document reads them, over plain lists; no walk. -/
/- The walks of the document's PutNum and of Same. -/
/- The walks of the document's TakeNum and TakeFix. -/
/- The walk of the document's TakeText. -/
/- Entries and lists of entries in order, over plain lists; no walk. -/
/- Blocks over plain lists; no walk. -/
/- The walk of the document's TakeText once more: what it answers lies in a block of bytes; what both take, as one answer. -/
/- A drawn region whose last operation waits for all the others: that operation may be parted from it; no walk. -/
/- A drawn region's last operation parted from it, as one step; operations taken by hand; no walk. -/
/- How far read has come; no walk. -/
/- Rows of records: heads, tails, what is appended at a drawn step; no walk. -/
import Derived.Test.YthaiodajfmbeaaaGreatHv
import Derived.Test.YthaiodajfmbeaaaGreatRp
import Derived.Test.YthaiodajfmbeaaaGreatT
import Derived.Test.YthaiodajfmbeaaaGreatTt
import Derived.Test.YthaiodajfmbeaaaGreatKl
import Derived.Test.YthaiodajfmbeaaaGreatUn
import Derived.Test.YthaiodajfmbeaaaGreatTw
import Derived.Test.YthaiodajfmbeaaaGreatJoinH6
import Derived.Test.YthaiodajfmbeaaaGreatH8
import Derived.Deep.AppendLies
import Derived.Laws.AppendOwnNone
namespace Go.Proofs.YthaiodajfmbeaaaGreat.Ed

theorem take_pre {p r : List UInt8} {k : Nat} (h : p.length ≤ k) : (p ++ r).take k = p ++ r.take (k - p.length) := by
  rw [List.take_append, List.take_of_length_le h]
theorem rd_num {n : Nat} (h : n < 4611686018427387904) (r : List UInt8) : rdN (num n ++ r) = n ∧ rdL (num n ++ r) = r := by
  have h9 := num_le' n (by omega)
  have ht := take_pre (r := r) h9
  have hp := takeNum_put (r := r.take (9 - (num n).length)) h
  unfold rdN rdL
  rw [ht]
  have e1 : nOf (num n ++ r.take (9 - (num n).length)) = n := by simp [nOf, hp]
  have e2 : rOf (num n ++ r.take (9 - (num n).length)) = r.take (9 - (num n).length) := by simp [rOf, hp]
  have e3 : eOf (num n ++ r.take (9 - (num n).length)) = 0 := by simp [eOf, hp]
  refine ⟨e1, ?_⟩
  rw [e2, e3, if_pos rfl, List.length_append, Nat.add_sub_cancel, List.drop_left]
theorem rd_text {s : List UInt8} (h : s.length ≤ 64) (r : List UInt8) : rdS (num s.length ++ s ++ r) = s ∧ rdT (num s.length ++ s ++ r) = r := by
  have h9 := num_le' s.length (by omega)
  have hl : (num s.length ++ s).length ≤ 73 := by rw [List.length_append]; omega
  have ht := take_pre (r := r) hl
  obtain ⟨x, hx⟩ : ∃ x, r.take (73 - (num s.length ++ s).length) = x := ⟨_, rfl⟩
  rw [hx] at ht
  have hp : takeNum (num s.length ++ s ++ x) = some (s.length, s ++ x) := by
    rw [List.append_assoc]
    exact takeNum_put (by omega)
  have hy := txt_yes (most := 64) hp ⟨by omega, by rw [List.length_append]; omega⟩
  rw [List.take_left, List.drop_left] at hy
  unfold rdS rdT
  rw [ht]
  have e1 : tS (num s.length ++ s ++ x) 64 = s := by unfold tS; rw [hy]; rfl
  have e2 : tR (num s.length ++ s ++ x) 64 = x := by unfold tR; rw [hy]; rfl
  have e3 : tE (num s.length ++ s ++ x) 64 = 0 := by unfold tE; rw [hy]; rfl
  refine ⟨e1, ?_⟩
  have e4 : (num s.length ++ s ++ x).length - x.length = (num s.length ++ s).length := by
    simp only [List.length_append]
    omega
  rw [e2, e3, if_pos rfl, e4, List.drop_left]
/-- A note read, and what is left. -/
def rdM (l : List UInt8) : Nt := ⟨(rdN l : Nat), (rdN (rdL l) : Nat), (rdN (rdL (rdL l)) : Nat), rdS (rdL (rdL (rdL l))), rdS (rdT (rdL (rdL (rdL l))))⟩
def rdML (l : List UInt8) : List UInt8 := rdT (rdT (rdL (rdL (rdL l))))
/-- Notes read, k of them at the most. -/
def rdMs : Nat → List UInt8 → List Nt
  | 0, _ => []
  | k + 1, l => if l.length = 0 then [] else rdM l :: rdMs k (rdML l)
/-- A version read. -/
def rdV (l : List UInt8) : Ver := ⟨(rdN l : Nat), (rdN (rdL l) : Nat), (rdN (rdL (rdL l)) : Nat), (rdN (rdL (rdL (rdL l))) : Nat), rdMs (min (rdN (rdL (rdL (rdL (rdL l))))) 4096) (rdL (rdL (rdL (rdL (rdL l)))))⟩
theorem cl_num {z : Int} (h : isNum z = true) : ((cl z : Nat) : Int) = z ∧ cl z < 4611686018427387904 := by
  unfold isNum at h
  unfold cl
  simp only [Bool.and_eq_true, decide_eq_true_eq] at h
  omega
theorem rd_int {z : Int} (h : isNum z = true) (r : List UInt8) : ((rdN (num (cl z) ++ r) : Nat) : Int) = z ∧ rdL (num (cl z) ++ r) = r := by
  obtain ⟨h1, h2⟩ := cl_num h
  obtain ⟨h3, h4⟩ := rd_num h2 r
  exact ⟨by rw [h3, h1], h4⟩
theorem note_parts {m : Nt} (h : mayBe m = true) : isNum m.num = true ∧ isNum m.level = true ∧ isNum m.count = true ∧ m.first.length ≤ 64 ∧ m.last.length ≤ 64 := by
  unfold mayBe at h
  simp only [Bool.and_eq_true, decide_eq_true_eq] at h
  obtain ⟨⟨⟨⟨⟨⟨⟨h1, h2⟩, h3⟩, h4⟩, h5⟩, h6⟩, h7⟩, _⟩ := h
  unfold isKey at h6 h7
  simp only [Bool.and_eq_true, decide_eq_true_eq] at h6 h7
  refine ⟨h1, ?_, ?_, h6.2, h7.2⟩
  · unfold isNum
    simp only [Bool.and_eq_true, decide_eq_true_eq]
    omega
  · unfold isNum
    simp only [Bool.and_eq_true, decide_eq_true_eq]
    omega
theorem rd_note {m : Nt} (h : mayBe m = true) (r : List UInt8) : rdM (noteB m ++ r) = m ∧ rdML (noteB m ++ r) = r := by
  obtain ⟨h1, h2, h3, h4, h5⟩ := note_parts h
  have e : noteB m ++ r = num (cl m.num) ++ (num (cl m.level) ++ (num (cl m.count) ++ (num m.first.length ++ m.first ++ (num m.last.length ++ m.last ++ r)))) := by
    unfold noteB numsB
    simp
  obtain ⟨a1, a2⟩ := rd_int h1 (num (cl m.level) ++ (num (cl m.count) ++ (num m.first.length ++ m.first ++ (num m.last.length ++ m.last ++ r))))
  obtain ⟨b1, b2⟩ := rd_int h2 (num (cl m.count) ++ (num m.first.length ++ m.first ++ (num m.last.length ++ m.last ++ r)))
  obtain ⟨c1, c2⟩ := rd_int h3 (num m.first.length ++ m.first ++ (num m.last.length ++ m.last ++ r))
  obtain ⟨d1, d2⟩ := rd_text h4 (num m.last.length ++ m.last ++ r)
  obtain ⟨f1, f2⟩ := rd_text h5 r
  rw [e]
  unfold rdM rdML
  rw [a2, b2, c2, d2, a1, b1, c1, d1, f1, f2]
  exact ⟨rfl, rfl⟩
theorem noteB_pos (m : Nt) : 0 < (noteB m).length := by
  have := num_pos m.last.length
  unfold noteB
  simp only [List.length_append]
  omega
theorem rd_notes : ∀ {l : List Nt} (_ : ∀ m ∈ l, mayBe m = true) (r : List UInt8), rdMs l.length (notesB l ++ r) = l
  | [], _, _ => rfl
  | m :: t, h, r => by
    have e : notesB (m :: t) ++ r = noteB m ++ (notesB t ++ r) := by
      unfold notesB
      rw [List.flatMap_cons, List.append_assoc]
    obtain ⟨h1, h2⟩ := rd_note (h m (by simp)) (notesB t ++ r)
    have hp := noteB_pos m
    rw [e, List.length_cons]
    unfold rdMs
    rw [if_neg (by rw [List.length_append]; omega), h1, h2, rd_notes (fun x hx => h x (List.mem_cons_of_mem _ hx)) r]
theorem notes_may2 {l : List Nt} {next : Int} (h : notesOk l next = true) : l.length ≤ 4096 ∧ ∀ m ∈ l, mayBe m = true := by
  unfold notesOk at h
  simp only [Bool.and_eq_true, decide_eq_true_eq] at h
  refine ⟨h.1.1.1, fun m hm => ?_⟩
  obtain ⟨k, hk, rfl⟩ := List.getElem_of_mem hm
  have h2 := List.all_eq_true.1 h.2 k (List.mem_range.2 hk)
  unfold okN at h2
  rw [List.getElem?_eq_getElem hk] at h2
  simp only [Bool.and_eq_true] at h2
  exact h2.1.1
/-- What was encoded is read back, whatever is behind it. -/
theorem rd_ver {v : Ver} (h : chk v = true) (r : List UInt8) : rdV (verB v ++ r) = v := by
  obtain ⟨h1, h2, h3, h4, h5⟩ := chk_parts h
  obtain ⟨hl, hm⟩ := notes_may2 h5
  obtain ⟨gen, next, log, seq, tabs⟩ := v
  simp only at h1 h2 h3 h4 h5 hl hm
  have hN : isNum (tabs.length : Int) = true := by
    unfold isNum
    simp only [Bool.and_eq_true, decide_eq_true_eq]
    omega
  have e : verB ⟨gen, next, log, seq, tabs⟩ ++ r = num (cl gen) ++ (num (cl next) ++ (num (cl log) ++ (num (cl seq) ++ (num (cl (tabs.length : Int)) ++ (notesB tabs ++ r))))) := by
    unfold verB numsB
    simp
  obtain ⟨a1, a2⟩ := rd_int h1 (num (cl next) ++ (num (cl log) ++ (num (cl seq) ++ (num (cl (tabs.length : Int)) ++ (notesB tabs ++ r)))))
  obtain ⟨b1, b2⟩ := rd_int h2 (num (cl log) ++ (num (cl seq) ++ (num (cl (tabs.length : Int)) ++ (notesB tabs ++ r))))
  obtain ⟨c1, c2⟩ := rd_int h3 (num (cl seq) ++ (num (cl (tabs.length : Int)) ++ (notesB tabs ++ r)))
  obtain ⟨d1, d2⟩ := rd_int h4 (num (cl (tabs.length : Int)) ++ (notesB tabs ++ r))
  obtain ⟨f1, f2⟩ := rd_int hN (notesB tabs ++ r)
  have f3 : rdN (num (cl (tabs.length : Int)) ++ (notesB tabs ++ r)) = tabs.length := by omega
  rw [e]
  unfold rdV
  rw [a2, b2, c2, d2, f2, f3, a1, b1, c1, d1, Nat.min_eq_left hl, rd_notes hm r]
/-- Are bytes a version's? -/
def isVer (l : List UInt8) : Bool := chk (rdV l) && decide (verB (rdV l) = l)
theorem isVer_put {v : Ver} (h : chk v = true) : isVer (verB v) = true ∧ rdV (verB v) = v := by
  have e := rd_ver h []
  rw [List.append_nil] at e
  unfold isVer
  rw [e, h]
  exact ⟨by simp, rfl⟩
theorem isVer_more {v : Ver} (h : chk v = true) {r : List UInt8} (hr : 0 < r.length) : isVer (verB v ++ r) = false := by
  unfold isVer
  rw [rd_ver h r, h, Bool.true_and, decide_eq_false_iff_not]
  intro e
  have := congrArg List.length e
  rw [List.length_append] at this
  omega
theorem isVer_cut {v : Ver} (h : chk v = true) {k : Nat} (hk : k < (verB v).length) : isVer ((verB v).take k) = false := by
  cases hx : isVer ((verB v).take k) with
  | false => rfl
  | true =>
    unfold isVer at hx
    simp only [Bool.and_eq_true, decide_eq_true_eq] at hx
    have h2 := isVer_more hx.1 (r := (verB v).drop k) (by rw [List.length_drop]; omega)
    rw [hx.2, List.take_append_drop, (isVer_put h).1] at h2
    cases h2
end Go.Proofs.YthaiodajfmbeaaaGreat.Ed
namespace Go.Proofs.YthaiodajfmbeaaaGreat.Ed

/-- What is left, and whether there was nothing to read. -/
def ddB (l : List UInt8) : Bool := !decide (eOf l = 0)
def ddC (l : List UInt8) : Bool := !decide (tE l 64 = 0)
theorem dd_num {n : Nat} (h : n < 4611686018427387904) (r : List UInt8) : nOf (num n ++ r) = n ∧ rOf (num n ++ r) = r ∧ ddB (num n ++ r) = false := by
  have hp := takeNum_put (r := r) h
  have e3 : eOf (num n ++ r) = 0 := by simp [eOf, hp]
  exact ⟨by simp [nOf, hp], by simp [rOf, hp], by unfold ddB; rw [e3]; rfl⟩
theorem dd_text {s : List UInt8} (h : s.length ≤ 64) (r : List UInt8) : tS (num s.length ++ s ++ r) 64 = s ∧ tR (num s.length ++ s ++ r) 64 = r ∧ ddC (num s.length ++ s ++ r) = false := by
  have hp : takeNum (num s.length ++ s ++ r) = some (s.length, s ++ r) := by
    rw [List.append_assoc]
    exact takeNum_put (by omega)
  have hy := txt_yes (most := 64) hp ⟨by omega, by rw [List.length_append]; omega⟩
  rw [List.take_left, List.drop_left] at hy
  have e3 : tE (num s.length ++ s ++ r) 64 = 0 := by unfold tE; rw [hy]; rfl
  exact ⟨by unfold tS; rw [hy]; rfl, by unfold tR; rw [hy]; rfl, by unfold ddC; rw [e3]; rfl⟩
/-- A note read, what is left, whether something was missing. -/
def ddM (l : List UInt8) : Nt := ⟨(nOf l : Nat), (nOf (rOf l) : Nat), (nOf (rOf (rOf l)) : Nat), tS (rOf (rOf (rOf l))) 64, tS (tR (rOf (rOf (rOf l))) 64) 64⟩
def ddML (l : List UInt8) : List UInt8 := tR (tR (rOf (rOf (rOf l))) 64) 64
def ddMB (l : List UInt8) : Bool := ddB l || ddB (rOf l) || ddB (rOf (rOf l)) || ddC (rOf (rOf (rOf l))) || ddC (tR (rOf (rOf (rOf l))) 64)
/-- Notes read, k of them at the most, as long as nothing is missing; whether something was. -/
def ddMs : Nat → List UInt8 → Bool → List Nt × Bool
  | 0, _, b => ([], b)
  | k + 1, l, b => if b then ([], true) else (ddM l :: (ddMs k (ddML l) (ddMB l)).1, (ddMs k (ddML l) (ddMB l)).2)
theorem ddMs_end {k : Nat} {l : List UInt8} {b : Bool} (h : k = 0 ∨ b = true) : ddMs k l b = ([], b) := by
  cases k with
  | zero => rfl
  | succ k =>
    rcases h with h | h
    · omega
    · subst h; rfl
/-- A version read. -/
def ddN5 (l : List UInt8) : Bool := ddB l || ddB (rOf l) || ddB (rOf (rOf l)) || ddB (rOf (rOf (rOf l))) || ddB (rOf (rOf (rOf (rOf l))))
def ddT (l : List UInt8) : List Nt × Bool := ddMs (min (nOf (rOf (rOf (rOf (rOf l))))) 4096) (rOf (rOf (rOf (rOf (rOf l))))) (ddN5 l)
def ddV (l : List UInt8) : Ver := ⟨(nOf l : Nat), (nOf (rOf l) : Nat), (nOf (rOf (rOf l)) : Nat), (nOf (rOf (rOf (rOf l))) : Nat), (ddT l).1⟩
theorem dd_int {z : Int} (h : isNum z = true) (r : List UInt8) : ((nOf (num (cl z) ++ r) : Nat) : Int) = z ∧ rOf (num (cl z) ++ r) = r ∧ ddB (num (cl z) ++ r) = false := by
  obtain ⟨h1, h2⟩ := cl_num h
  obtain ⟨h3, h4, h5⟩ := dd_num h2 r
  exact ⟨by rw [h3, h1], h4, h5⟩
theorem dd_note {m : Nt} (h : mayBe m = true) (r : List UInt8) : ddM (noteB m ++ r) = m ∧ ddML (noteB m ++ r) = r ∧ ddMB (noteB m ++ r) = false := by
  obtain ⟨h1, h2, h3, h4, h5⟩ := note_parts h
  have e : noteB m ++ r = num (cl m.num) ++ (num (cl m.level) ++ (num (cl m.count) ++ (num m.first.length ++ m.first ++ (num m.last.length ++ m.last ++ r)))) := by
    unfold noteB numsB
    simp
  obtain ⟨a1, a2, a3⟩ := dd_int h1 (num (cl m.level) ++ (num (cl m.count) ++ (num m.first.length ++ m.first ++ (num m.last.length ++ m.last ++ r))))
  obtain ⟨b1, b2, b3⟩ := dd_int h2 (num (cl m.count) ++ (num m.first.length ++ m.first ++ (num m.last.length ++ m.last ++ r)))
  obtain ⟨c1, c2, c3⟩ := dd_int h3 (num m.first.length ++ m.first ++ (num m.last.length ++ m.last ++ r))
  obtain ⟨d1, d2, d3⟩ := dd_text h4 (num m.last.length ++ m.last ++ r)
  obtain ⟨f1, f2, f3⟩ := dd_text h5 r
  rw [e]
  unfold ddM ddML ddMB
  rw [a2, b2, c2, d2, a1, b1, c1, d1, f1, f2, a3, b3, c3, d3, f3]
  exact ⟨rfl, rfl, rfl⟩
theorem dd_notes : ∀ {l : List Nt} (_ : ∀ m ∈ l, mayBe m = true) (r : List UInt8), ddMs l.length (notesB l ++ r) false = (l, false)
  | [], _, _ => rfl
  | m :: t, h, r => by
    have e : notesB (m :: t) ++ r = noteB m ++ (notesB t ++ r) := by
      unfold notesB
      rw [List.flatMap_cons, List.append_assoc]
    obtain ⟨h1, h2, h3⟩ := dd_note (h m (by simp)) (notesB t ++ r)
    rw [e, List.length_cons]
    unfold ddMs
    rw [if_neg (by decide), h1, h2, h3, dd_notes (fun x hx => h x (List.mem_cons_of_mem _ hx)) r]
theorem dd_ver {v : Ver} (h : chk v = true) (r : List UInt8) : ddV (verB v ++ r) = v ∧ (ddT (verB v ++ r)).2 = false := by
  obtain ⟨h1, h2, h3, h4, h5⟩ := chk_parts h
  obtain ⟨hl, hm⟩ := notes_may2 h5
  obtain ⟨gen, next, log, seq, tabs⟩ := v
  simp only at h1 h2 h3 h4 h5 hl hm
  have hN : isNum (tabs.length : Int) = true := by
    unfold isNum
    simp only [Bool.and_eq_true, decide_eq_true_eq]
    omega
  have e : verB ⟨gen, next, log, seq, tabs⟩ ++ r = num (cl gen) ++ (num (cl next) ++ (num (cl log) ++ (num (cl seq) ++ (num (cl (tabs.length : Int)) ++ (notesB tabs ++ r))))) := by
    unfold verB numsB
    simp
  obtain ⟨a1, a2, a3⟩ := dd_int h1 (num (cl next) ++ (num (cl log) ++ (num (cl seq) ++ (num (cl (tabs.length : Int)) ++ (notesB tabs ++ r)))))
  obtain ⟨b1, b2, b3⟩ := dd_int h2 (num (cl log) ++ (num (cl seq) ++ (num (cl (tabs.length : Int)) ++ (notesB tabs ++ r))))
  obtain ⟨c1, c2, c3⟩ := dd_int h3 (num (cl seq) ++ (num (cl (tabs.length : Int)) ++ (notesB tabs ++ r)))
  obtain ⟨d1, d2, d3⟩ := dd_int h4 (num (cl (tabs.length : Int)) ++ (notesB tabs ++ r))
  obtain ⟨f1, f2, f3⟩ := dd_int hN (notesB tabs ++ r)
  have f4 : nOf (num (cl (tabs.length : Int)) ++ (notesB tabs ++ r)) = tabs.length := by omega
  have T : ddT (verB ⟨gen, next, log, seq, tabs⟩ ++ r) = (tabs, false) := by
    rw [e]
    unfold ddT ddN5
    rw [a2, b2, c2, d2, f2, f4, a3, b3, c3, d3, f3, Nat.min_eq_left hl]
    exact dd_notes hm r
  refine ⟨?_, by rw [T]⟩
  unfold ddV
  rw [T, e, a2, b2, c2, a1, b1, c1, d1]
/-- The document takes what the program takes. -/
theorem dd_is (l : List UInt8) : isVer l = (!(ddT l).2 && (chk (ddV l) && decide (verB (ddV l) = l))) ∧ (isVer l = true → ddV l = rdV l) := by
  cases hi : isVer l with
  | true =>
    unfold isVer at hi
    simp only [Bool.and_eq_true, decide_eq_true_eq] at hi
    obtain ⟨h1, h2⟩ := dd_ver hi.1 []
    rw [List.append_nil, hi.2] at h1 h2
    refine ⟨?_, fun _ => h1⟩
    rw [h1, h2, hi.1, decide_eq_true hi.2]
    rfl
  | false =>
    refine ⟨?_, fun h => by cases h⟩
    cases hc : (chk (ddV l) && decide (verB (ddV l) = l)) with
    | false => rw [Bool.and_false]
    | true =>
      simp only [Bool.and_eq_true, decide_eq_true_eq] at hc
      have h1 := (isVer_put hc.1).1
      rw [hc.2, hi] at h1
      cases h1
end Go.Proofs.YthaiodajfmbeaaaGreat.Ed
namespace Go.Proofs.YthaiodajfmbeaaaGreat
open Go.RowKit

set_option maxHeartbeats 1000000 in
set_option maxRecDepth 100000 in
theorem rputNum_any (ao : Option Addr) (m c : Nat) (l : List UInt8) (n : Int) (w : World) (hm : m + 9 ≤ 140737488355328) (hs : Src w ao m c l) :
    Calls Tryz.prog 37 #[.slice ao m c, .int .i64 n] w fun e w' => ∃ v, e = .returned v ∧ New w w' v (m + (num (cl n)).length) (l ++ num (cl n)) := by
  obtain ⟨i0, hi, hz0, hz1, hz2⟩ := info_parts info5
  have h9 := num9 n
  have hll := hs.len
  have HS := keep hs
  clear hs
  go_enter Tryz.func37, Tryz.ntmps37
  go_wp2_with (at_builtin; refine wpList_append_src rfl _ _ 22 rfl w.heap.size i0 _ Tryz.underlying22 hi hz0 hz1 hz2 rfl _ 0 [] rfl (World.ownsRow_nil _ _ _ _) _ m c l rfl HS.out (by omega) (Nat.le_refl _) ?_; intro v1 w1 ho1 hg1; have ho2 := keep ho1; simp only [Nat.zero_add, List.nil_append] at ho2; have hb1 := keep ((Below.refl w.heap.size w).grown hg1 (Nat.le_refl _) (fun j hj => by cases hj)); clear ho1 hg1)
  all_goals
    go_loopw [1, 5] (fun i v wr => ∃ (p : List UInt8) (k N : Nat), N ≤ 4611686018427387903 ∧ i = .int .i64 (N : Int) ∧ p.length = k ∧ Hid (l ++ num (cl n) = p ++ num N) ∧ Hid (wr.ownsRow w.heap.size 5 1 v k (bv p)) ∧ Hid (Below w.heap.size w wr)) (fun i _ _ => (intOf i).toNat)
    case atStart =>
      exact ⟨l, m, cl n, cl_le n, by unfold cl; congr 1; omega, hll, rfl, ho2, hb1⟩
    case round =>
      clear ho2 hb1
      obtain ⟨p, k, N, hN, rfl, hpk, hp, ho, hb⟩ := hrel
      have hk9 : k < m + 9 := by
        have h1 := congrArg List.length hp.out
        have h2 := num_pos N
        rw [List.length_append, List.length_append, hpk, hll] at h1
        omega
      by_cases hlt : 128 ≤ N
      · have hp' : Hid (l ++ num (cl n) = (p ++ [UInt8.ofNat (128 + N % 128)]) ++ num (N / 128)) := by rw [← num_cons hlt]; exact hp.out
        obtain ⟨y, hy⟩ : ∃ y : UInt8, UInt8.ofNat (128 + N % 128) = y := ⟨_, rfl⟩
        have hx : Hid (128 + (N : Int) % 128 = (y.toNat : Int)) := by rw [← hy, ofNat_group]; show _ = _; omega
        rw [hy] at hp'
        clear hy
        go_wp2_with (at_builtin; refine wpList_append_src rfl _ _ 22 rfl w.heap.size i0 _ Tryz.underlying22 hi hz0 hz1 hz2 rfl _ k p rfl (by exact ho.out.alloc _) _ 1 1 [y] rfl (Src.builtI _ _ _ (by have := hx.out; omega)) (by omega) (le_alloc hb.out.size _) ?_; intro v2 w2 ho2 hg2; have hb3 := keep ((hb.out.alloc hb.out.size _).grown hg2 (le_alloc hb.out.size _) (fun j hj => (ho.out.lt j hj).1)); have ho3 := keep ho2; clear ho2 hg2)
        go_roundw
        case rel => exact ⟨_, k + 1, N / 128, by omega, by first | rfl | (congr 1; omega), by simp [hpk], hp', ho3, hb3⟩
        case measure => simp [intOf]; omega
      · have hl : m + (num (cl n)).length = k + 1 := by
          have h1 := congrArg List.length hp.out
          rw [List.length_append, List.length_append, hpk, hll, len_small (n := N) (by omega)] at h1
          exact h1
        have hq : Hid (l ++ num (cl n) = p ++ [UInt8.ofNat N]) := hp.out.trans (by rw [num_small (by omega)])
        have hx : Hid ((N : Int) = ((UInt8.ofNat N).toNat : Int)) := by rw [ofNat_last (by omega)]; exact rfl
        obtain ⟨y, hy⟩ : ∃ y : UInt8, UInt8.ofNat N = y := ⟨_, rfl⟩
        rw [hy] at hx hq
        clear hy
        go_wp2_with (at_builtin; refine wpList_append_src rfl _ _ 22 rfl w.heap.size i0 _ Tryz.underlying22 hi hz0 hz1 hz2 rfl _ k p rfl (by exact ho.out.alloc _) _ 1 1 [y] rfl (Src.builtI _ _ _ (by have := hx.out; omega)) (by omega) (le_alloc hb.out.size _) ?_; intro v2 w2 ho2 hg2; have hb3 := keep ((hb.out.alloc hb.out.size _).grown hg2 (le_alloc hb.out.size _) (fun j hj => (ho.out.lt j hj).1)); have ho3 := keep ho2; clear ho2 hg2)
        go_ret
        rw [hl, hq.out]
        exact ⟨_, rfl, ho3.out, hb3.out⟩

end Go.Proofs.YthaiodajfmbeaaaGreat
namespace Go.Proofs.YthaiodajfmbeaaaGreat
open Go.RowKit

theorem cl_nat (n : Nat) (h : n ≤ 4611686018427387903) : cl (n : Int) = n := by unfold cl; omega
theorem rputNum_nil (n : Int) (w : World) : Calls Tryz.prog 37 #[.slice none 0 0, .int .i64 n] w fun e w' => ∃ ao c, e = .returned (.slice ao (num (cl n)).length c) ∧ New w w' (.slice ao (num (cl n)).length c) (num (cl n)).length (num (cl n)) :=
  (rputNum_any none 0 0 [] n w (by omega) (src_nil w)).mono fun e w' ⟨v, he, h⟩ => by
    simp only [Nat.zero_add, List.nil_append] at h
    obtain ⟨ao, c, rfl, _, _⟩ := h.src
    exact ⟨ao, c, he, h⟩
theorem part_lt (V d k : Nat) (hV : V < 128 ^ k) (hd : d < 128) (hk : k ≤ 8) (hg : k = 8 → d ≤ 63) : V + d * 128 ^ k < 4611686018427387904 := by
  rw [Nat.mul_comm]
  rcases Nat.lt_or_ge k 8 with h | h
  · have hpow : 128 ^ k ≤ 128 ^ 7 := Nat.pow_le_pow_right (by decide) (by omega)
    have : 128 ^ k * d ≤ 128 ^ 7 * 127 := Nat.mul_le_mul hpow (by omega)
    have e3 : (128 : Nat) ^ 7 = 562949953421312 := rfl
    omega
  · obtain rfl : k = 8 := by omega
    have := hg rfl
    have e3 : (128 : Nat) ^ 8 = 72057594037927936 := rfl
    omega

set_option maxHeartbeats 1000000 in
set_option maxRecDepth 100000 in
theorem rtakeNum_any (ao : Option Addr) (m c : Nat) (l : List UInt8) (w : World) (hm : m ≤ 140737488355328) (hs : Src w ao m c l) :
    Calls Tryz.prog 34 #[.slice ao m c] w fun e w' => (∃ n r v, takeNum l = some (n, r) ∧ e = .returned (.tuple #[.int .i64 (n : Int), v, .int .i64 0]) ∧ New w w' v r.length r) ∨ (takeNum l = none ∧ e = .returned (.tuple #[.int .i64 0, .slice none 0 0, .int .i64 2]) ∧ Below w.heap.size w w') := by
  obtain ⟨i0, hi, hz0, hz1, hz2⟩ := info_parts info5
  have HS := keep hs
  have hll := hs.len
  have hcap := hs.cap
  clear hs
  go_enter Tryz.func34, Tryz.ntmps34
  go_wp2
  go_loopw [5, 6, 7] (fun x y i wr => ∃ (k : Nat) (V W : Int), k ≤ m ∧ k ≤ 9 ∧ i = .int .i64 (k : Int) ∧ x = .int .i64 V ∧ y = .int .i64 W ∧ Hid (k ≤ 8 → V = ((val (l.take k) : Nat) : Int) ∧ W = ((128 ^ k : Nat) : Int)) ∧ Hid (∀ x ∈ l.take k, 128 ≤ x.toNat) ∧ Hid (Below w.heap.size w wr)) (fun _ _ i _ => 9 - (intOf i).toNat)
  case atStart => exact ⟨0, 0, 1, Nat.zero_le _, by omega, rfl, rfl, rfl, fun _ => ⟨rfl, rfl⟩, by simp [Hid], Below.refl _ _⟩
  case round =>
    obtain ⟨k, V, W, hk, hk9, rfl, rfl, rfl, hVW, hall, hb⟩ := hrel
    by_cases hlt : k < m ∧ k < 9
    · obtain ⟨hlt, hk8⟩ := hlt
      obtain ⟨rfl, rfl⟩ := hVW.out (by omega)
      obtain ⟨b, off, rfl, hbw, hby⟩ := HS.out.form (by omega)
      have hcell : wr.cell? ⟨b, off + k, none⟩ = some (.int .u8 ((fn l k).toNat : Int)) := by
        rw [hb.out.cell (p := ⟨b, off + k, none⟩) hbw]; exact hby k hlt
      have h0 : (0 : Int) ≤ (k : Int) := by omega
      have h1 : (k : Int) < (m : Int) := by omega
      have h2 : (k : Int) < 9 := by omega
      clear hby hVW
      obtain ⟨y, hy⟩ : ∃ y, fn l k = y := ⟨_, rfl⟩
      have HY := keep hy
      rw [hy] at hcell
      clear hy
      have hyl := y.toNat_lt
      have hVl : val (l.take k) < 128 ^ k := by have := val_lt (l.take k); rwa [List.length_take, Nat.min_eq_left (by omega)] at this
      have hmore : Hid (val (l.take (k + 1)) = val (l.take k) + 128 ^ k * (y.toNat % 128)) := by have := rg_val (l := l) (k := k) (by omega); rwa [HY.out] at this
      by_cases ha : k = 8 ∧ 63 < y.toNat % 128
      · obtain ⟨rfl, ha⟩ := ha
        have hnone : Hid (takeNum l = none) := rg_great hall.out (by omega) (by rw [HY.out]; omega)
        have ha' : (63 : Int) < (y.toNat : Int) % 128 := by omega
        clear hVl hmore
        go_wp2
        go_ret3
        exact .inr ⟨hnone.out, rfl, hb.out⟩
      · obtain ⟨D, hD⟩ : ∃ D, y.toNat % 128 = D := ⟨_, rfl⟩
        have hDi : (y.toNat : Int) % 128 = (D : Int) := by omega
        have hP := part_lt (val (l.take k)) D k hVl (by omega) (by omega) (by omega)
        obtain ⟨P, hPd⟩ : ∃ P, D * 128 ^ k = P := ⟨_, rfl⟩
        have hPi : (D : Int) * ((128 ^ k : Nat) : Int) = (P : Int) := by rw [← hPd, Int.natCast_mul]
        have hmore2 : Hid (val (l.take (k + 1)) = val (l.take k) + P) := by rw [hmore.out, hD, Nat.mul_comm, hPd]; exact rfl
        rw [hPd] at hP
        have haa : ¬ ((k : Int) = 8 ∧ (63 : Int) < (D : Int)) := by omega
        obtain ⟨V, hV⟩ : ∃ V, val (l.take k) = V := ⟨_, rfl⟩
        rw [hV] at hP hmore2 ⊢
        have HV := keep hV
        have HPD := keep hPd
        have HD := keep hD
        obtain ⟨W, hW⟩ : ∃ W, 128 ^ k = W := ⟨_, rfl⟩
        rw [hW] at hPi ⊢
        have HW := keep hW
        clear hV hPd hD hmore hVl hW
        by_cases hk88 : k = 8
        · subst hk88
          have hD63 : ¬ ((63 : Int) < (D : Int)) := by omega
          by_cases hbb : 128 ≤ y.toNat
          · have hbb' : ¬ ((y.toNat : Int) < 128) := by omega
            have hall' : Hid (∀ x ∈ l.take (9), 128 ≤ x.toNat) := rg_more hall.out (by omega) (by rw [HY.out]; exact hbb)
            go_wp2
            go_roundw
            case rel => exact ⟨8 + 1, (V : Int) + (P : Int), _, by omega, by omega, by first | rfl | go_num, rfl, rfl, fun h => by omega, hall', hb⟩
            case measure => simp [intOf]
          · have hbb' : (y.toNat : Int) < 128 := by omega
            have hDy : D = y.toNat := by have := HD.out; omega
            have hPy : (y.toNat : Int) * (W : Int) = (P : Int) := by rw [← hDy]; exact hPi
            have hy63 : ¬ ((63 : Int) < (y.toNat : Int)) := by omega
            have hcl : cl ((V : Int) + (P : Int)) = V + P := cl_nat (V + P) (by omega)
            go_wp2_with fail
            refine (rputNum_nil ((V : Int) + (P : Int)) wr).mono ?_
            rintro e w1 ⟨a1, c1, rfl, hn1⟩
            rw [hcl]
            have HB1 := keep (hb.out.trans (hn1.2.mono hb.out.size))
            clear hn1
            by_cases hz : 8 = 0 ∨ y.toNat ≠ 0
            · have hdone : Hid (takeNum l = some (V + P, l.drop (9))) := by
                have := rg_done hall.out (by omega) (by omega) (by rw [HY.out]; omega) (by rw [HY.out]; exact hz) (by rw [HY.out]; omega)
                rw [HY.out, HV.out, Nat.mul_comm, ← hDy, HPD.out] at this
                exact this
              have hL : (num (V + P)).length = 9 := by
                have h1 := (takeNum_some hdone.out).2
                have h2 := congrArg List.length h1
                rw [List.length_append, List.length_drop, hll] at h2
                omega
              rw [hL]
              have HT := keep ((HS.out.below HB1.out).tailS (9) (by omega))
              have HT0 := keep (fun h => (HS.out.below HB1.out).tail0 (9) h)
              have hlen : (l.drop (9)).length = m - (9) := by rw [List.length_drop, hll]
              have g1 : (9 : Int) ≤ (m : Int) := by omega
              have g2 : (0 : Int) ≤ (9 : Int) := by omega
              have g3 : (9 : Int).toNat = 9 := rfl
              clear hcell hL
              by_cases hck : c = 9
              · subst hck
                obtain rfl : m = 9 := by omega
                have HT9 := keep (HT0.out rfl)
                clear HT0 HT
                go_wp2_with (at_builtin; refine wpList_append_src rfl _ _ 22 rfl w1.heap.size i0 _ Tryz.underlying22 hi hz0 hz1 hz2 rfl _ 0 [] rfl (World.ownsRow_made w1 #[] 0 (Nat.le_refl _) (by unfold maxLen; omega) rfl) _ 0 0 (l.drop (9)) rfl (HT9.out.below ((Below.refl _ _).alloc (Nat.le_refl _) _)) (by omega) (by simp) ?_; intro v2 w2 ho2 hg2; simp only [Nat.zero_add, List.nil_append] at ho2; have hb2 := keep (((Below.refl w1.heap.size w1).alloc (Nat.le_refl _) _).grown hg2 (by simp) (fun j hj => by cases hj; exact Nat.le_refl _)); have ho3 := keep ho2; clear ho2 hg2)
                go_ret3
                refine .inl ⟨V + P, _, _, hdone.out, rfl, New.after HB1.out ⟨?_, hb2.out⟩⟩
                rw [hlen]
                exact ho3.out
              · go_wp2_with (at_builtin; refine wpList_append_src rfl _ _ 22 rfl w1.heap.size i0 _ Tryz.underlying22 hi hz0 hz1 hz2 rfl _ 0 [] rfl (World.ownsRow_made w1 #[] 0 (Nat.le_refl _) (by unfold maxLen; omega) rfl) _ (m - (9)) (c - (9)) (l.drop (9)) rfl (HT.out.below ((Below.refl _ _).alloc (Nat.le_refl _) _)) (by omega) (by simp) ?_; intro v2 w2 ho2 hg2; simp only [Nat.zero_add, List.nil_append] at ho2; have hb2 := keep (((Below.refl w1.heap.size w1).alloc (Nat.le_refl _) _).grown hg2 (by simp) (fun j hj => by cases hj; exact Nat.le_refl _)); have ho3 := keep ho2; clear ho2 hg2)
                go_ret3
                refine .inl ⟨V + P, _, _, hdone.out, rfl, New.after HB1.out ⟨?_, hb2.out⟩⟩
                rw [hlen]
                exact ho3.out
            · have hnone : Hid (takeNum l = none) := rg_zero hall.out (by omega) (by omega) (by rw [HY.out]; omega)
              have hL : (num (V + P)).length ≠ 9 := by
                have h1 := (len_done hall.out (show y.toNat < 128 by omega)).1
                have hlk : (l.take 8).length = 8 := by rw [List.length_take]; omega
                have hve : val (l.take 8 ++ [y]) = V + P := by
                  rw [val_append, hlk, HV.out]
                  simp only [val]
                  rw [Nat.mod_eq_of_lt (by omega), ← HPD.out, hDy, Nat.mul_zero, Nat.add_zero, Nat.mul_comm]
                rw [hve, hlk] at h1
                intro e
                rcases h1 e with h3 | h3
                · rw [h3] at hlk; simp at hlk <;> omega
                · omega
              have hL' : ¬ (((num (V + P)).length : Int) = (9 : Int)) := by omega
              clear hcell hL
              go_wp2
              go_ret3
              exact .inr ⟨hnone.out, rfl, HB1.out⟩
        · have hne : ¬ ((k : Int) = 8) := by omega
          by_cases hbb : 128 ≤ y.toNat
          · have hbb' : ¬ ((y.toNat : Int) < 128) := by omega
            have hall' : Hid (∀ x ∈ l.take (k + 1), 128 ≤ x.toNat) := rg_more hall.out (by omega) (by rw [HY.out]; exact hbb)
            go_wp2
            go_roundw
            case rel => exact ⟨k + 1, (V : Int) + (P : Int), _, by omega, by omega, by first | rfl | go_num, rfl, rfl, fun h => ⟨by rw [hmore2.out]; rfl, by have e := HW.out; have e2 : 128 ^ (k + 1) = W * 128 := by { rw [Nat.pow_succ, e] }; have e3 : W ≤ 562949953421312 := by { rw [← e]; exact Nat.pow_le_pow_right (n := 128) (i := k) (j := 7) (by decide) (by omega) }; rw [e2]; unfold wrap64; omega⟩, hall', hb⟩
            case measure => simp [intOf]; omega
          · have hbb' : (y.toNat : Int) < 128 := by omega
            have hDy : D = y.toNat := by have := HD.out; omega
            have hPy : (y.toNat : Int) * (W : Int) = (P : Int) := by rw [← hDy]; exact hPi
            have hcl : cl ((V : Int) + (P : Int)) = V + P := cl_nat (V + P) (by omega)
            go_wp2_with fail
            refine (rputNum_nil ((V : Int) + (P : Int)) wr).mono ?_
            rintro e w1 ⟨a1, c1, rfl, hn1⟩
            rw [hcl]
            have HB1 := keep (hb.out.trans (hn1.2.mono hb.out.size))
            clear hn1
            by_cases hz : k = 0 ∨ y.toNat ≠ 0
            · have hdone : Hid (takeNum l = some (V + P, l.drop (k + 1))) := by
                have := rg_done hall.out (by omega) (by omega) (by rw [HY.out]; omega) (by rw [HY.out]; exact hz) (by rw [HY.out]; omega)
                rw [HY.out, HV.out, Nat.mul_comm, ← hDy, HPD.out] at this
                exact this
              have hL : (num (V + P)).length = k + 1 := by
                have h1 := (takeNum_some hdone.out).2
                have h2 := congrArg List.length h1
                rw [List.length_append, List.length_drop, hll] at h2
                omega
              rw [hL]
              have HT := keep ((HS.out.below HB1.out).tailS (k + 1) (by omega))
              have HT0 := keep (fun h => (HS.out.below HB1.out).tail0 (k + 1) h)
              have hlen : (l.drop (k + 1)).length = m - (k + 1) := by rw [List.length_drop, hll]
              have g1 : (k : Int) + 1 ≤ (m : Int) := by omega
              have g2 : (0 : Int) ≤ (k : Int) + 1 := by omega
              have g3 : ((k : Int) + 1).toNat = k + 1 := by omega
              clear hcell hL
              by_cases hck : k + 1 = c
              · go_wp2_with (at_builtin; refine wpList_append_src rfl _ _ 22 rfl w1.heap.size i0 _ Tryz.underlying22 hi hz0 hz1 hz2 rfl _ 0 [] rfl (World.ownsRow_made w1 #[] 0 (Nat.le_refl _) (by unfold maxLen; omega) rfl) _ 0 0 (l.drop (k + 1)) rfl ((HT0.out hck).below ((Below.refl _ _).alloc (Nat.le_refl _) _)) (by omega) (by simp) ?_; intro v2 w2 ho2 hg2; simp only [Nat.zero_add, List.nil_append] at ho2; have hb2 := keep (((Below.refl w1.heap.size w1).alloc (Nat.le_refl _) _).grown hg2 (by simp) (fun j hj => by cases hj; exact Nat.le_refl _)); have ho3 := keep ho2; clear ho2 hg2)
                go_ret3
                refine .inl ⟨V + P, _, _, hdone.out, rfl, New.after HB1.out ⟨?_, hb2.out⟩⟩
                rw [hlen, show m - (k + 1) = 0 by omega]
                exact ho3.out
              · go_wp2_with (at_builtin; refine wpList_append_src rfl _ _ 22 rfl w1.heap.size i0 _ Tryz.underlying22 hi hz0 hz1 hz2 rfl _ 0 [] rfl (World.ownsRow_made w1 #[] 0 (Nat.le_refl _) (by unfold maxLen; omega) rfl) _ (m - (k + 1)) (c - (k + 1)) (l.drop (k + 1)) rfl (HT.out.below ((Below.refl _ _).alloc (Nat.le_refl _) _)) (by omega) (by simp) ?_; intro v2 w2 ho2 hg2; simp only [Nat.zero_add, List.nil_append] at ho2; have hb2 := keep (((Below.refl w1.heap.size w1).alloc (Nat.le_refl _) _).grown hg2 (by simp) (fun j hj => by cases hj; exact Nat.le_refl _)); have ho3 := keep ho2; clear ho2 hg2)
                go_ret3
                refine .inl ⟨V + P, _, _, hdone.out, rfl, New.after HB1.out ⟨?_, hb2.out⟩⟩
                rw [hlen]
                exact ho3.out
            · have hnone : Hid (takeNum l = none) := rg_zero hall.out (by omega) (by omega) (by rw [HY.out]; omega)
              have hL : (num (V + P)).length ≠ k + 1 := by
                have h1 := (len_done hall.out (show y.toNat < 128 by omega)).1
                have hlk : (l.take k).length = k := by rw [List.length_take]; omega
                have hve : val (l.take k ++ [y]) = V + P := by
                  rw [val_append, hlk, HV.out]
                  simp only [val]
                  rw [Nat.mod_eq_of_lt (by omega), ← HPD.out, hDy, Nat.mul_zero, Nat.add_zero, Nat.mul_comm]
                rw [hve, hlk] at h1
                intro e
                rcases h1 e with h3 | h3
                · rw [h3] at hlk; simp at hlk <;> omega
                · omega
              have hL' : ¬ (((num (V + P)).length : Int) = (k : Int) + 1) := by omega
              clear hcell hL
              go_wp2
              go_ret3
              exact .inr ⟨hnone.out, rfl, HB1.out⟩
    · have hnone : Hid (takeNum l = none) := by
        rcases Nat.lt_or_ge k m with h | h
        · have h9 : k = 9 := by omega
          subst h9
          have := take_long (t := l.drop 9) hall.out (by rw [List.length_take]; omega)
          rwa [List.take_append_drop] at this
        · have := hall.out
          rw [List.take_of_length_le (by omega)] at this
          exact take_short this
      have hq : ¬ ((k : Int) < (m : Int) ∧ (k : Int) < 9) := by omega
      go_wp2
      all_goals
        go_ret3
        exact .inr ⟨hnone.out, rfl, hb.out⟩
end Go.Proofs.YthaiodajfmbeaaaGreat
namespace Go.Proofs.YthaiodajfmbeaaaGreat
open Go.RowKit

theorem rtakeNum_yes {ao : Option Addr} {m c : Nat} {l : List UInt8} {w : World} (hm : m ≤ 140737488355328) (hs : Src w ao m c l) {n : Nat} {r : List UInt8} (hn : takeNum l = some (n, r)) :
    Calls Tryz.prog 34 #[.slice ao m c] w fun e w' => ∃ a1 c1, e = .returned (.tuple #[.int .i64 (n : Int), .slice a1 r.length c1, .int .i64 0]) ∧ Src w' a1 r.length c1 r ∧ Below w.heap.size w w' :=
  (rtakeNum_any ao m c l w hm hs).mono fun e w' h => by
    rcases h with ⟨n', r', v, h1, rfl, hN⟩ | ⟨h1, _⟩
    · rw [hn] at h1
      cases h1
      obtain ⟨a1, c1, rfl, hs1, _⟩ := hN.src
      exact ⟨a1, c1, rfl, hs1, hN.2⟩
    · rw [hn] at h1; cases h1
theorem rtakeNum_no {ao : Option Addr} {m c : Nat} {l : List UInt8} {w : World} (hm : m ≤ 140737488355328) (hs : Src w ao m c l) (hn : takeNum l = none) :
    Calls Tryz.prog 34 #[.slice ao m c] w fun e w' => e = .returned (.tuple #[.int .i64 0, .slice none 0 0, .int .i64 2]) ∧ Below w.heap.size w w' :=
  (rtakeNum_any ao m c l w hm hs).mono fun e w' h => by
    rcases h with ⟨n', r', v, h1, _⟩ | ⟨_, rfl, hb⟩
    · rw [hn] at h1; cases h1
    · exact ⟨rfl, hb⟩

set_option maxHeartbeats 1000000 in
set_option maxRecDepth 100000 in
theorem rtakeText_none (ao : Option Addr) (m c : Nat) (l : List UInt8) (most : Int) (w : World) (hm : m ≤ 140737488355328) (hs : Src w ao m c l) (hn : takeNum l = none) :
    Calls Tryz.prog 35 #[.slice ao m c, .int .i64 most] w (TookT w (txt l most)) := by
  have KR := keep (rtakeNum_no hm hs hn)
  have HT := keep (txt_none (most := most) hn)
  clear hs hn
  go_enter Tryz.func35, Tryz.ntmps35
  go_wp2_with fail
  go_fit KR.out
  rintro e w1 ⟨rfl, hb1⟩
  have b1 := keep hb1
  clear hb1 KR
  go_wp2
  go_ret3
  exact tookT_no HT.out b1.out

set_option maxHeartbeats 1000000 in
set_option maxRecDepth 100000 in
theorem rtakeText_short (ao : Option Addr) (m c : Nat) (l : List UInt8) (most : Int) (w : World) (n : Nat) (r : List UInt8) (hm : m ≤ 140737488355328) (hs : Src w ao m c l) (hn : takeNum l = some (n, r)) (hno : ¬ ((n : Int) ≤ most ∧ n ≤ r.length)) :
    Calls Tryz.prog 35 #[.slice ao m c, .int .i64 most] w (TookT w (txt l most)) := by
  have KR := keep (rtakeNum_yes hm hs hn)
  have HT := keep (txt_no (most := most) hn hno)
  clear hs hn
  obtain ⟨x, hx⟩ : ∃ x, r.length = x := ⟨_, rfl⟩
  rw [hx] at KR hno
  clear hx
  go_enter Tryz.func35, Tryz.ntmps35
  go_wp2_with fail
  go_fit KR.out
  rintro e w1 ⟨a1, c1, rfl, _, hb1⟩
  have b1 := keep hb1
  clear hb1 KR
  by_cases h1 : (n : Int) ≤ most
  · have h2 : (x : Int) < (n : Int) := by omega
    go_wp2
    go_ret3
    exact tookT_no HT.out b1.out
  · have h2 : most < (n : Int) := by omega
    go_wp2
    go_ret3
    exact tookT_no HT.out b1.out

set_option maxHeartbeats 1000000 in
set_option maxRecDepth 100000 in
theorem rtakeText_main (ao : Option Addr) (m c : Nat) (l : List UInt8) (most : Int) (w : World) (n : Nat) (r : List UInt8) (hm : m ≤ 140737488355328) (hs : Src w ao m c l) (hn : takeNum l = some (n, r)) (h1 : (n : Int) ≤ most) (h2 : n ≤ r.length) :
    Calls Tryz.prog 35 #[.slice ao m c, .int .i64 most] w (TookT w (txt l most)) := by
  have KR := keep (rtakeNum_yes hm hs hn)
  have HT := keep (txt_yes (most := most) hn ⟨h1, h2⟩)
  clear hs hn
  obtain ⟨x, hx⟩ : ∃ x, r.length = x := ⟨_, rfl⟩
  have HX := keep hx
  rw [hx] at KR h2
  clear hx
  have g1 : ¬ (most < (n : Int)) := by omega
  have g2 : ¬ ((x : Int) < (n : Int)) := by omega
  have h0 : (0 : Int) ≤ (n : Int) := by omega
  go_enter Tryz.func35, Tryz.ntmps35
  go_wp2_with fail
  go_fit KR.out
  rintro e w1 ⟨a1, c1, rfl, hs1, hb1⟩
  have b1 := keep hb1
  have hcap := hs1.cap
  have S1 := keep hs1
  have hcv := conv_src ((hs1.head n h2).below (Below.refl _ _).drew)
  clear hb1 KR hs1
  have hlen : Hid ((r.drop n).length = x - n) := by rw [List.length_drop, HX.out]; exact rfl
  cases a1 with
  | none =>
    obtain ⟨rfl, rfl⟩ := S1.out.nil rfl
    obtain rfl : n = 0 := by omega
    go_wp2_with fail
    go_region
    all_goals go_wp2
    all_goals go_ret3
    all_goals exact tookT_yes HT.out hlen.out (Src.none_of (by rw [hlen.out]) (fun _ => rfl)) b1.out.drew
  | some ad =>
    by_cases hck : n = c1
    · subst hck
      have S2 : Hid (Src w1 (some ad) 0 0 (r.drop n)) := Src.none_of (by rw [hlen.out]; omega) (fun e => by cases e)
      have hx0 : Hid ((r.drop n).length = 0) := by rw [hlen.out]; show _ = _; omega
      go_wp2_with fail
      go_region
      all_goals go_wp2
      all_goals go_ret3
      all_goals exact tookT_yes HT.out hx0.out (S2.out.below (Below.refl _ _).drew) b1.out.drew
    · have S2 : Hid (Src w1 (some (ad.add n)) (x - n) (c1 - n) (r.drop n)) := S1.out.tail n h2
      go_wp2_with fail
      go_region
      all_goals go_wp2
      all_goals go_ret3
      all_goals exact tookT_yes HT.out hlen.out (S2.out.below (Below.refl _ _).drew) b1.out.drew
theorem rtakeText_any (ao : Option Addr) (m c : Nat) (l : List UInt8) (most : Int) (w : World) (hm : m ≤ 140737488355328) (hs : Src w ao m c l) :
    Calls Tryz.prog 35 #[.slice ao m c, .int .i64 most] w (TookT w (txt l most)) := by
  cases hn : takeNum l with
  | none => exact rtakeText_none ao m c l most w hm hs hn
  | some x =>
    obtain ⟨n, r⟩ := x
    by_cases hno : (n : Int) ≤ most ∧ n ≤ r.length
    · exact rtakeText_main ao m c l most w n r hm hs hn hno.1 hno.2
    · exact rtakeText_short ao m c l most w n r hm hs hn hno
end Go.Proofs.YthaiodajfmbeaaaGreat
namespace Go.Proofs.YthaiodajfmbeaaaGreat.Sk
open Go.Proofs.YthaiodajfmbeaaaGreat

/-- An entry. -/
structure Ent where
  key : List UInt8
  seq : Int
  gone : Bool
  val : List UInt8
/-- An entry, and how high it is. -/
structure Node where
  e : Ent
  h : Nat
def may (e : Ent) : Bool := decide (1 ≤ e.key.length) && decide (e.key.length ≤ 64) && decide (0 ≤ e.seq) && decide (e.seq ≤ 1099511627776) && decide (e.val.length ≤ 1024) && !(e.gone && decide (0 < e.val.length))
/-- Does an entry go ahead of the place of a key and a number? -/
def aheadOf (k : List UInt8) (s : Int) (e : Ent) : Bool := if e.key = k then decide (s < e.seq) else less e.key k
/-- One goes ahead of the other. -/
def Goes (a b : Ent) : Prop := aheadOf b.key b.seq a = true
theorem goes_trans {a b : Ent} {k : List UInt8} {s : Int} (h : Goes a b) (h2 : aheadOf k s b = true) : aheadOf k s a = true := by
  unfold Goes aheadOf at h
  unfold aheadOf at h2 ⊢
  split at h
  · rename_i e1
    rw [e1]
    split at h2
    · rename_i e2
      rw [if_pos e2]
      simp only [decide_eq_true_eq] at h h2 ⊢
      omega
    · rename_i e2
      rw [if_neg e2]
      exact h2
  · rename_i e1
    split at h2
    · rename_i e2
      rw [← e2, if_neg e1]
      exact h
    · rename_i e2
      have h3 := less_trans h h2
      rw [if_neg (fun e => by rw [e, less_irrefl] at h3; cases h3)]
      exact h3
theorem goes_irrefl (a : Ent) : ¬ Goes a a := by unfold Goes aheadOf; simp
/-- In order, no two of one key and number. -/
def Up : List Ent → Prop
  | [] => True
  | a :: l => (∀ b ∈ l, Goes a b) ∧ Up l
/-- The first k entries are told, and no others. -/
def Cut (P : Ent → Bool) (l : List Ent) (k : Nat) : Prop := k ≤ l.length ∧ ∀ i e, l[i]? = some e → (P e = true ↔ i < k)
def count (P : Ent → Bool) : List Ent → Nat
  | [] => 0
  | a :: l => if P a then count P l + 1 else 0
theorem cut_count {P : Ent → Bool} (hP : ∀ a b, Goes a b → P b = true → P a = true) : ∀ {l : List Ent}, Up l → Cut P l (count P l)
  | [], _ => ⟨Nat.le_refl _, fun i e h => by simp at h⟩
  | a :: l, hu => by
    have ih := cut_count hP hu.2
    simp only [count]
    split
    · rename_i ha
      refine ⟨by rw [List.length_cons]; exact Nat.succ_le_succ ih.1, fun i e h => ?_⟩
      cases i with
      | zero =>
        simp only [List.getElem?_cons_zero, Option.some.injEq] at h
        subst h
        simp [ha]
      | succ i =>
        simp only [List.getElem?_cons_succ] at h
        rw [ih.2 i e h]
        omega
    · rename_i ha
      refine ⟨Nat.zero_le _, fun i e h => ⟨fun he => ?_, fun h => absurd h (Nat.not_lt_zero _)⟩⟩
      cases i with
      | zero =>
        simp only [List.getElem?_cons_zero, Option.some.injEq] at h
        subst h
        exact absurd he ha
      | succ i =>
        simp only [List.getElem?_cons_succ] at h
        exact absurd (hP a e (hu.1 e (List.mem_of_getElem? h)) he) ha
theorem ahead_down (k : List UInt8) (s : Int) (a b : Ent) (h : Goes a b) (hb : aheadOf k s b = true) : aheadOf k s a = true := goes_trans h hb
theorem from_down (k : List UInt8) (a b : Ent) (h : Goes a b) (hb : less b.key k = true) : less a.key k = true := by
  unfold Goes aheadOf at h
  split at h
  · rename_i e; rw [e]; exact hb
  · exact less_trans h hb
end Go.Proofs.YthaiodajfmbeaaaGreat.Sk
namespace Go.Proofs.YthaiodajfmbeaaaGreat.Bq
open Go.Proofs.YthaiodajfmbeaaaGreat
open Go.Proofs.YthaiodajfmbeaaaGreat.Sk (Ent)

/-- How many bytes two keys begin with alike. -/
def share : List UInt8 → List UInt8 → Nat
  | a :: x, b :: y => if a = b then share x y + 1 else 0
  | [], _ => 0
  | _, [] => 0
theorem share_left : ∀ x y : List UInt8, share x y ≤ x.length
  | [], y => by cases y <;> simp [share]
  | a :: x, [] => by simp [share]
  | a :: x, b :: y => by
    have := share_left x y
    simp only [share, List.length_cons]
    split <;> omega
theorem share_comm : ∀ x y : List UInt8, share x y = share y x
  | [], [] => rfl
  | [], b :: y => by simp [share]
  | a :: x, [] => by simp [share]
  | a :: x, b :: y => by
    simp only [share]
    rw [share_comm x y]
    by_cases h : a = b
    · rw [if_pos h, if_pos h.symm]
    · rw [if_neg h, if_neg (fun e => h e.symm)]
theorem share_right (x y : List UInt8) : share x y ≤ y.length := by rw [share_comm]; exact share_left y x
theorem share_nil (x : List UInt8) : share x [] = 0 := by cases x <;> rfl
theorem share_take : ∀ x y : List UInt8, x.take (share x y) = y.take (share x y)
  | [], y => by cases y <;> simp [share]
  | a :: x, [] => by simp [share]
  | a :: x, b :: y => by
    have ih := share_take x y
    simp only [share]
    split
    · rename_i h
      subst h
      simp [ih]
    · rfl
theorem share_iff : ∀ (x y : List UInt8) (n : Nat), n ≤ share x y → (n < share x y ↔ n < x.length ∧ n < y.length ∧ fn x n = fn y n)
  | [], y, n, h => by cases y <;> simp [share]
  | a :: x, [], n, h => by simp [share]
  | a :: x, b :: y, n, h => by
    simp only [share] at h ⊢
    by_cases hab : a = b
    · rw [if_pos hab] at h ⊢
      cases n with
      | zero => simp [fn, hab]
      | succ n =>
        have ih := share_iff x y n (by omega)
        simp only [List.length_cons, Nat.add_lt_add_iff_right]
        rw [ih]
        simp [fn]
    · rw [if_neg hab] at h ⊢
      obtain rfl : n = 0 := by omega
      simp [fn, hab]
/-- The number that tells Seq and Gone. -/
def mark (e : Ent) : Nat := 2 * e.seq.toNat + (if e.gone then 1 else 0)
/-- An entry's bytes, behind one of that key. -/
def entB (ahead : List UInt8) (e : Ent) : List UInt8 :=
  num (share e.key ahead) ++ (num (e.key.drop (share e.key ahead)).length ++ (e.key.drop (share e.key ahead) ++ (num (mark e) ++ (num e.val.length ++ e.val))))
def rowB : List UInt8 → List Ent → List UInt8
  | _, [] => []
  | k, e :: l => entB k e ++ rowB e.key l
def lastK : List UInt8 → List Ent → List UInt8
  | k, [] => k
  | _, e :: l => lastK e.key l
theorem rowB_snoc : ∀ (l : List Ent) (k : List UInt8) (e : Ent), rowB k (l ++ [e]) = rowB k l ++ entB (lastK k l) e
  | [], k, e => by simp [rowB, lastK]
  | a :: l, k, e => by simp only [List.cons_append, rowB, lastK, rowB_snoc l, List.append_assoc]
theorem lastK_snoc : ∀ (l : List Ent) (k : List UInt8) (e : Ent), lastK k (l ++ [e]) = e.key
  | [], k, e => rfl
  | a :: l, k, e => by simp only [List.cons_append, lastK, lastK_snoc l]
def rawB (l : List Ent) : List UInt8 := num l.length ++ rowB [] l
def blk (l : List Ent) : List UInt8 := rawB l ++ be 4 (crc (rawB l)).toNat
/-- May the i-th entry be, and does the one ahead of it go ahead of it? -/
def okAt (l : List Ent) (i : Nat) : Bool :=
  match l[i]? with
  | none => true
  | some e => Sk.may e && (match i with
    | 0 => true
    | j + 1 => match l[j]? with
      | none => true
      | some a => Sk.aheadOf e.key e.seq a)
def ordB (l : List Ent) (k : Nat) : Bool := (List.range k).all (okAt l)
theorem ordB_zero (l : List Ent) : ordB l 0 = true := rfl
theorem ordB_succ (l : List Ent) (k : Nat) : ordB l (k + 1) = (ordB l k && okAt l k) := by simp [ordB, List.range_succ]
theorem ordB_no {l : List Ent} {k n : Nat} (h : okAt l k = false) (hk : k < n) : ordB l n = false := by
  cases hb : ordB l n with
  | false => rfl
  | true =>
    have := List.all_eq_true.1 hb k (List.mem_range.2 hk)
    rw [h] at this
    cases this
def okB (l : List Ent) : Bool := decide (1 ≤ l.length) && decide (l.length ≤ 8) && ordB l l.length
theorem okB_len {l : List Ent} (h : okB l = true) : 1 ≤ l.length ∧ l.length ≤ 8 := by
  simp only [okB, Bool.and_eq_true, decide_eq_true_eq] at h
  exact h.1
theorem okB_may {l : List Ent} (h : okB l = true) : ∀ e ∈ l, Sk.may e = true := fun e he => by
  simp only [okB, Bool.and_eq_true] at h
  obtain ⟨i, hi⟩ := List.getElem?_of_mem he
  have := List.all_eq_true.1 h.2 i (List.mem_range.2 (List.getElem?_eq_some_iff.1 hi).1)
  simp only [okAt, hi, Bool.and_eq_true] at this
  exact this.1
/-- What an entry that may be has for bounds. -/
theorem may_bounds {e : Ent} (h : Sk.may e = true) : 1 ≤ e.key.length ∧ e.key.length ≤ 64 ∧ 0 ≤ e.seq ∧ e.seq ≤ 1099511627776 ∧ e.val.length ≤ 1024 := by
  simp only [Sk.may, Bool.and_eq_true, decide_eq_true_eq] at h
  omega
theorem mark_le {e : Ent} (h : Sk.may e = true) : mark e ≤ 2199023255553 := by
  have := may_bounds h
  unfold mark
  split <;> omega
theorem num_len {n : Nat} (h : n ≤ 4611686018427387903) : (num n).length ≤ 9 := len_le 8 _ (by have e : (128 : Nat) ^ (8 + 1) = 9223372036854775808 := rfl; omega)
theorem entB_len {k : List UInt8} {e : Ent} (h : Sk.may e = true) : (entB k e).length ≤ 1124 := by
  have b := may_bounds h
  have m := mark_le h
  have s := share_left e.key k
  have n1 := num_len (n := share e.key k) (by omega)
  have n2 := num_len (n := (e.key.drop (share e.key k)).length) (by rw [List.length_drop]; omega)
  have n3 := num_len (n := mark e) (by omega)
  have n4 := num_len (n := e.val.length) (by omega)
  simp only [entB, List.length_append, List.length_drop] at n2 ⊢
  omega
theorem rowB_len : ∀ (l : List Ent) (k : List UInt8), (∀ e ∈ l, Sk.may e = true) → (rowB k l).length ≤ 1124 * l.length
  | [], k, _ => by simp [rowB]
  | e :: l, k, h => by
    have h1 := entB_len (k := k) (h e (List.mem_cons_self ..))
    have h2 := rowB_len l e.key (fun x hx => h x (List.mem_cons_of_mem _ hx))
    simp only [rowB, List.length_append, List.length_cons]
    omega
theorem rawB_len {l : List Ent} (h : okB l = true) : (rawB l).length ≤ 9001 := by
  have h1 := okB_len h
  have h2 := rowB_len l [] (okB_may h)
  have h3 := num_len (n := l.length) (by omega)
  simp only [rawB, List.length_append]
  omega

/-- What the reader takes: a text, and what is behind it; nothing where there is none. -/
def tS (b : List UInt8) (most : Int) : List UInt8 := ((txt b most).map (·.1)).getD []
def tR (b : List UInt8) (most : Int) : List UInt8 := ((txt b most).map (·.2)).getD []
theorem nOf_put {n : Nat} {r : List UInt8} (h : n < 4611686018427387904) : nOf (num n ++ r) = n ∧ rOf (num n ++ r) = r := by
  simp [nOf, rOf, takeNum_put h]
theorem txt_put8 {s r : List UInt8} {most : Int} (h : s.length < 4611686018427387904) (h2 : (s.length : Int) ≤ most) : txt (num s.length ++ (s ++ r)) most = some (s, r) := by
  rw [txt_yes (takeNum_put h) ⟨h2, by simp⟩]
  simp
theorem tS_put {s r : List UInt8} {most : Int} (h : s.length < 4611686018427387904) (h2 : (s.length : Int) ≤ most) : tS (num s.length ++ (s ++ r)) most = s ∧ tR (num s.length ++ (s ++ r)) most = r := by
  simp [tS, tR, txt_put8 h h2]
theorem tS_len (b : List UInt8) (most : Nat) : (tS b most).length ≤ most := by
  unfold tS
  cases h : txt b most with
  | none => simp
  | some x =>
    obtain ⟨s, r⟩ := x
    unfold txt at h
    split at h
    · cases h
    · split at h
      · rename_i n r' _ hc
        cases h
        simp only [Option.map_some, Option.getD_some, List.length_take]
        omega
      · cases h
theorem rOf_len (b : List UInt8) : (rOf b).length ≤ b.length := by
  unfold rOf
  cases h : takeNum b with
  | none => simp
  | some x =>
    obtain ⟨n, r⟩ := x
    have := congrArg List.length (takeNum_some h).2
    rw [List.length_append] at this
    simp only [Option.map_some, Option.getD_some]
    omega
theorem tR_len (b : List UInt8) (most : Int) : (tR b most).length ≤ b.length := by
  unfold tR
  cases h : txt b most with
  | none => simp
  | some x =>
    obtain ⟨s, r⟩ := x
    unfold txt at h
    split at h
    · cases h
    · rename_i n r' hn
      split at h
      · cases h
        have := congrArg List.length (takeNum_some hn).2
        rw [List.length_append] at this
        simp only [Option.map_some, Option.getD_some, List.length_drop]
        omega
      · cases h
theorem nOf_le (b : List UInt8) : nOf b < 4611686018427387904 := by
  unfold nOf
  cases h : takeNum b with
  | none => simp
  | some x => exact (takeNum_some (n := x.1) (r := x.2) (by rw [h])).1
/-- The entry that bytes tell behind one of that key, and what stands behind it. -/
def rdE (ahead rest : List UInt8) : Ent :=
  ⟨ahead.take (nOf rest) ++ tS (rOf rest) 64, ((nOf (tR (rOf rest) 64) / 2 : Nat) : Int), decide (nOf (tR (rOf rest) 64) % 2 = 1), tS (rOf (tR (rOf rest) 64)) 1024⟩
def rdR (rest : List UInt8) : List UInt8 := tR (rOf (tR (rOf rest) 64)) 1024
def rdL : Nat → List UInt8 → List UInt8 → List Ent
  | 0, _, _ => []
  | n + 1, ahead, rest => rdE ahead rest :: rdL n (rdE ahead rest).key (rdR rest)
/-- What the reader makes of bytes. -/
def rd (b : List UInt8) : List Ent := rdL (min (nOf b) 8) [] (rOf b)
theorem rd_ent {k : List UInt8} {e : Ent} {t : List UInt8} (h : Sk.may e = true) : rdE k (entB k e ++ t) = e ∧ rdR (entB k e ++ t) = t := by
  have b := may_bounds h
  have m := mark_le h
  have sl := share_left e.key k
  have f1 := nOf_put (n := share e.key k) (r := num (e.key.drop (share e.key k)).length ++ (e.key.drop (share e.key k) ++ (num (mark e) ++ (num e.val.length ++ (e.val ++ t))))) (by omega)
  have f2 := tS_put (s := e.key.drop (share e.key k)) (r := num (mark e) ++ (num e.val.length ++ (e.val ++ t))) (most := 64) (by rw [List.length_drop]; omega) (by rw [List.length_drop]; omega)
  have f3 := nOf_put (n := mark e) (r := num e.val.length ++ (e.val ++ t)) (by omega)
  have f4 := tS_put (s := e.val) (r := t) (most := 1024) (by omega) (by omega)
  have e0 : entB k e ++ t = num (share e.key k) ++ (num (e.key.drop (share e.key k)).length ++ (e.key.drop (share e.key k) ++ (num (mark e) ++ (num e.val.length ++ (e.val ++ t))))) := by
    simp only [entB, List.append_assoc]
  refine ⟨?_, ?_⟩
  · unfold rdE
    rw [e0, f1.1, f1.2, f2.1, f2.2, f3.1, f3.2, f4.1]
    obtain ⟨key, seq, gone, val⟩ := e
    simp only at *
    have h1 : k.take (share key k) ++ key.drop (share key k) = key := by rw [← share_take, List.take_append_drop]
    rw [h1]
    unfold mark
    simp only
    cases gone
    · have h2 : ((2 * seq.toNat + 0) / 2 : Nat) = seq.toNat := by omega
      have h3 : ((2 * seq.toNat + 0) % 2 : Nat) = 0 := by omega
      simp only [Bool.false_eq_true, if_false, h2, h3]
      congr 1
      omega
    · have h2 : ((2 * seq.toNat + 1) / 2 : Nat) = seq.toNat := by omega
      have h3 : ((2 * seq.toNat + 1) % 2 : Nat) = 1 := by omega
      simp only [if_true, h2, h3]
      congr 1
      omega
  · unfold rdR
    rw [e0, f1.2, f2.2, f3.2, f4.2]
theorem rd_row : ∀ (l : List Ent) (k t : List UInt8), (∀ e ∈ l, Sk.may e = true) → rdL l.length k (rowB k l ++ t) = l
  | [], k, t, _ => rfl
  | e :: l, k, t, h => by
    have h1 := rd_ent (k := k) (t := rowB e.key l ++ t) (h e (List.mem_cons_self ..))
    have h2 := rd_row l e.key t (fun x hx => h x (List.mem_cons_of_mem _ hx))
    simp only [rowB, List.length_cons, rdL, List.append_assoc]
    rw [h1.1, h1.2, h2]
theorem rd_blk {l : List Ent} (h : okB l = true) : rd (blk l) = l := by
  have hl := okB_len h
  have f1 := nOf_put (n := l.length) (r := rowB [] l ++ be 4 (crc (rawB l)).toNat) (by omega)
  have e0 : blk l = num l.length ++ (rowB [] l ++ be 4 (crc (rawB l)).toNat) := by simp only [blk, rawB, List.append_assoc]
  unfold rd
  rw [e0, f1.1, f1.2, Nat.min_eq_left hl.2]
  exact rd_row l [] _ (okB_may h)
/-- What entries bytes are; none, if they are no block. -/
def parse (b : List UInt8) : Option (List Ent) := if okB (rd b) = true ∧ blk (rd b) = b then some (rd b) else none
theorem parse_blk {l : List Ent} (h : okB l = true) : parse (blk l) = some l := by
  unfold parse
  rw [rd_blk h, if_pos ⟨h, rfl⟩]
theorem parse_some {b : List UInt8} {l : List Ent} (h : parse b = some l) : okB l = true ∧ blk l = b := by
  unfold parse at h
  split at h
  · rename_i hc
    cases h
    exact hc
  · cases h
theorem parse_none {b : List UInt8} (h : ∀ l, okB l = true → blk l ≠ b) : parse b = none := by
  cases hp : parse b with
  | none => rfl
  | some l => exact absurd (parse_some hp).2 (h l (parse_some hp).1)
end Go.Proofs.YthaiodajfmbeaaaGreat.Bq
namespace Go.Proofs.YthaiodajfmbeaaaGreat
open Go.RowKit

theorem in5_add {w : World} {ad : Addr} (h : In5 w (some ad)) (n : Nat) : In5 w (some (ad.add n)) := fun a ha => by
  cases ha
  obtain ⟨cur, fr, hc⟩ := h ad rfl
  refine ⟨cur, fr, ?_⟩
  have hblk : (ad.add n).block = ad.block := by unfold Addr.add; split <;> rfl
  rw [hblk]
  exact hc
theorem rtakeNum_own (ao : Option Addr) (m c : Nat) (l : List UInt8) (w : World) (hm : m ≤ 140737488355328) (hs : Src w ao m c l) : Calls Tryz.prog 34 #[.slice ao m c] w (TookN w (nOf l) (rOf l) (eOf l)) :=
  (rtakeNum_any ao m c l w hm hs).mono fun e w' h => by
    rcases h with ⟨n, r, v, hn, rfl, hN⟩ | ⟨hn, rfl, hb⟩
    · have e1 : nOf l = n := by simp [nOf, hn]
      have e2 : rOf l = r := by simp [rOf, hn]
      have e3 : eOf l = 0 := by simp [eOf, hn]
      obtain ⟨ao, c, rfl, hs, _⟩ := hN.src
      rw [e1, e2, e3]
      exact ⟨ao, c, rfl, hs, in5_own hN.1, hN.2⟩
    · have e1 : nOf l = 0 := by simp [nOf, hn]
      have e2 : rOf l = [] := by simp [rOf, hn]
      have e3 : eOf l = 2 := by simp [eOf, hn]
      rw [e1, e2, e3]
      exact ⟨none, 0, rfl, Src.empty (fun _ => rfl), in5_none _, hb⟩
theorem rtakeNum_yesO {ao : Option Addr} {m c : Nat} {l : List UInt8} {w : World} (hm : m ≤ 140737488355328) (hs : Src w ao m c l) {n : Nat} {r : List UInt8} (hn : takeNum l = some (n, r)) :
    Calls Tryz.prog 34 #[.slice ao m c] w fun e w' => ∃ a1 c1, e = .returned (.tuple #[.int .i64 (n : Int), .slice a1 r.length c1, .int .i64 0]) ∧ Src w' a1 r.length c1 r ∧ In5 w' a1 ∧ Below w.heap.size w w' :=
  (rtakeNum_any ao m c l w hm hs).mono fun e w' h => by
    rcases h with ⟨n', r', v, h1, rfl, hN⟩ | ⟨h1, _⟩
    · rw [hn] at h1
      cases h1
      obtain ⟨a1, c1, rfl, hs1, _⟩ := hN.src
      exact ⟨a1, c1, rfl, hs1, in5_own hN.1, hN.2⟩
    · rw [hn] at h1; cases h1
set_option maxHeartbeats 1000000 in
set_option maxRecDepth 100000 in
theorem rtakeTextO_none (ao : Option Addr) (m c : Nat) (l : List UInt8) (most : Int) (w : World) (hm : m ≤ 140737488355328) (hs : Src w ao m c l) (hn : takeNum l = none) :
    Calls Tryz.prog 35 #[.slice ao m c, .int .i64 most] w (TookO w (txt l most)) := by
  have KR := keep (rtakeNum_no hm hs hn)
  have HT := keep (txt_none (most := most) hn)
  clear hs hn
  go_enter Tryz.func35, Tryz.ntmps35
  go_wp2_with fail
  go_fit KR.out
  rintro e w1 ⟨rfl, hb1⟩
  have b1 := keep hb1
  clear hb1 KR
  go_wp2
  go_ret3
  exact tookO_no HT.out b1.out

set_option maxHeartbeats 1000000 in
set_option maxRecDepth 100000 in
theorem rtakeTextO_short (ao : Option Addr) (m c : Nat) (l : List UInt8) (most : Int) (w : World) (n : Nat) (r : List UInt8) (hm : m ≤ 140737488355328) (hs : Src w ao m c l) (hn : takeNum l = some (n, r)) (hno : ¬ ((n : Int) ≤ most ∧ n ≤ r.length)) :
    Calls Tryz.prog 35 #[.slice ao m c, .int .i64 most] w (TookO w (txt l most)) := by
  have KR := keep (rtakeNum_yesO hm hs hn)
  have HT := keep (txt_no (most := most) hn hno)
  clear hs hn
  obtain ⟨x, hx⟩ : ∃ x, r.length = x := ⟨_, rfl⟩
  rw [hx] at KR hno
  clear hx
  go_enter Tryz.func35, Tryz.ntmps35
  go_wp2_with fail
  go_fit KR.out
  rintro e w1 ⟨a1, c1, rfl, _, _, hb1⟩
  have b1 := keep hb1
  clear hb1 KR
  by_cases h1 : (n : Int) ≤ most
  · have h2 : (x : Int) < (n : Int) := by omega
    go_wp2
    go_ret3
    exact tookO_no HT.out b1.out
  · have h2 : most < (n : Int) := by omega
    go_wp2
    go_ret3
    exact tookO_no HT.out b1.out

set_option maxHeartbeats 1000000 in
set_option maxRecDepth 100000 in
theorem rtakeTextO_main (ao : Option Addr) (m c : Nat) (l : List UInt8) (most : Int) (w : World) (n : Nat) (r : List UInt8) (hm : m ≤ 140737488355328) (hs : Src w ao m c l) (hn : takeNum l = some (n, r)) (h1 : (n : Int) ≤ most) (h2 : n ≤ r.length) :
    Calls Tryz.prog 35 #[.slice ao m c, .int .i64 most] w (TookO w (txt l most)) := by
  have KR := keep (rtakeNum_yesO hm hs hn)
  have HT := keep (txt_yes (most := most) hn ⟨h1, h2⟩)
  clear hs hn
  obtain ⟨x, hx⟩ : ∃ x, r.length = x := ⟨_, rfl⟩
  have HX := keep hx
  rw [hx] at KR h2
  clear hx
  have g1 : ¬ (most < (n : Int)) := by omega
  have g2 : ¬ ((x : Int) < (n : Int)) := by omega
  have h0 : (0 : Int) ≤ (n : Int) := by omega
  go_enter Tryz.func35, Tryz.ntmps35
  go_wp2_with fail
  go_fit KR.out
  rintro e w1 ⟨a1, c1, rfl, hs1, h51, hb1⟩
  have V1 := keep h51
  have b1 := keep hb1
  have hcap := hs1.cap
  have S1 := keep hs1
  have hcv := conv_src ((hs1.head n h2).below (Below.refl _ _).drew)
  clear hb1 KR hs1 h51
  have hlen : Hid ((r.drop n).length = x - n) := by rw [List.length_drop, HX.out]; exact rfl
  cases a1 with
  | none =>
    obtain ⟨rfl, rfl⟩ := S1.out.nil rfl
    obtain rfl : n = 0 := by omega
    go_wp2_with fail
    go_region
    all_goals go_wp2
    all_goals go_ret3
    all_goals exact tookO_yes HT.out hlen.out (Src.none_of (by rw [hlen.out]) (fun _ => rfl)) (in5_none _) b1.out.drew
  | some ad =>
    by_cases hck : n = c1
    · subst hck
      have S2 : Hid (Src w1 (some ad) 0 0 (r.drop n)) := Src.none_of (by rw [hlen.out]; omega) (fun e => by cases e)
      have hx0 : Hid ((r.drop n).length = 0) := by rw [hlen.out]; show _ = _; omega
      go_wp2_with fail
      go_region
      all_goals go_wp2
      all_goals go_ret3
      all_goals exact tookO_yes HT.out hx0.out (S2.out.below (Below.refl _ _).drew) V1.out b1.out.drew
    · have S2 : Hid (Src w1 (some (ad.add n)) (x - n) (c1 - n) (r.drop n)) := S1.out.tail n h2
      go_wp2_with fail
      go_region
      all_goals go_wp2
      all_goals go_ret3
      all_goals exact tookO_yes HT.out hlen.out (S2.out.below (Below.refl _ _).drew) (in5_add V1.out n) b1.out.drew
theorem rtakeTextO_any (ao : Option Addr) (m c : Nat) (l : List UInt8) (most : Int) (w : World) (hm : m ≤ 140737488355328) (hs : Src w ao m c l) :
    Calls Tryz.prog 35 #[.slice ao m c, .int .i64 most] w (TookO w (txt l most)) := by
  cases hn : takeNum l with
  | none => exact rtakeTextO_none ao m c l most w hm hs hn
  | some x =>
    obtain ⟨n, r⟩ := x
    by_cases hno : (n : Int) ≤ most ∧ n ≤ r.length
    · exact rtakeTextO_main ao m c l most w n r hm hs hn hno.1 hno.2
    · exact rtakeTextO_short ao m c l most w n r hm hs hn hno
/-- Whether bytes begin with a text. -/
def tE (b : List UInt8) (most : Int) : Int := if (txt b most).isSome then 0 else 2
theorem rtakeText_uni (ao : Option Addr) (m c : Nat) (l : List UInt8) (most : Int) (w : World) (hm : m ≤ 140737488355328) (hs : Src w ao m c l) :
    Calls Tryz.prog 35 #[.slice ao m c, .int .i64 most] w fun e w' => ∃ a k, e = .returned (.tuple #[.string ⟨(Bq.tS l most).toArray⟩, .slice a (Bq.tR l most).length k, .int .i64 (tE l most)]) ∧ Src w' a (Bq.tR l most).length k (Bq.tR l most) ∧ In5 w' a ∧ Below w.heap.size w w' := by
  refine (rtakeTextO_any ao m c l most w hm hs).mono ?_
  rintro e w' (⟨S, R, a, c, ht, rfl, hs, h5, hb⟩ | ⟨ht, rfl, hb⟩)
  · have e1 : Bq.tS l most = S := by simp [Bq.tS, ht]
    have e2 : Bq.tR l most = R := by simp [Bq.tR, ht]
    have e3 : tE l most = 0 := by simp [tE, ht]
    rw [e1, e2, e3]
    exact ⟨a, c, rfl, hs, h5, hb⟩
  · have e1 : Bq.tS l most = [] := by simp [Bq.tS, ht]
    have e2 : Bq.tR l most = [] := by simp [Bq.tR, ht]
    have e3 : tE l most = 2 := by simp [tE, ht]
    rw [e1, e2, e3]
    exact ⟨none, 0, rfl, src_nil w', in5_none _, hb⟩
end Go.Proofs.YthaiodajfmbeaaaGreat
namespace Go.Proofs.YthaiodajfmbeaaaGreat
open Go.RowKit

/-- The region's post, ahead of its last operation. -/
def LastQ (P : Program) (o : Oper) (Q : Exit → Act → World → Prop) : Exit → Act → World → Prop
  | .normal, a, w => o.wp P a w (fun a' w' => Q .normal a' w') Q
  | .exit i, a, w => Q (.exit i) a w
  | .ret, a, w => Q .ret a w
  | .panic c, a, w => Q (.panic c) a w
  | .outgrown, a, w => Q .outgrown a w
  | .goto i, a, w => Q (.goto i) a w
section
variable {P : Program} {md : Region.Mode} {ops ops' : Array Oper} {Q : Exit → Act → World → Prop} {L : Nat} {o o' : Oper}
theorem wp_lastQ {p : Oper} {a : Act} {w : World} {K K' : Act → World → Prop} (hK : ∀ a w, K a w → K' a w) (h : p.wp P a w K (LastQ P o Q)) : p.wp P a w K' Q := by
  unfold Oper.wp at *
  generalize (execOp a.eval p).run P w = r at *
  cases r with
  | ok n w' =>
    cases n with
    | enter f args =>
      refine Calls.mono h fun e w'' he => ?_
      cases e with
      | returned u => exact hK _ _ he
      | panicked c => exact he
      | outgrown => exact he
    | row row args => exact Rows.mono h fun u w'' he => hK _ _ he
    | value u => exact hK _ _ h
    | skip => exact hK _ _ h
    | defer d => exact hK _ _ h
    | _ => exact h
  | halt x w' => cases x <;> exact h
theorem ready_same (hsz : ops'.size = ops.size) (hL : ops[L]? = some o) (hL' : ops'[L]? = some o') (hsame : ∀ j, j ≠ L → ops'[j]? = ops[j]?) (haf : o'.after = o.after) (listed : Array Bool) : Region.ready md ops' listed = Region.ready md ops listed := by
  unfold Region.ready
  rw [hsz]
  refine List.filter_congr fun i _ => ?_
  by_cases h : i = L
  · subst h; rw [hL, hL']; simp [haf]
  · rw [hsame i h]
theorem yielded_same (hL : ops[L]? = some o) (hL' : ops'[L]? = some o') (hsame : ∀ j, j ≠ L → ops'[j]? = ops[j]?) (hd : o.dst = none) (hd' : o'.dst = none) (t : Array Value) : yielded ops' t = yielded ops t := by
  funext j
  unfold yielded
  by_cases h : j = L
  · subst h; rw [hL, hL']; simp [hd, hd']
  · rw [hsame j h]
theorem getD_flip {l : Array Bool} {j : Nat} (hj : j < l.size) : l.getD j false = l.getD j true := by simp [Array.getD, hj]
theorem ready_some (htop : ∀ (j : Nat) (oj : Oper), ops[j]? = some oj → ∀ e ∈ oj.after, e.on < j) {listed : Array Bool} (hs : listed.size = ops.size) : ∀ j, listed.getD j true = false → Region.ready md ops listed ≠ [] := by
  intro j
  induction j using Nat.strongRecOn with
  | _ j ih =>
    intro hj hn
    have hlt : j < listed.size := by
      rcases Nat.lt_or_ge j listed.size with h | h
      · exact h
      · rw [Array.getD_eq_getD_getElem?, Array.getElem?_eq_none h] at hj; cases hj
    have hmem : j ∈ Region.ready md ops listed := by
      refine mem_ready.2 ⟨hj, ops[j]'(by omega), Array.getElem?_eq_getElem _, fun e he _ => ?_⟩
      have hel := htop j _ (Array.getElem?_eq_getElem (by omega)) e he
      rw [getD_flip (by omega)]
      cases hx : listed.getD e.on true with
      | true => rfl
      | false => exact absurd hn (ih e.on hel hx)
    rw [hn] at hmem
    cases hmem
theorem ready_last (hL : ops[L]? = some o) (hall : ∀ j, j < ops.size → j ≠ L → ∃ e ∈ o.after, e.on = j ∧ Region.binds md e = true) {listed : Array Bool} (hs : listed.size = ops.size) (hr : L ∈ Region.ready md ops listed) : Region.ready md ops (listed.setIfInBounds L true) = [] := by
  obtain ⟨_, o2, ho2, hw⟩ := mem_ready.1 hr
  rw [hL] at ho2
  cases ho2
  rw [List.eq_nil_iff_forall_not_mem]
  intro j hj
  obtain ⟨hf, oj, hoj, _⟩ := mem_ready.1 hj
  have hjl : j < ops.size := (Array.getElem?_eq_some_iff.1 hoj).1
  by_cases h : j = L
  · subst h
    simp [Array.getD, hs, hjl] at hf
  · obtain ⟨e, he, he2, hb⟩ := hall j hjl h
    have := hw e he hb
    rw [he2, getD_flip (by omega)] at this
    have h3 : (listed.setIfInBounds L true).getD j true = listed.getD j true := by
      simp only [Array.getD_eq_getD_getElem?, Array.getElem?_setIfInBounds, if_neg (fun e => h (Eq.symm e))]
    rw [h3, this] at hf
    cases hf
theorem wpAny_last (hsz : ops'.size = ops.size) (hL : ops[L]? = some o) (hL' : ops'[L]? = some o') (hsame : ∀ j, j ≠ L → ops'[j]? = ops[j]?) (haf : o'.after = o.after) (hd : o.dst = none) (hd' : o'.dst = none) (hg : o.guard = none) (hg' : o'.guard = none)
    (hop : ∀ (a : Act) (w : World), ∃ v, (execOp a.eval o').run P w = .ok (.value v) w) (hask : ∀ (a : Act) (w : World), ¬ o'.asks P a w)
    (htop : ∀ (j : Nat) (oj : Oper), ops[j]? = some oj → ∀ e ∈ oj.after, e.on < j) (hall : ∀ j, j < ops.size → j ≠ L → ∃ e ∈ o.after, e.on = j ∧ Region.binds md e = true) :
    ∀ (fuel : Nat) (listed : Array Bool) (a : Act) (w : World), listed.size = ops.size → listed.getD L true = false → wpAny P md ops' (LastQ P o Q) fuel listed a w → wpAny P md ops Q fuel listed a w := by
  intro fuel
  induction fuel with
  | zero =>
    intro listed a w hs hl h
    exact absurd ((ready_same hsz hL hL' hsame haf listed).symm.trans h.1) (ready_some htop hs L hl)
  | succ fuel ih =>
    intro listed a w hs hl h
    refine ⟨fun h0 => absurd h0 (ready_some htop hs L hl), fun i hi => ?_⟩
    have h1 := h.2 i (by rw [ready_same hsz hL hL' hsame haf]; exact hi)
    by_cases hiL : i = L
    · subst hiL
      have hnil := ready_last hL hall hs hi
      have hnil' := (ready_same hsz hL hL' hsame haf (listed.setIfInBounds i true)).trans hnil
      unfold wpOp at h1 ⊢
      simp only [hL'] at h1
      simp only [hL]
      rw [if_pos (by simp [Region.wanted, hg'])] at h1
      rw [if_pos (by simp [Region.wanted, hg])]
      rcases h1 with h1 | h1
      · obtain ⟨v, hv⟩ := hop a w
        unfold Oper.wp at h1
        rw [hv] at h1
        have h2 : wpAny P md ops' (LastQ P o Q) fuel (listed.setIfInBounds i true) (a.put o'.dst v) w := h1
        rw [hd'] at h2
        have h3 : LastQ P o Q .normal a w := by
          cases fuel with
          | zero => exact h2.2
          | succ n => exact h2.1 hnil'
        refine .inl (Oper.wp_mono (fun a' w' hq => ?_) (show o.wp P a w (fun a' w' => Q .normal a' w') Q from h3))
        cases fuel with
        | zero => exact ⟨hnil, hq⟩
        | succ n => exact ⟨fun _ => hq, fun k hk => by rw [hnil] at hk; cases hk⟩
      · exact absurd h1.1 (hask a w)
    · have hnext : ∀ a w, wpAny P md ops' (LastQ P o Q) fuel (listed.setIfInBounds i true) a w → wpAny P md ops Q fuel (listed.setIfInBounds i true) a w := fun a w hh => by
        refine ih _ a w (by simp [hs]) ?_ hh
        simp only [Array.getD_eq_getD_getElem?, Array.getElem?_setIfInBounds, if_neg hiL] at hl ⊢
        exact hl
      unfold wpOp at h1 ⊢
      rw [hsame i hiL] at h1
      cases ho : ops[i]? with
      | none => rw [ho] at h1; exact hnext a w h1
      | some oi =>
        rw [ho] at h1
        simp only at h1 ⊢
        rw [yielded_same hL hL' hsame hd hd'] at h1
        split
        · rename_i hw
          rw [if_pos hw] at h1
          rcases h1 with h1 | ⟨h1, h2⟩
          · exact .inl (wp_lastQ hnext h1)
          · exact .inr ⟨h1, h2⟩
        · rename_i hw
          rw [if_neg hw] at h1
          exact hnext _ _ h1
end
end Go.Proofs.YthaiodajfmbeaaaGreat
namespace Go.Proofs.YthaiodajfmbeaaaGreat
open Go.RowKit

section
variable {P : Program} {md : Region.Mode} {ops ops' : Array Oper} {Q : Exit → Act → World → Prop} {L : Nat} {o o' : Oper}
/-- What an operation that has come up waits for has come up. -/
def ShutL (md : Region.Mode) (ops : Array Oper) (listed : Array Bool) : Prop := ∀ (j : Nat) (oj : Oper), ops[j]? = some oj → listed.getD j false = true → ∀ e ∈ oj.after, Region.binds md e = true → listed.getD e.on false = true
/-- The last operation waits for each other one, or for one that waits for it. -/
def Waits (md : Region.Mode) (ops : Array Oper) (L : Nat) (o : Oper) : Prop := ∀ j, j < ops.size → j ≠ L → ∃ e ∈ o.after, Region.binds md e = true ∧ (e.on = j ∨ ∃ om, ops[e.on]? = some om ∧ ∃ f ∈ om.after, Region.binds md f = true ∧ f.on = j)
theorem getD_set_keep {l : Array Bool} {i j : Nat} (h : l.getD j false = true) : (l.setIfInBounds i true).getD j false = true := by
  simp only [Array.getD_eq_getD_getElem?, Array.getElem?_setIfInBounds] at h ⊢
  split
  · split
    · rfl
    · rename_i h1 h2
      subst h1
      rw [Array.getElem?_eq_none (by omega)] at h
      exact h
  · exact h
theorem ShutL.set {listed : Array Bool} (h : ShutL md ops listed) (_hs : listed.size = ops.size) {i : Nat} (hi : i ∈ Region.ready md ops listed) : ShutL md ops (listed.setIfInBounds i true) := by
  intro j oj hj hl e he hb
  obtain ⟨_, o2, ho2, hw⟩ := mem_ready.1 hi
  by_cases hji : j = i
  · subst hji
    rw [hj] at ho2
    cases ho2
    exact getD_set_keep (hw e he hb)
  · refine getD_set_keep (h j oj hj ?_ e he hb)
    simp only [Array.getD_eq_getD_getElem?, Array.getElem?_setIfInBounds, if_neg (Ne.symm hji)] at hl ⊢
    exact hl
theorem ready_last2 (hL : ops[L]? = some o) (hall : Waits md ops L o) {listed : Array Bool} (hs : listed.size = ops.size) (hc : ShutL md ops listed) (hr : L ∈ Region.ready md ops listed) : Region.ready md ops (listed.setIfInBounds L true) = [] := by
  obtain ⟨_, o2, ho2, hw⟩ := mem_ready.1 hr
  rw [hL] at ho2
  cases ho2
  rw [List.eq_nil_iff_forall_not_mem]
  intro j hj
  obtain ⟨hf, oj, hoj, _⟩ := mem_ready.1 hj
  have hjl : j < ops.size := (Array.getElem?_eq_some_iff.1 hoj).1
  by_cases h : j = L
  · subst h
    simp [Array.getD, hs, hjl] at hf
  · have hlist : listed.getD j false = true := by
      obtain ⟨e, he, hb, h2⟩ := hall j hjl h
      have h1 := hw e he hb
      rcases h2 with rfl | ⟨om, hom, f, hfm, hbf, rfl⟩
      · exact h1
      · exact hc e.on om hom h1 f hfm hbf
    rw [getD_flip (by omega)] at hlist
    have h3 : (listed.setIfInBounds L true).getD j true = listed.getD j true := by
      simp only [Array.getD_eq_getD_getElem?, Array.getElem?_setIfInBounds, if_neg (fun e => h (Eq.symm e))]
    rw [h3, hlist] at hf
    cases hf
theorem wpAny_last2 (hsz : ops'.size = ops.size) (hL : ops[L]? = some o) (hL' : ops'[L]? = some o') (hsame : ∀ j, j ≠ L → ops'[j]? = ops[j]?) (haf : o'.after = o.after) (hd : o.dst = none) (hd' : o'.dst = none) (hg : o.guard = none) (hg' : o'.guard = none)
    (hop : ∀ (a : Act) (w : World), ∃ v, (execOp a.eval o').run P w = .ok (.value v) w) (hask : ∀ (a : Act) (w : World), ¬ o'.asks P a w)
    (htop : ∀ (j : Nat) (oj : Oper), ops[j]? = some oj → ∀ e ∈ oj.after, e.on < j) (hall : Waits md ops L o) :
    ∀ (fuel : Nat) (listed : Array Bool) (a : Act) (w : World), listed.size = ops.size → listed.getD L true = false → ShutL md ops listed → wpAny P md ops' (LastQ P o Q) fuel listed a w → wpAny P md ops Q fuel listed a w := by
  intro fuel
  induction fuel with
  | zero =>
    intro listed a w hs hl hc h
    exact absurd ((ready_same hsz hL hL' hsame haf listed).symm.trans h.1) (ready_some htop hs L hl)
  | succ fuel ih =>
    intro listed a w hs hl hc h
    refine ⟨fun h0 => absurd h0 (ready_some htop hs L hl), fun i hi => ?_⟩
    have h1 := h.2 i (by rw [ready_same hsz hL hL' hsame haf]; exact hi)
    by_cases hiL : i = L
    · subst hiL
      have hnil := ready_last2 hL hall hs hc hi
      have hnil' := (ready_same hsz hL hL' hsame haf (listed.setIfInBounds i true)).trans hnil
      unfold wpOp at h1 ⊢
      simp only [hL'] at h1
      simp only [hL]
      rw [if_pos (by simp [Region.wanted, hg'])] at h1
      rw [if_pos (by simp [Region.wanted, hg])]
      rcases h1 with h1 | h1
      · obtain ⟨v, hv⟩ := hop a w
        unfold Oper.wp at h1
        rw [hv] at h1
        have h2 : wpAny P md ops' (LastQ P o Q) fuel (listed.setIfInBounds i true) (a.put o'.dst v) w := h1
        rw [hd'] at h2
        have h3 : LastQ P o Q .normal a w := by
          cases fuel with
          | zero => exact h2.2
          | succ n => exact h2.1 hnil'
        refine .inl (Oper.wp_mono (fun a' w' hq => ?_) (show o.wp P a w (fun a' w' => Q .normal a' w') Q from h3))
        cases fuel with
        | zero => exact ⟨hnil, hq⟩
        | succ n => exact ⟨fun _ => hq, fun k hk => by rw [hnil] at hk; cases hk⟩
      · exact absurd h1.1 (hask a w)
    · have hnext : ∀ a w, wpAny P md ops' (LastQ P o Q) fuel (listed.setIfInBounds i true) a w → wpAny P md ops Q fuel (listed.setIfInBounds i true) a w := fun a w hh => by
        refine ih _ a w (by simp [hs]) ?_ (hc.set hs hi) hh
        simp only [Array.getD_eq_getD_getElem?, Array.getElem?_setIfInBounds, if_neg hiL] at hl ⊢
        exact hl
      unfold wpOp at h1 ⊢
      rw [hsame i hiL] at h1
      cases ho : ops[i]? with
      | none => rw [ho] at h1; exact hnext a w h1
      | some oi =>
        rw [ho] at h1
        simp only at h1 ⊢
        rw [yielded_same hL hL' hsame hd hd'] at h1
        split
        · rename_i hw
          rw [if_pos hw] at h1
          rcases h1 with h1 | ⟨h1, h2⟩
          · exact .inl (wp_lastQ hnext h1)
          · exact .inr ⟨h1, h2⟩
        · rename_i hw
          rw [if_neg hw] at h1
          exact hnext _ _ h1
end
/-- An operation that does nothing, in another's place. -/
def mute (o : Oper) : Oper := { o with dst := none, op := .move (.const (.int .i64 0)), guard := none }
def topB (ops : Array Oper) : Bool := (List.range ops.size).all fun j => match ops[j]? with
  | some oj => oj.after.toList.all (fun e => decide (e.on < j))
  | none => true
def allB (ops : Array Oper) (L : Nat) (o : Oper) : Bool := (List.range ops.size).all fun j => j == L || o.after.toList.any (fun e => Region.binds .any e && (e.on == j || match ops[e.on]? with
  | some om => om.after.toList.any (fun f => Region.binds .any f && f.on == j)
  | none => false))
theorem wp_region_parted {P : Program} {id : Nat} {ops : Array Oper} {Q : Exit → Act → World → Prop} {a : Act} {w : World} (S : World → Prop) (L : Nat) (o : Oper) (hm : P.follows .mixedOrders = true) (hL : ops[L]? = some o) (hd : o.dst = none) (hg : o.guard = none) (htop : topB ops = true) (hall : allB ops L o = true) (hS : S w.drew)
    (h : S w.drew → wpAnyH P .any (ops.setIfInBounds L (mute o)) (LastQ P o Q) S ops.size (Array.replicate ops.size false) a w.drew) : (Code.region id ops true).wp P Q a w := by
  have hlt : L < ops.size := (Array.getElem?_eq_some_iff.1 hL).1
  refine wp_region_any hm ?_
  refine wpAny_last2 (ops' := ops.setIfInBounds L (mute o)) (L := L) (o := o) (o' := mute o) (by simp) hL (by simp [hlt]) (fun j hj => by simp [Ne.symm hj]) rfl hd rfl hg rfl (fun a w => ⟨_, by simp [execOp, mute]; rfl⟩) (fun a w ha => by
    have h1 := ha.1
    have h2 : ((execOp a.eval (mute o)).runT P w #[]).2 = #[] := rfl
    rw [h2] at h1
    simp at h1) ?_ ?_ _ _ _ _ (by simp) (by simp [Array.getD, hlt]) (fun j oj _ hl => by simp [Array.getD] at hl) (wpAny_of_held _ _ _ _ (h hS))
  · intro j oj hj e he
    have := List.all_eq_true.1 htop j (List.mem_range.2 (Array.getElem?_eq_some_iff.1 hj).1)
    simp only [hj] at this
    have := List.all_eq_true.1 this e (by simpa using he)
    simpa using this
  · intro j hj hne
    have := List.all_eq_true.1 hall j (List.mem_range.2 hj)
    simp only [Bool.or_eq_true, beq_iff_eq, hne, false_or] at this
    obtain ⟨e, he, h2⟩ := List.any_eq_true.1 this
    simp only [Bool.and_eq_true, Bool.or_eq_true, beq_iff_eq] at h2
    refine ⟨e, by simpa using he, h2.1, ?_⟩
    rcases h2.2 with h3 | h3
    · exact .inl h3
    · right
      cases hom : ops[e.on]? with
      | none => rw [hom] at h3; cases h3
      | some om =>
        rw [hom] at h3
        simp only at h3
        obtain ⟨f, hf, h4⟩ := List.any_eq_true.1 h3
        simp only [Bool.and_eq_true, beq_iff_eq] at h4
        exact ⟨om, rfl, f, by simpa using hf, h4.1, h4.2⟩
end Go.Proofs.YthaiodajfmbeaaaGreat
namespace Go.Proofs.YthaiodajfmbeaaaGreat
open Go.RowKit
open Ed (Nt)

/-- Blocks of bytes stand. -/
def B5 (w w' : World) : Prop := ∀ (g : Nat) (cur : Array Value) (fr : Nat × Nat), w.heap[g]? = some (.cells cur 5 fr) → w'.heap[g]? = w.heap[g]?
theorem In5.on {w w' : World} {ao : Option Addr} (h : In5 w ao) (ht : B5 w w') : In5 w' ao := fun ad had => by
  obtain ⟨cur, fr, hg⟩ := h ad had
  exact ⟨cur, fr, (ht _ cur fr hg).trans hg⟩
theorem src_on {w w' : World} {ao : Option Addr} {m c : Nat} {l : List UInt8} (h : Src w ao m c l) (h5 : In5 w ao) (ht : B5 w w') : Src w' ao m c l :=
  ⟨h.len, h.cap, h.nil, fun ad had j u hu => by
    obtain ⟨cur, fr, hg⟩ := h5 ad had
    have e : (ad.add j).block = ad.block := add_block ad j
    rw [World.cell?_of_block (w := w) (a := ad.add j) (by rw [e]; exact ht _ cur fr hg)]
    exact h.cells ad had j u hu⟩
theorem B5.trans {a b c : World} (h : B5 a b) (k : B5 b c) : B5 a c := fun g cur fr hg => (k g cur fr ((h g cur fr hg).trans hg)).trans (h g cur fr hg)
theorem B5.of_below {w w' : World} (h : Below w.heap.size w w') : B5 w w' := fun g _ _ hg => h.block g (Array.getElem?_eq_some_iff.1 hg).1
theorem B5.of_kept {w w' : World} {U : Nat → Prop} (h : Kept U w w') (hU : ∀ g, U g → ∀ cur fr, w.heap[g]? ≠ some (.cells cur 5 fr)) : B5 w w' := fun g cur fr hg => h.block g (Array.getElem?_eq_some_iff.1 hg).1 (fun hu => hU g hu cur fr hg)
theorem B5.of_set {w : World} {b i : Nat} {c : Array Value} {t : TypeId} {fr : Nat × Nat} (h : w.heap[b]? = some (.cells c t fr)) (ht : t ≠ 5) (v : Value) : B5 w (w.setCell ⟨b, i, none⟩ v) := fun g cur f hg => Below.heap_setCell _ _ _ g (fun e => by
  rw [show g = b from e, h] at hg
  cases hg
  exact ht rfl)
/-- How far read has come: the notes ys are there, L is left. -/
structure RdI (w : World) (rd vb : Nat) (G N Lg Sq : Int) (K n : Nat) (l5 : List UInt8) (ys : List MV) (v : Value) (L : List UInt8) (wr : World) : Prop where
  bel : Below w.heap.size w wr
  rdr : ∃ ao c, Rd (· < w.heap.size) wr rd ao L.length c L
  ver : wr.heap[vb]? = some (.cells #[.int .i64 G, .int .i64 N, .int .i64 Lg, .int .i64 Sq, v] 26)
  row : wr.ownsRow w.heap.size 39 5 v ys.length (rv metaKind ys)
  each : ∀ y ∈ ys, In5 wr y.fp ∧ In5 wr y.lp ∧ metaKind.held wr y
  plain : Ed.rdMs K l5 = ys.map (·.m) ++ Ed.rdMs (K - ys.length) L
  len : ys.length ≤ K
  short : L.length ≤ n
theorem rdL_len (l : List UInt8) : (Ed.rdL l).length ≤ l.length := by unfold Ed.rdL; rw [List.length_drop]; omega
theorem rdT_len (l : List UInt8) : (Ed.rdT l).length ≤ l.length := by unfold Ed.rdT; rw [List.length_drop]; omega
theorem rdML_len (l : List UInt8) : (Ed.rdML l).length ≤ l.length := by
  have h1 := rdL_len l
  have h2 := rdL_len (Ed.rdL l)
  have h3 := rdL_len (Ed.rdL (Ed.rdL l))
  have h4 := rdT_len (Ed.rdL (Ed.rdL (Ed.rdL l)))
  have h5 := rdT_len (Ed.rdT (Ed.rdL (Ed.rdL (Ed.rdL l))))
  unfold Ed.rdML
  omega
/-- The five calls of a round are over: the reader went on, the note's texts are there. -/
structure RdC (w : World) (rd : Nat) (L : List UInt8) (wr w5 : World) (y : MV) : Prop where
  kept : Kept (AtB rd) wr w5
  rdr : ∃ ao c, Rd (· < w.heap.size) w5 rd ao (Ed.rdML L).length c (Ed.rdML L)
  five : In5 w5 y.fp ∧ In5 w5 y.lp ∧ metaKind.held w5 y
  val : y.m = Ed.rdM L
theorem RdI.next {w : World} {rd vb : Nat} {G N Lg Sq : Int} {K n : Nat} {l5 : List UInt8} {ys : List MV} {v v7 : Value} {L : List UInt8} {wr w5 w7 : World} {y : MV} (h : RdI w rd vb G N Lg Sq K n l5 ys v L wr) (hr : w.heap.size ≤ rd) (hv : w.heap.size ≤ vb) (hL : 0 < L.length) (hK : ys.length < K)
    (hc : RdC w rd L wr w5 y) (ho : w7.ownsRow w.heap.size 39 5 v7 (ys.length + 1) (rv metaKind (ys ++ [y]))) (hg : (w5.alloc (Obj.cells (metaKind.vals y).toArray 39)).grownBy w7 v.ownBlock) :
    w7.heap[vb]? = some (.cells #[.int .i64 G, .int .i64 N, .int .i64 Lg, .int .i64 Sq, v] 26) ∧ RdI w rd vb G N Lg Sq K n l5 (ys ++ [y]) v7 (Ed.rdML L) (w7.setCell ⟨vb, 4, none⟩ v7) := by
  obtain ⟨W6, hW6⟩ : ∃ W6, w5.alloc (Obj.cells (metaKind.vals y).toArray 39) = W6 := ⟨_, rfl⟩
  have b56 : Below w5.heap.size w5 W6 := by rw [← hW6]; exact (Below.refl _ _).alloc (Nat.le_refl _) _
  rw [hW6] at hg
  obtain ⟨a0, c0, hR0⟩ := h.rdr
  obtain ⟨a1, c1, hR1⟩ := hc.rdr
  have hvr : vb ≠ rd := fun e => by
    have h1 := h.ver
    rw [e, hR0.row] at h1
    cases h1
  have k6 : Kept (AtB rd) wr W6 := hc.kept.trans (Kept.of_below b56)
  have row6 : W6.ownsRow w.heap.size 39 5 v ys.length (rv metaKind ys) := own_block h.row (fun g hg => k6.block g (own_size h.row hg) (fun e => by
    obtain ⟨cur, hcur⟩ := own_tag h.row hg
    rw [show g = rd from e, hR0.row] at hcur
    cases hcur))
  have ver6 : W6.heap[vb]? = some (.cells #[.int .i64 G, .int .i64 N, .int .i64 Lg, .int .i64 Sq, v] 26) := (k6.block vb (Array.getElem?_eq_some_iff.1 h.ver).1 hvr).trans h.ver
  have keepB : ∀ (g : Nat) (c : Array Value) (t : TypeId) (fr : Nat × Nat), W6.heap[g]? = some (Obj.cells c t fr) → t ≠ 39 → w7.heap[g]? = W6.heap[g]? := fun g c t fr hgc hne => hg.block g (Array.getElem?_eq_some_iff.1 hgc).1 (fun e => by
    obtain ⟨cur, hc⟩ := own_tag row6 e.symm
    rw [hgc] at hc
    cases hc
    exact hne rfl)
  have ver7 : w7.heap[vb]? = some (.cells #[.int .i64 G, .int .i64 N, .int .i64 Lg, .int .i64 Sq, v] 26) := (keepB vb _ _ _ ver6 (by decide)).trans ver6
  have t67 : B5 W6 w7 := fun g cur fr hgc => keepB g _ _ _ hgc (by decide)
  have t78 : B5 w7 (w7.setCell ⟨vb, 4, none⟩ v7) := B5.of_set ver7 (by decide) v7
  have t58 : B5 w5 (w7.setCell ⟨vb, 4, none⟩ v7) := ((B5.of_below b56).trans t67).trans t78
  have t05 : B5 wr w5 := B5.of_kept hc.kept (fun g e cur fr hgc => by
    rw [show g = rd from e, hR0.row] at hgc
    cases hgc)
  have r6 := hR1.below b56
  have r7 : w7.heap[rd]? = _ := (keepB rd _ _ _ r6.row (by decide)).trans r6.row
  have b58 : Below w.heap.size w5 (w7.setCell ⟨vb, 4, none⟩ v7) := by
    have s5 : w.heap.size ≤ w5.heap.size := Nat.le_trans h.bel.size hc.kept.size
    exact ((b56.mono s5).grown hg (Nat.le_trans s5 b56.size) (fun j hj => (row6.lt j hj).1)).setCell (p := ⟨vb, 4, none⟩) hv _
  refine ⟨ver7, ?_, ?_, set_row ver7 4 v7, ?_, ?_, ?_, ?_, ?_⟩
  · have b6 : Below w.heap.size w W6 := h.bel.trans (k6.below h.bel.size (fun g e => by rw [show g = rd from e]; exact hr))
    exact (b6.grown hg b6.size (fun j hj => (row6.lt j hj).1)).setCell (p := ⟨vb, 4, none⟩) hv _
  · refine ⟨a1, c1, (Below.heap_setCell _ _ _ rd (fun e => hvr (show rd = vb from e).symm)).trans r7, ?_, hR1.far, hR1.free⟩
    exact hR1.src.below' (B := w.heap.size) (fun ad h1 _ => hR1.far ad h1) b58
  · rw [List.length_append]
    refine own_block ho (fun g hg => Below.heap_setCell _ _ _ g (fun e => ?_))
    obtain ⟨cur, hc⟩ := own_tag ho hg
    rw [show g = vb from e, ver7] at hc
    cases hc
  · have one : ∀ {a b : World} {z : MV}, B5 a b → In5 a z.fp ∧ In5 a z.lp ∧ metaKind.held a z → In5 b z.fp ∧ In5 b z.lp ∧ metaKind.held b z := fun {a b z} ht hz => ⟨hz.1.on ht, hz.2.1.on ht, src_on hz.2.2.1 hz.1 ht, src_on hz.2.2.2 hz.2.1 ht⟩
    intro z hz
    rcases List.mem_append.1 hz with hz | hz
    · exact one t58 (one t05 (h.each z hz))
    · rw [List.mem_singleton.1 hz]
      exact one t58 hc.five
  · have e1 : K - ys.length = (K - (ys.length + 1)) + 1 := by omega
    rw [h.plain, e1, List.map_append, List.length_append, List.append_assoc]
    have e2 : Ed.rdMs (K - (ys.length + 1) + 1) L = Ed.rdM L :: Ed.rdMs (K - (ys.length + 1)) (Ed.rdML L) := by
      rw [Ed.rdMs, if_neg (by omega)]
    rw [e2, ← hc.val]
    rfl
  · rw [List.length_append]
    exact hK
  · exact Nat.le_trans (rdML_len L) h.short
end Go.Proofs.YthaiodajfmbeaaaGreat
namespace Go.Proofs.YthaiodajfmbeaaaGreat
open Go.RowKit
open Ed (Nt)

theorem RSrc.head {α : Type} {k : Kind α} (K : k.Ok) {w : World} {ao : Option Addr} {n c : Nat} {es : List α} (h : RSrc k w ao n c es) (m : Nat) (hm : m ≤ n) : RSrc k w ao m c (es.take m) :=
  ⟨by rw [List.length_take, h.len]; omega, Nat.le_trans hm h.cap, fun e => ⟨by have := (h.nil e).1; omega, (h.nil e).2⟩, fun ad had j u hu => by
    obtain ⟨i, q, e, rfl, hq, he, hv⟩ := rv_get K hu
    have hi : es[i]? = some e := by
      rw [List.getElem?_take] at he
      split at he
      · exact he
      · cases he
    exact h.cells ad had _ u ((rv_at K q hi hq).trans hv), fun e he => h.held e (List.mem_of_mem_take he)⟩
theorem RSrc.tail {α : Type} {k : Kind α} (K : k.Ok) {w : World} {b off n c : Nat} {es : List α} (h : RSrc k w (some ⟨b, off, none⟩) n c es) (m : Nat) (hm : m ≤ n) : RSrc k w (some ⟨b, off + m * k.size, none⟩) (n - m) (c - m) (es.drop m) := by
  have hl := h.len
  have hc := h.cap
  refine ⟨by rw [List.length_drop]; omega, by omega, fun e => (by cases e), fun ad had j u hu => ?_, fun e he => h.held e (List.mem_of_mem_drop he)⟩
  cases had
  obtain ⟨p, q, e, rfl, hq, he, hv⟩ := rv_get K hu
  rw [List.getElem?_drop] at he
  have h1 := h.cells _ rfl ((m + p) * k.size + q) u ((rv_at K q he hq).trans hv)
  rw [Addr.add_mid] at h1 ⊢
  rw [show off + m * k.size + (p * k.size + q) = off + ((m + p) * k.size + q) by rw [Nat.add_mul]; omega]
  exact h1
/-- Where blocks are as they were, but for one of another kind. -/
theorem RSrc.grown {α : Type} {k : Kind α} {w w' : World} {ao : Option Addr} {n c : Nat} {es : List α} {row : Option Nat} (h : RSrc k w ao n c es) (hg : w.grownBy w' row) (hf : ∀ ad, ao = some ad → some ad.block ≠ row) (hh : ∀ e ∈ es, k.held w' e) : RSrc k w' ao n c es :=
  ⟨h.len, h.cap, h.nil, fun ad had j u hu => by
    have h1 := h.cells ad had j u hu
    have hb : (ad.add j).block = ad.block := by first | rfl | (unfold Addr.add; split <;> rfl) | simp [Addr.add]
    rw [World.cell?_of_block (w := w) (hg.block _ (World.block_lt_of_cell? w _ h1) (by rw [hb]; exact hf ad had))]
    exact h1, hh⟩
theorem own_sliceM {w : World} {B t k n : Nat} {v : Value} {xs : List Value} (h : w.ownsRow B t k v n xs) : ∃ ao c, v = .slice ao n c := by
  rcases h.2 with ⟨rfl, rfl⟩ | ⟨g, cap, cur, rfl, _⟩
  · exact ⟨_, _, rfl⟩
  · exact ⟨_, _, rfl⟩
theorem step_append_rows {P : Program} {w : World} {ops : Array Oper} {o : Oper} {a : Act} {K : Act → World → Prop} {Q : Exit → Act → World → Prop} {E : Prop} (hgd : o.guard = none) (s x : Operand) (t : TypeId)
    (ho : o.op = .call { callee := .builtin .append, args := #[s, x], argTypes := #[t, t] })
    (base : Nat) (e : TypeId) (i : TypeInfo) (z : Value) (size bytes : Nat) (ht : P.underlying t = some (.slice e)) (hi : P.info? e = some i) (hz : i.zero = some z)
    (hsize : i.size = size) (hby : i.bytes = bytes) (hzs : z.cells.size = size) (hsz : 0 < size)
    (v : Value) (n : Nat) (xs : List Value) (hs : a.eval s = v) (hown : w.ownsRow base e size v n xs)
    (ao : Option Addr) (m c : Nat) (news : List Value) (hx : a.eval x = .slice ao m c) (hnil : ao = none → m = 0 ∧ c = 0) (hl : news.length = m * size) (hnews : ∀ ad, ao = some ad → ∀ j u, news[j]? = some u → w.cell? (ad.add j) = some u) (h1 : ∀ u ∈ news, u.oneCell' = true)
    (h63 : n + m ≤ maxLen) (hbytes : (n + m) * bytes ≤ 140737488355328) (hbase : base ≤ w.heap.size)
    (h : ∀ a' cap w', w'.ownsRow base e size (.slice a' (n + m) cap) (n + m) (xs ++ news) → w.grownBy w' v.ownBlock → K (a.put o.dst (.slice a' (n + m) cap)) w') :
    if Region.wanted o (yielded ops a.tmps) = true then Oper.wp P o a w K Q else E := by
  have hw : Region.wanted o (yielded ops a.tmps) = true := by simp [Region.wanted, hgd]
  rw [if_pos hw]
  cases ao with
  | some ad =>
    obtain ⟨v', w', hr, h2, h3, _, _⟩ := run_append_own_at (P := P) w base t o.type e i z size bytes ht hi hz hsize hby hzs hsz v n xs hown ad m c news hl (hnews ad rfl) h1 h63 hbytes hbase
    obtain ⟨a', c', rfl⟩ := own_sliceM h2
    unfold Oper.wp execOp
    simp only [ho, resolve, invoke, builtin, Sem.run_bind, Sem.run_pure, Result.andThen_ok, List.map_toArray, List.map_cons, List.map_nil, hs, hx, hr]
    exact h a' c' w' h2 h3
  | none =>
    obtain ⟨rfl, rfl⟩ := hnil rfl
    obtain rfl : news = [] := List.length_eq_zero_iff.1 (by rw [hl, Nat.zero_mul])
    have hrun := run_append_owned_none (P := P) (w := w) base t o.type e i size ht hi v n xs hown
    obtain ⟨a', c', rfl⟩ := own_sliceM hown
    unfold Oper.wp
    simp [execOp, ho, resolve, invoke, builtin, hs, hx, hrun, Result.andThen]
    exact h a' c' w (by rw [List.append_nil]; exact hown) (World.grownBy.refl _ _)
theorem own_apartT {w w' : World} {B B' t t' k k' n n' : Nat} {u v : Value} {xs ys : List Value} (hu : w.ownsRow B t k u n xs) (hv : w.ownsRow B' t' k' v n' ys) (hg : w.grownBy w' v.ownBlock) (ht : t ≠ t') : w'.ownsRow B t k u n xs :=
  own_block hu (fun j hj => hg.block j (own_size hu hj) (fun e => by
    obtain ⟨c1, h1⟩ := own_tag hu hj
    obtain ⟨c2, h2⟩ := own_tag hv e.symm
    rw [h1] at h2
    cases h2
    exact ht rfl))
theorem RSrc.built1M {w : World} {x : MV} {t : TypeId} (hx : metaKind.held w x) : RSrc metaKind (w.alloc (.cells (metaKind.vals x).toArray t)) (some ⟨w.heap.size, 0, none⟩) 1 1 [x] :=
  ⟨rfl, Nat.le_refl _, fun e => (by cases e), fun ad had j u hu => by
    cases had
    have h1 : (metaKind.vals x)[j]? = some u := by simpa [rv] using hu
    exact rec_cells (k := metaKind) w t x j u h1, fun e he => by
    rw [List.mem_singleton.1 he]
    exact metaKind_ok.below hx ((Below.refl _ _).alloc (Nat.le_refl _) _)⟩
end Go.Proofs.YthaiodajfmbeaaaGreat
