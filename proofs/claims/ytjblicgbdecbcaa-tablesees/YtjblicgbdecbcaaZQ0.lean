/- Tables over plain lists; no walk. -/
import Derived.Test.YtjblicgbdecbcaaZJdj
import Derived.Test.YtjblicgbdecbcaaZBp
namespace Go.Proofs.Ytjblicgbdecbcaa.Tq
open Go.Proofs.Ytjblicgbdecbcaa
open Go.Proofs.Ytjblicgbdecbcaa.Sk (Ent)
open Go.Proofs.Ytjblicgbdecbcaa.Bq (okAt ordB okB blk parse tS tR)

/-- May entries be a table? -/
def tok (l : List Ent) : Bool := decide (1 ≤ l.length) && decide (l.length ≤ 64) && ordB l l.length
theorem tok_len {l : List Ent} (h : tok l = true) : 1 ≤ l.length ∧ l.length ≤ 64 := by
  simp only [tok, Bool.and_eq_true, decide_eq_true_eq] at h
  exact h.1
theorem tok_ord {l : List Ent} (h : tok l = true) : ordB l l.length = true := by
  simp only [tok, Bool.and_eq_true, decide_eq_true_eq] at h
  exact h.2
theorem okAt_ok {l : List Ent} {n i : Nat} (h : ordB l n = true) (hi : i < n) : okAt l i = true := List.all_eq_true.1 h i (List.mem_range.2 hi)
theorem okAt_may {l : List Ent} {i : Nat} {e : Ent} (h : okAt l i = true) (he : l[i]? = some e) : Sk.may e = true := by
  simp only [okAt, he, Bool.and_eq_true] at h
  exact h.1
theorem tok_may {l : List Ent} (h : tok l = true) : ∀ e ∈ l, Sk.may e = true := fun e he => by
  obtain ⟨i, hi⟩ := List.getElem?_of_mem he
  exact okAt_may (okAt_ok (tok_ord h) (List.getElem?_eq_some_iff.1 hi).1) hi
theorem okAt_ahead {l : List Ent} {i : Nat} {a e : Ent} (h : okAt l (i + 1) = true) (ha : l[i]? = some a) (he : l[i + 1]? = some e) : Sk.aheadOf e.key e.seq a = true := by
  simp only [okAt, he, ha, Bool.and_eq_true] at h
  exact h.2
/-- Part of what is in order is in order. -/
theorem ordB_part {l : List Ent} (h : ordB l l.length = true) (a m : Nat) : ordB ((l.drop a).take m) ((l.drop a).take m).length = true := by
  refine List.all_eq_true.2 (fun i hi => ?_)
  have hi := List.mem_range.1 hi
  rw [List.length_take, List.length_drop] at hi
  have hai : a + i < l.length := by omega
  have e1 : ((l.drop a).take m)[i]? = l[a + i]? := by
    rw [List.getElem?_take_of_lt (by omega), List.getElem?_drop]
  have h1 := okAt_ok h hai
  obtain ⟨e, he⟩ : ∃ e, l[a + i]? = some e := ⟨l[a + i], List.getElem?_eq_getElem hai⟩
  cases i with
  | zero =>
    have := okAt_may h1 he
    simp only [okAt, e1, he, this, Bool.and_true]
  | succ j =>
    have e2 : ((l.drop a).take m)[j]? = l[a + j]? := by
      rw [List.getElem?_take_of_lt (by omega), List.getElem?_drop]
    obtain ⟨d, hd⟩ : ∃ d, l[a + j]? = some d := ⟨l[a + j], List.getElem?_eq_getElem (by omega)⟩
    have h2 := okAt_ahead (i := a + j) h1 hd he
    have h3 := okAt_may h1 he
    simp only [okAt, e1, e2, he, hd, h2, h3, Bool.and_true]
/-- The entry and the one behind it may be a block. -/
def ok2 (l : List Ent) (i : Nat) : Bool := okB ((l.drop i).take 2)
theorem tok_ok2 {l : List Ent} (h : tok l = true) {i : Nat} (hi : i < l.length) : ok2 l i = true := by
  unfold ok2 okB
  rw [ordB_part (tok_ord h) i 2]
  simp only [List.length_take, List.length_drop, Bool.and_true, Bool.and_eq_true, decide_eq_true_eq]
  omega
theorem ok2_tok {l : List Ent} (h1 : 1 ≤ l.length) (h2 : l.length ≤ 64) (h : ∀ i, i < l.length → ok2 l i = true) : tok l = true := by
  simp only [tok, Bool.and_eq_true, decide_eq_true_eq]
  refine ⟨⟨h1, h2⟩, List.all_eq_true.2 (fun i hi => ?_)⟩
  have hi := List.mem_range.1 hi
  obtain ⟨e, he⟩ : ∃ e, l[i]? = some e := ⟨l[i], List.getElem?_eq_getElem hi⟩
  cases i with
  | zero =>
    have h3 := h 0 hi
    unfold ok2 okB at h3
    simp only [Bool.and_eq_true] at h3
    have h4 := okAt_ok h3.2 (i := 0) (by rw [List.length_take, List.length_drop]; omega)
    have e1 : ((l.drop 0).take 2)[0]? = some e := by rw [List.getElem?_take_of_lt (by omega), List.getElem?_drop]; simpa using he
    simp only [okAt, he, okAt_may h4 e1, Bool.and_true]
  | succ j =>
    have h3 := h j (by omega)
    unfold ok2 okB at h3
    simp only [Bool.and_eq_true] at h3
    obtain ⟨d, hd⟩ : ∃ d, l[j]? = some d := ⟨l[j], List.getElem?_eq_getElem (by omega)⟩
    have h4 := okAt_ok h3.2 (i := 1) (by rw [List.length_take, List.length_drop]; omega)
    have e1 : ((l.drop j).take 2)[1]? = some e := by rw [List.getElem?_take_of_lt (by omega), List.getElem?_drop]; exact he
    have e0 : ((l.drop j).take 2)[0]? = some d := by rw [List.getElem?_take_of_lt (by omega), List.getElem?_drop]; exact hd
    have h5 := okAt_ahead (i := 0) h4 e0 e1
    simp only [okAt, he, hd, okAt_may h4 e1, h5, Bool.and_true]
theorem tok_no {l : List Ent} {i : Nat} (hi : i < l.length) (h : ok2 l i = false) : tok l = false := by
  cases ht : tok l with
  | false => rfl
  | true => rw [tok_ok2 ht hi] at h; cases h

/-- The k-th block's entries. -/
def grp (l : List Ent) (k : Nat) : List Ent := (l.drop (8 * k)).take 8
def cnt (n : Nat) : Nat := (n + 7) / 8
theorem grp_len (l : List Ent) (k : Nat) : (grp l k).length = min 8 (l.length - 8 * k) := by simp [grp]
theorem grp_ok {l : List Ent} (h : tok l = true) {k : Nat} (hk : k < cnt l.length) : okB (grp l k) = true := by
  have := ordB_part (tok_ord h) (8 * k) 8
  unfold okB grp
  rw [this]
  unfold cnt at hk
  simp only [List.length_take, List.length_drop, Bool.and_true, Bool.and_eq_true, decide_eq_true_eq]
  omega
theorem grp_flat (l : List Ent) : ∀ n, (List.range n).flatMap (grp l) = l.take (8 * n)
  | 0 => by simp
  | n + 1 => by
    rw [List.range_succ, List.flatMap_append, grp_flat l n, show 8 * (n + 1) = 8 * n + 8 by omega, List.take_add]
    simp [grp]
/-- A text's bytes. -/
def txtB (s : List UInt8) : List UInt8 := num s.length ++ s
/-- The first n blocks. -/
def blks (l : List Ent) (n : Nat) : List (List UInt8) := (List.range n).map (fun k => blk (grp l k))
def blksB (l : List Ent) (n : Nat) : List UInt8 := (blks l n).flatMap txtB
theorem blksB_succ (l : List Ent) (n : Nat) : blksB l (n + 1) = blksB l n ++ txtB (blk (grp l n)) := by
  simp [blksB, blks, List.range_succ]
/-- Is an entry's key not the one's ahead? -/
def isNew (l : List Ent) (k : Nat) : Bool :=
  match l[k]? with
  | none => false
  | some e => match k with
    | 0 => true
    | j + 1 => match l[j]? with
      | none => true
      | some a => !decide (a.key = e.key)
/-- The keys of the first k entries, each once. -/
def ks (l : List Ent) : Nat → List (List UInt8)
  | 0 => []
  | k + 1 => ks l k ++ (if isNew l k then (l[k]?.map (·.key)).toList else [])
theorem ks_le (l : List Ent) : ∀ k, (ks l k).length ≤ k
  | 0 => Nat.le_refl _
  | k + 1 => by
    have := ks_le l k
    simp only [ks, List.length_append]
    split
    · cases l[k]? <;> simp <;> omega
    · simp; omega
theorem ks_last {l : List Ent} : ∀ {k : Nat} {e : Ent}, l[k]? = some e → ∃ xs, ks l (k + 1) = xs ++ [e.key]
  | 0, e, h => ⟨[], by simp [ks, isNew, h]⟩
  | k + 1, e, h => by
    obtain ⟨a, ha⟩ : ∃ a, l[k]? = some a := ⟨l[k]'(by have := (List.getElem?_eq_some_iff.1 h).1; omega), List.getElem?_eq_getElem _⟩
    obtain ⟨xs, hx⟩ := ks_last ha
    by_cases hk : a.key = e.key
    · refine ⟨xs, ?_⟩
      have : isNew l (k + 1) = false := by simp [isNew, h, ha, hk]
      rw [ks, this, hx, hk]
      simp
    · refine ⟨ks l (k + 1), ?_⟩
      have : isNew l (k + 1) = true := by simp [isNew, h, ha, hk]
      rw [ks, this, h]
      simp
theorem ks_mem {l : List Ent} {k j : Nat} {e : Ent} (h : l[j]? = some e) (hj : j < k) : e.key ∈ ks l k := by
  induction k with
  | zero => omega
  | succ k ih =>
    by_cases hjk : j = k
    · subst hjk
      obtain ⟨xs, hx⟩ := ks_last h
      rw [hx]
      simp
    · simp only [ks]
      exact List.mem_append_left _ (ih (by omega))
def tkeys (l : List Ent) : List (List UInt8) := ks l l.length
theorem ks_from {l : List Ent} : ∀ {k : Nat} {x : List UInt8}, x ∈ ks l k → ∃ e ∈ l, e.key = x
  | 0, x, h => by cases h
  | k + 1, x, h => by
    simp only [ks] at h
    rcases List.mem_append.1 h with h | h
    · exact ks_from h
    · split at h
      · cases hl : l[k]? with
        | none => rw [hl] at h; simp at h
        | some e =>
          rw [hl] at h
          simp only [Option.map_some, Option.toList_some, List.mem_singleton] at h
          exact ⟨e, List.mem_of_getElem? hl, h.symm⟩
      · cases h
theorem tkeys_mem {l : List Ent} {x : List UInt8} (h : x ∈ tkeys l) : ∃ e ∈ l, e.key = x := ks_from h
/-- A key that an entry has is not denied. -/
theorem has_key {l : List Ent} {e : Ent} (h : e ∈ l) : Bl.has (Bl.build (tkeys l)) e.key = true := by
  obtain ⟨i, hi⟩ := List.getElem?_of_mem h
  exact Bl.has_build (ks_mem hi (List.getElem?_eq_some_iff.1 hi).1)
/-- The four bytes that a table begins with. -/
def swt : List UInt8 := [83, 87, 84, 49]
def filt (l : List Ent) : List UInt8 := Bl.build (tkeys l)
def traw (l : List Ent) : List UInt8 := swt ++ (num (cnt l.length) ++ (blksB l (cnt l.length) ++ txtB (filt l)))
def tab (l : List Ent) : List UInt8 := traw l ++ be 4 (crc (traw l)).toNat
theorem cnt_le {l : List Ent} (h : tok l = true) : 1 ≤ cnt l.length ∧ cnt l.length ≤ 8 := by
  have := tok_len h
  unfold cnt
  omega
theorem filt_len {l : List Ent} (h : tok l = true) : (filt l).length ≤ 80 := by
  have h1 := ks_le l l.length
  have h2 := tok_len h
  unfold filt
  rw [Bl.build_length]
  unfold Bl.sizeOf tkeys
  omega
theorem blksB_len {l : List Ent} (h : tok l = true) : ∀ n, n ≤ cnt l.length → (blksB l n).length ≤ 9014 * n
  | 0, _ => by simp [blksB, blks]
  | n + 1, hn => by
    have h1 := blksB_len h n (by omega)
    have h2 := Bq.blk_len (grp_ok h (k := n) (by omega))
    have h3 := Bq.num_len (n := (blk (grp l n)).length) (by omega)
    rw [blksB_succ, List.length_append, txtB, List.length_append]
    omega
theorem traw_len {l : List Ent} (h : tok l = true) : (traw l).length ≤ 72300 := by
  have h1 := blksB_len h (cnt l.length) (Nat.le_refl _)
  have h2 := filt_len h
  have h3 := cnt_le h
  have h4 := Bq.num_len (n := (filt l).length) (by omega)
  have h5 := Bq.num_len (n := cnt l.length) (by omega)
  simp only [traw, txtB, swt, List.length_append, List.length_cons, List.length_nil]
  omega
theorem tab_len {l : List Ent} (h : tok l = true) : (tab l).length ≤ 72304 := by
  have := traw_len h
  unfold tab
  rw [List.length_append, be_length]
  omega

/-- The texts that bytes begin with, each taken where there is one. -/
def readP : Nat → List UInt8 → List (List UInt8)
  | 0, _ => []
  | n + 1, r => tS r (r.length : Nat) :: readP n (tR r (r.length : Nat))
def readR : Nat → List UInt8 → List UInt8
  | 0, r => r
  | n + 1, r => readR n (tR r (r.length : Nat))
theorem readR_succ : ∀ (n : Nat) (r : List UInt8), readR (n + 1) r = tR (readR n r) ((readR n r).length : Nat)
  | 0, _ => rfl
  | n + 1, r => readR_succ n (tR r (r.length : Nat))
theorem readP_succ : ∀ (n : Nat) (r : List UInt8), readP (n + 1) r = readP n r ++ [tS (readR n r) ((readR n r).length : Nat)]
  | 0, r => rfl
  | n + 1, r => by
    have := readP_succ n (tR r (r.length : Nat))
    simp only [readP, readR, List.cons_append] at this ⊢
    rw [this]
theorem readP_len : ∀ (n : Nat) (r : List UInt8), (readP n r).length = n
  | 0, _ => rfl
  | n + 1, r => by simp [readP, readP_len n]
theorem readR_len : ∀ (n : Nat) (r : List UInt8), (readR n r).length ≤ r.length
  | 0, _ => Nat.le_refl _
  | n + 1, r => Nat.le_trans (readR_len n _) (Bq.tR_len r _)
theorem tS_short (b : List UInt8) (most : Int) : (tS b most).length ≤ b.length := by
  unfold Bq.tS
  cases h : txt b most with
  | none => simp
  | some x =>
    obtain ⟨s, r⟩ := x
    unfold txt at h
    split at h
    · cases h
    · rename_i n r' hn
      split at h
      · cases h
        have := congrArg List.length (takeNum_some hn).2
        rw [List.length_append] at this
        simp only [Option.map_some, Option.getD_some, List.length_take]
        omega
      · cases h
theorem readP_short : ∀ (n : Nat) (r : List UInt8), ∀ x ∈ readP n r, x.length ≤ r.length
  | 0, _, _, h => by cases h
  | n + 1, r, x, h => by
    rcases List.mem_cons.1 h with rfl | h
    · exact tS_short _ _
    · exact Nat.le_trans (readP_short n _ x h) (Bq.tR_len r _)
theorem take_txt {s r : List UInt8} (h : s.length < 4611686018427387904) : tS (txtB s ++ r) ((txtB s ++ r).length : Nat) = s ∧ tR (txtB s ++ r) ((txtB s ++ r).length : Nat) = r := by
  have h1 := Bq.tS_put (s := s) (r := r) (most := (((txtB s ++ r).length : Nat) : Int)) h (by simp only [txtB, List.length_append]; omega)
  have e : txtB s ++ r = num s.length ++ (s ++ r) := by simp [txtB]
  rw [e] at h1 ⊢
  exact h1
theorem read_txts : ∀ (xs : List (List UInt8)) (t : List UInt8), (∀ x ∈ xs, x.length < 4611686018427387904) → readP xs.length (xs.flatMap txtB ++ t) = xs ∧ readR xs.length (xs.flatMap txtB ++ t) = t
  | [], t, _ => ⟨rfl, by simp [readR]⟩
  | x :: xs, t, h => by
    have h1 := take_txt (s := x) (r := xs.flatMap txtB ++ t) (h x (List.mem_cons_self ..))
    have h2 := read_txts xs t (fun y hy => h y (List.mem_cons_of_mem _ hy))
    simp only [List.flatMap_cons, List.length_cons, readP, readR, List.append_assoc]
    rw [h1.1, h1.2, h2.1, h2.2]
    exact ⟨rfl, rfl⟩
/-- How many pieces are read, the pieces, the filter. -/
def pn (b : List UInt8) : Nat := min (nOf (b.drop 4)) 8
def pieces (b : List UInt8) : List (List UInt8) := readP (pn b) (rOf (b.drop 4))
def filtOf (b : List UInt8) : List UInt8 := tS (readR (pn b) (rOf (b.drop 4))) ((readR (pn b) (rOf (b.drop 4))).length : Nat)
/-- The entries of a piece; none, if it is no block. -/
def pl (p : List UInt8) : List Ent := (parse p).getD []
def rd (b : List UInt8) : List Ent := (pieces b).flatMap pl
theorem pieces_tab {l : List Ent} (h : tok l = true) (t : List UInt8) : pieces (tab l ++ t) = blks l (cnt l.length) ∧ filtOf (tab l ++ t) = filt l := by
  have hc := cnt_le h
  have e0 : (tab l ++ t).drop 4 = num (cnt l.length) ++ (blksB l (cnt l.length) ++ (txtB (filt l) ++ (be 4 (crc (traw l)).toNat ++ t))) := by
    simp only [tab, traw, swt, List.append_assoc, List.cons_append, List.nil_append, List.drop_succ_cons, List.drop_zero]
  have f1 := Bq.nOf_put (n := cnt l.length) (r := blksB l (cnt l.length) ++ (txtB (filt l) ++ (be 4 (crc (traw l)).toNat ++ t))) (by omega)
  have hl : (blks l (cnt l.length)).length = cnt l.length := by simp [blks]
  have f2 := read_txts (blks l (cnt l.length)) (txtB (filt l) ++ (be 4 (crc (traw l)).toNat ++ t)) (fun x hx => by
    simp only [blks, List.mem_map, List.mem_range] at hx
    obtain ⟨k, hk, rfl⟩ := hx
    have := Bq.blk_len (grp_ok h hk)
    omega)
  rw [hl] at f2
  have f3 := take_txt (s := filt l) (r := be 4 (crc (traw l)).toNat ++ t) (by have := filt_len h; omega)
  have e1 : pn (tab l ++ t) = cnt l.length := by
    unfold pn
    rw [e0, f1.1]
    omega
  refine ⟨?_, ?_⟩
  · unfold pieces
    rw [e1, e0, f1.2]
    exact f2.1
  · unfold filtOf
    rw [e1, e0, f1.2]
    show tS (readR _ ((blks l (cnt l.length)).flatMap txtB ++ _)) _ = _
    rw [show blksB l (cnt l.length) = (blks l (cnt l.length)).flatMap txtB from rfl, f2.2]
    exact f3.1
theorem flat_congr {α β : Type} {f g : α → List β} {xs : List α} (h : ∀ x ∈ xs, f x = g x) : xs.flatMap f = xs.flatMap g := by
  induction xs with
  | nil => rfl
  | cons a xs ih => rw [List.flatMap_cons, List.flatMap_cons, h a (List.mem_cons_self ..), ih (fun x hx => h x (List.mem_cons_of_mem _ hx))]
theorem rd_tab {l : List Ent} (h : tok l = true) (t : List UInt8) : rd (tab l ++ t) = l := by
  unfold rd
  rw [(pieces_tab h t).1]
  have e : (blks l (cnt l.length)).flatMap pl = (List.range (cnt l.length)).flatMap (grp l) := by
    unfold blks
    rw [List.flatMap_map]
    refine flat_congr (fun k hk => ?_)
    unfold pl
    rw [Bq.parse_blk (grp_ok h (List.mem_range.1 hk))]
    rfl
  rw [e, grp_flat]
  refine List.take_of_length_le ?_
  unfold cnt
  omega
/-- Which table bytes are; none, if they are none. -/
def tparse (b : List UInt8) : Option (List Ent) := if tok (rd b) = true ∧ tab (rd b) = b then some (rd b) else none
theorem tparse_tab {l : List Ent} (h : tok l = true) : tparse (tab l) = some l := by
  have := rd_tab h []
  rw [List.append_nil] at this
  unfold tparse
  rw [this, if_pos ⟨h, rfl⟩]
theorem tparse_some {b : List UInt8} {l : List Ent} (h : tparse b = some l) : tok l = true ∧ tab l = b := by
  unfold tparse at h
  split at h
  · rename_i hc
    cases h
    exact hc
  · cases h
theorem tparse_none {b : List UInt8} (h : ∀ l, tok l = true → tab l ≠ b) : tparse b = none := by
  cases hp : tparse b with
  | none => rfl
  | some l => exact absurd (tparse_some hp).2 (h l (tparse_some hp).1)
theorem tparse_no {b : List UInt8} (h : ¬ (tok (rd b) = true ∧ tab (rd b) = b)) : tparse b = none := by
  unfold tparse
  rw [if_neg h]
theorem tab_free {l l' : List Ent} (h : tok l = true) (h' : tok l' = true) {t : List UInt8} (e : tab l = tab l' ++ t) : t = [] := by
  have e1 : l = l' := by
    have := rd_tab h []
    rw [List.append_nil] at this
    rw [← this, e, rd_tab h']
  rw [e1] at e
  have := congrArg List.length e
  rw [List.length_append] at this
  exact List.length_eq_zero_iff.1 (by omega)
theorem tparse_cut {l : List Ent} (h : tok l = true) {k : Nat} (hk : k < (tab l).length) : tparse ((tab l).take k) = none := tparse_none (fun l' h' e => by
  have e1 : tab l = tab l' ++ (tab l).drop k := by rw [e, List.take_append_drop]
  have := congrArg List.length (tab_free h h' e1)
  rw [List.length_drop, List.length_nil] at this
  omega)
theorem tparse_on {l : List Ent} (h : tok l = true) (x : UInt8) : tparse (tab l ++ [x]) = none := tparse_none (fun l' h' e => by
  have := tab_free h' h e
  cases this)
theorem tparse_turned {l : List Ent} {k : Nat} (hk : k < (tab l).length) {y : UInt8} (hy : y ≠ fn (tab l) k) : tparse ((tab l).set k y) = none := tparse_none (fun l' h' e => by
  have hl := congrArg List.length e
  rw [List.length_set] at hl
  simp only [tab, List.length_append, be_length] at hl
  have hlen : (traw l').length = (traw l).length := by omega
  by_cases hkn : k < (traw l).length
  · have hset : (tab l).set k y = (traw l).set k y ++ be 4 (crc (traw l)).toNat := by
      unfold tab
      rw [List.set_append_left _ _ hkn]
    rw [hset] at e
    unfold tab at e
    obtain ⟨e1, e2⟩ := List.append_inj e (by rw [List.length_set]; exact hlen)
    have hc : (crc (traw l')).toNat = (crc (traw l)).toNat := by
      have h1 := congrArg big e2
      rwa [big_be 4 _ (by have := (crc (traw l')).toNat_lt; have e : (256 : Nat) ^ 4 = 4294967296 := rfl; omega), big_be 4 _ (by have := (crc (traw l)).toNat_lt; have e : (256 : Nat) ^ 4 = 4294967296 := rfl; omega)] at h1
    have hc' : crc (traw l') = crc (traw l) := UInt32.toNat_inj.1 hc
    obtain ⟨s1, s2⟩ := Bq.set_split8 (traw l) k y hkn
    rw [e1, s2] at hc'
    have hc2 : crc ((traw l).take k ++ y :: (traw l).drop (k + 1)) = crc ((traw l).take k ++ fn (traw l) k :: (traw l).drop (k + 1)) := by rw [hc', ← s1]
    have := crc_turned hc2
    apply hy
    rw [this]
    unfold tab
    exact (fn_left _ _ _ hkn).symm
  · have hset : (tab l).set k y = traw l ++ (be 4 (crc (traw l)).toNat).set (k - (traw l).length) y := by
      unfold tab
      rw [List.set_append_right _ _ (by omega)]
    rw [hset] at e
    unfold tab at e
    obtain ⟨e1, e2⟩ := List.append_inj e hlen
    rw [e1] at e2
    have hk2 : k - (traw l).length < (be 4 (crc (traw l)).toNat).length := by
      simp only [tab, List.length_append] at hk
      omega
    refine Bq.set_ne8 hk2 (fun hyy => hy ?_) e2.symm
    rw [hyy]
    unfold tab fn
    simp only [List.getD, List.getElem?_append_right (show (traw l).length ≤ k by omega)])
end Go.Proofs.Ytjblicgbdecbcaa.Tq
