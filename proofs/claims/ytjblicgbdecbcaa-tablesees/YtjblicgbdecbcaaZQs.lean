/- A drawn region inside a round, walked as outside; what a scan tells, over plain lists; no walk. -/
import Derived.Test.YtjblicgbdecbcaaZQp
import Derived.Test.YtjblicgbdecbcaaZQe
namespace Go.Proofs.Ytjblicgbdecbcaa
open Go.RowKit Go.Shelf
open Sk (Ent)

theorem rows_wide {n : Nat} {P : Program} {row : String} {args : Array Value} {w : World} {R : Value → World → Prop} (h : Rows P row args w R) : RowsIn Fence.wide n P row args w R := fun c cs _ =>
  let ⟨v, w', r, s⟩ := h c cs
  ⟨v, w', r, stepsIn_wide.2 s⟩
theorem oper_round {l n : Nat} {P : Program} {o : Oper} {a : Act} {w : World} {K : Act → World → Prop} {Q : Exit → Act → World → Prop} (hno : ∀ c, o.op ≠ .defer c) (h : o.wp P a w K Q) : o.wpIn (Fence.wide.inRound l) n P a w K Q := by
  unfold Oper.wpIn
  refine ⟨fun _ _ => trivial, ?_⟩
  rw [Oper.semAt_eq _ _ _ hno]
  unfold Oper.wp at h
  generalize (execOp a.eval o).run P w = r at h ⊢
  cases r with
  | ok x w' =>
    cases x <;> simp only [Oper.upon, Oper.uponIn] at h ⊢
    case value => exact h
    case skip => exact h
    case defer => exact h
    case enter => exact ⟨fun e => absurd e (by simp [Fence.wide]), callsIn_wide.2 h⟩
    case row => exact ⟨fun e => absurd e (by simp [Fence.wide]), rows_wide h⟩
  | halt x w' => cases x <;> simp only [Oper.upon, Oper.uponIn] at h ⊢; exact h
theorem any_round {l n : Nat} {P : Program} {md : Region.Mode} {ops : Array Oper} {Q : Exit → Act → World → Prop} (hno : ∀ (i : Nat) o, ops[i]? = some o → ∀ c, o.op ≠ .defer c) (hlo : ¬ LetsOut Q) : ∀ (fuel : Nat) (listed : Array Bool) (a : Act) (w : World), wpAny P md ops Q fuel listed a w → wpAnyIn (Fence.wide.inRound l) n P md ops Q fuel listed a w
  | 0, _, _, _, h => h
  | fuel + 1, listed, a, w, h => by
    refine ⟨h.1, fun i hi => ?_⟩
    have h2 := h.2 i hi
    unfold wpOp at h2
    unfold wpOpIn
    cases ho : ops[i]? with
    | none => rw [ho] at h2; exact any_round hno hlo fuel _ _ _ h2
    | some o =>
      rw [ho] at h2
      simp only at h2 ⊢
      split at h2
      · rename_i hw
        rw [if_pos hw]
        rcases h2 with h2 | ⟨_, h2⟩
        · exact Oper.wpIn_mono (fun a w hh => any_round hno hlo fuel _ a w hh) (oper_round (hno i o ho) h2)
        · exact absurd h2 hlo
      · rename_i hw
        rw [if_neg hw]
        exact ⟨fun _ _ => trivial, any_round hno hlo fuel _ _ _ h2⟩
/-- No operation defers a call. -/
def noDefer (ops : Array Oper) : Bool := ops.all (fun o => match o.op with | .defer _ => false | _ => true)
theorem noDefer_at {ops : Array Oper} (h : noDefer ops = true) (i : Nat) (o : Oper) (ho : ops[i]? = some o) (c : _) : o.op ≠ .defer c := fun e => by
  unfold noDefer at h
  rw [Array.all_eq_true'] at h
  have h1 := h o (Array.mem_of_getElem? ho)
  rw [e] at h1
  cases h1
/-- A drawn region inside a round, walked as outside. -/
theorem region_heldR {P : Program} {ops : Array Oper} {Q : Exit → Act → World → Prop} {S : World → Prop} {id l n : Nat} {a : Act} {w : World} (hno : noDefer ops = true) (hlo : ¬ LetsOut Q) (hm : P.follows .mixedOrders = true) (hS : S w.drew)
    (h : S w.drew → wpAnyH P .any ops Q S ops.size (Array.replicate ops.size false) a w.drew) : (Code.region id ops true).wpIn (Fence.wide.inRound l) n P Q a w :=
  wpIn_region_any hm (any_round (noDefer_at hno) hlo _ _ _ _ (wpAny_of_held _ _ _ _ (h hS)))
theorem list_round {l n : Nat} {P : Program} {ops : Array Oper} {Q : Exit → Act → World → Prop} (hlo : ¬ LetsOut Q) : ∀ (rest : List Oper) (a : Act) (w : World), (∀ o ∈ rest, ∀ c, o.op ≠ .defer c) → wpList P ops Q rest a w → wpListIn (Fence.wide.inRound l) n P ops Q rest a w
  | [], _, _, _, h => h
  | o :: rest, a, w, hno, h => by
    have ih := fun a w => list_round (l := l) (n := n) (P := P) (ops := ops) hlo rest a w (fun o ho => hno o (List.mem_cons_of_mem _ ho))
    simp only [wpList] at h
    simp only [wpListIn]
    split at h
    · rename_i hw
      rw [if_pos hw]
      rcases h with h | ⟨_, h⟩
      · exact Oper.wpIn_mono ih (oper_round (hno o (List.mem_cons_self ..)) h)
      · exact absurd h hlo
    · rename_i hw
      rw [if_neg hw]
      exact ⟨fun _ _ => trivial, ih _ _ h⟩
/-- A region inside a round, walked as outside. -/
theorem region_plainR {P : Program} {ls : List Oper} {Q : Exit → Act → World → Prop} {id l n : Nat} {a : Act} {w : World} (hno : noDefer ls.toArray = true) (hlo : ¬ LetsOut Q) (h : wpList P ls.toArray Q ls a w) : (Code.region id ls.toArray false).wpIn (Fence.wide.inRound l) n P Q a w :=
  wpIn_region_lit (list_round hlo ls a w (fun o ho c => by
    obtain ⟨i, hi⟩ := List.getElem?_of_mem ho
    exact noDefer_at hno i o (by simpa using hi) c) h)
theorem regionIn_share {F : Fence} {n : Nat} {P : Program} {id : Nat} {ops : Array Oper} {b : Bool} {Q : Exit → Act → World → Prop} {a : Act} {w : World} (R : Act → Act → World → Prop) (h1 : (Code.region id ops b).wpIn F n P (OnlyN (R a)) a w) (h2 : ∀ a' w', R a a' w' → Q .normal a' w') : (Code.region id ops b).wpIn F n P Q a w :=
  wpIn_mono h1 (fun e a' w' hh => by
    cases e with
    | normal => exact h2 a' w' hh
    | _ => exact (hh : False).elim)
theorem onlyN_out {R : Act → World → Prop} : ¬ LetsOut (OnlyN R) := fun ⟨_, _, h⟩ => h

/-- The last one's key. -/
def lastKey (l : List Ent) : Option (List UInt8) := l.getLast?.map (·.key)
theorem lastKey_snoc (l : List Ent) (z : Ent) : lastKey (l ++ [z]) = some z.key := by unfold lastKey; simp
/-- Is it out of the scan's bounds? -/
def outB (from_ to : List UInt8) (s : Int) (e : Ent) : Bool := less e.key from_ || (decide (0 < to.length) && !less e.key to) || decide (s < e.seq)
def dstep (from_ to : List UInt8) (s : Int) (acc : List Ent) (e : Ent) : List Ent := if outB from_ to s e then acc else if lastKey acc = some e.key then acc else acc ++ [e]
def dscan (l : List Ent) (from_ to : List UInt8) (s : Int) : List Ent := l.foldl (dstep from_ to s) []
theorem dscan_more {l : List Ent} {k : Nat} {e : Ent} (h : l[k]? = some e) (from_ to : List UInt8) (s : Int) : dscan (l.take (k + 1)) from_ to s = dstep from_ to s (dscan (l.take k) from_ to s) e := by
  unfold dscan
  rw [List.take_add_one, h, List.foldl_append]
  rfl
theorem dfold_out {from_ to : List UInt8} {s : Int} : ∀ (l acc : List Ent), (∀ e ∈ l, outB from_ to s e = true) → l.foldl (dstep from_ to s) acc = acc
  | [], acc, _ => rfl
  | e :: l, acc, h => by
    have h1 := h e List.mem_cons_self
    simp only [List.foldl_cons]
    rw [show dstep from_ to s acc e = acc from by unfold dstep; rw [if_pos h1]]
    exact dfold_out l acc (fun x hx => h x (List.mem_cons_of_mem _ hx))
/-- Each goes ahead of those behind it. -/
def Ord (l : List Ent) : Prop := ∀ (i j : Nat) (a b : Ent), i < j → l[i]? = some a → l[j]? = some b → Sk.Goes a b
theorem tok_ordL {L : List Ent} (h : Tq.tok L = true) : Ord L := fun _ _ _ _ hij ha hb => tok_goes h hij ha hb
/-- Is it past the scan's end? -/
def past (to : List UInt8) (e : Ent) : Bool := decide (0 < to.length) && !less e.key to
/-- What is behind one that is past the end is out. -/
theorem dscan_stop {l : List Ent} (ho : Ord l) {f t : List UInt8} {s : Int} {k : Nat} {e : Ent} (he : l[k]? = some e) (hp : past t e = true) : dscan l f t s = dscan (l.take k) f t s := by
  unfold dscan
  conv => lhs; rw [← List.take_append_drop k l]
  rw [List.foldl_append]
  refine dfold_out _ _ (fun x hx => ?_)
  obtain ⟨i, hi⟩ := List.getElem?_of_mem hx
  rw [List.getElem?_drop] at hi
  unfold past at hp
  simp only [Bool.and_eq_true, decide_eq_true_eq, Bool.not_eq_true'] at hp
  have hx2 : less x.key t = false := by
    cases i with
    | zero =>
      rw [Nat.add_zero, he] at hi
      cases hi
      exact hp.2
    | succ j =>
      cases hq : less x.key t with
      | false => rfl
      | true =>
        have := Sk.from_down t e x (ho k _ e x (by omega) he hi) hq
        rw [hp.2] at this
        cases this
  unfold outB
  rw [hx2, decide_eq_true hp.1]
  simp
theorem goes_less {a b : Ent} (h : Sk.Goes a b) (hk : a.key ≠ b.key) : less a.key b.key = true := by
  unfold Sk.Goes Sk.aheadOf at h
  rwa [if_neg hk] at h
/-- How far a scan has come. -/
structure ScanI (l : List Ent) (f t : List UInt8) (s : Int) (k : Nat) (D : List Ent) : Prop where
  each : ∀ x ∈ D, ∃ i, i < k ∧ l[i]? = some x ∧ outB f t s x = false ∧ ∀ j y, j < i → l[j]? = some y → y.key = x.key → s < y.seq
  up : D.Pairwise (fun a b => less a.key b.key = true)
  all : ∀ i y, i < k → l[i]? = some y → outB f t s y = false → ∃ x ∈ D, x.key = y.key
theorem outB_seq {f t : List UInt8} {s : Int} {x : Ent} (h : outB f t s x = false) : x.seq ≤ s := by
  simp only [outB, Bool.or_eq_false_iff, decide_eq_false_iff_not] at h
  omega
theorem outB_key {f t : List UInt8} {s : Int} {x y : Ent} (h : outB f t s x = false) (hk : y.key = x.key) (hs : y.seq ≤ s) : outB f t s y = false := by
  simp only [outB, Bool.or_eq_false_iff, decide_eq_false_iff_not] at h ⊢
  rw [hk]
  exact ⟨h.1, by omega⟩
theorem ScanI.last {l : List Ent} {f t : List UInt8} {s : Int} {k : Nat} {D : List Ent} (h : ScanI l f t s k D) (hu : Ord l) {e : Ent} (he : l[k]? = some e) {x : Ent} (hx : x ∈ D) (hk : x.key = e.key) : lastKey D = some e.key := by
  have hne : D ≠ [] := fun e => by rw [e] at hx; cases hx
  have hD := List.dropLast_concat_getLast hne
  have hz : D.getLast hne ∈ D := List.getLast_mem hne
  obtain ⟨z, hzz⟩ : ∃ z, D.getLast hne = z := ⟨_, rfl⟩
  rw [hzz] at hD hz
  have hl : lastKey D = some z.key := by rw [← hD]; exact lastKey_snoc _ _
  rw [hl]
  rw [← hD] at hx
  rcases List.mem_append.1 hx with hx | hx
  · have hp := h.up
    rw [← hD, List.pairwise_append] at hp
    have h1 := hp.2.2 x hx z (by simp)
    obtain ⟨j, hj, hzj, _⟩ := h.each z hz
    have hg := hu _ _ _ _ hj hzj he
    by_cases hze : z.key = e.key
    · rw [hze]
    · have h2 := goes_less hg hze
      rw [hk] at h1
      rw [less_asymm h1] at h2
      cases h2
  · rw [← List.mem_singleton.1 hx, hk]
theorem ScanI.zero (l : List Ent) (f t : List UInt8) (s : Int) : ScanI l f t s 0 [] := ⟨fun x h => (by cases h), List.Pairwise.nil, fun i y h => absurd h (Nat.not_lt_zero _)⟩
theorem ScanI.next {l : List Ent} {f t : List UInt8} {s : Int} {k : Nat} {D : List Ent} (h : ScanI l f t s k D) (hu : Ord l) {e : Ent} (he : l[k]? = some e) : ScanI l f t s (k + 1) (dstep f t s D e) := by
  have old : ∀ x ∈ D, ∃ i, i < k + 1 ∧ l[i]? = some x ∧ outB f t s x = false ∧ ∀ j y, j < i → l[j]? = some y → y.key = x.key → s < y.seq := fun x hx => by
    obtain ⟨i, hi, r⟩ := h.each x hx
    exact ⟨i, by omega, r⟩
  unfold dstep
  by_cases ho : outB f t s e = true
  · rw [if_pos ho]
    refine ⟨old, h.up, fun i y hi hy hn => ?_⟩
    rcases Nat.lt_or_ge i k with h1 | h1
    · exact h.all i y h1 hy hn
    · obtain rfl : i = k := by omega
      rw [he] at hy
      cases hy
      rw [ho] at hn
      cases hn
  · rw [if_neg ho]
    have hof : outB f t s e = false := by simpa using ho
    by_cases hk : lastKey D = some e.key
    · rw [if_pos hk]
      refine ⟨old, h.up, fun i y hi hy hn => ?_⟩
      rcases Nat.lt_or_ge i k with h1 | h1
      · exact h.all i y h1 hy hn
      · obtain rfl : i = k := by omega
        rw [he] at hy
        cases hy
        unfold lastKey at hk
        obtain ⟨z, hz, hze⟩ := Option.map_eq_some_iff.1 hk
        exact ⟨z, List.mem_of_getLast? hz, hze⟩
    · rw [if_neg hk]
      have none_ : ∀ x ∈ D, x.key ≠ e.key := fun x hx hxe => hk (h.last hu he hx hxe)
      refine ⟨fun x hx => ?_, ?_, fun i y hi hy hn => ?_⟩
      · rcases List.mem_append.1 hx with hx | hx
        · exact old x hx
        · rw [List.mem_singleton.1 hx]
          refine ⟨k, by omega, he, hof, fun j y hj hy hye => ?_⟩
          by_cases hys : y.seq ≤ s
          · obtain ⟨x, hx, hxk⟩ := h.all j y hj hy (outB_key hof hye hys)
            exact absurd (hxk.trans hye) (none_ x hx)
          · omega
      · rw [List.pairwise_append]
        refine ⟨h.up, by simp, fun a ha b hb => ?_⟩
        rw [List.mem_singleton.1 hb]
        obtain ⟨i, hi, hai, _⟩ := h.each a ha
        exact goes_less (hu _ _ _ _ hi hai he) (none_ a ha)
      · rcases Nat.lt_or_ge i k with h1 | h1
        · obtain ⟨x, hx, hxk⟩ := h.all i y h1 hy hn
          exact ⟨x, List.mem_append_left _ hx, hxk⟩
        · obtain rfl : i = k := by omega
          rw [he] at hy
          cases hy
          exact ⟨e, by simp, rfl⟩
theorem scan_all {l : List Ent} (hu : Ord l) (f t : List UInt8) (s : Int) : ∀ k, k ≤ l.length → ScanI l f t s k (dscan (l.take k) f t s)
  | 0, _ => by simpa [dscan] using ScanI.zero l f t s
  | k + 1, hk => by
    have he : l[k]? = some l[k] := List.getElem?_eq_getElem hk
    rw [dscan_more he]
    exact (scan_all hu f t s k (by omega)).next hu he
theorem scan_is {l : List Ent} (hu : Ord l) (f t : List UInt8) (s : Int) : ScanI l f t s l.length (dscan l f t s) := by
  have h := scan_all hu f t s l.length (Nat.le_refl _)
  rwa [List.take_length] at h
/-- What a scan tells of one entry: its key's version. -/
theorem scan_one {l : List Ent} (hu : Ord l) {f t : List UInt8} {s : Int} {i : Nat} {x : Ent} (hx : (dscan l f t s)[i]? = some x) : verE l x.key s = some x := by
  obtain ⟨j, _, hj, ho, hb⟩ := (scan_is hu f t s).each x (List.mem_of_getElem? hx)
  refine find_at hj (by simp [vers, outB_seq ho]) (List.find?_eq_none.2 (fun y hy hv => ?_))
  obtain ⟨q, hq⟩ := List.getElem?_of_mem hy
  have hqj : q < j := by
    have := (List.getElem?_eq_some_iff.1 hq).1
    rw [List.length_take] at this
    omega
  rw [List.getElem?_take_of_lt hqj] at hq
  unfold vers at hv
  simp only [Bool.and_eq_true, decide_eq_true_eq] at hv
  have := hb q y hqj hq hv.1
  omega
theorem scan_rise {l : List Ent} (hu : Ord l) {f t : List UInt8} {s : Int} {i : Nat} {x y : Ent} (hx : (dscan l f t s)[i]? = some x) (hy : (dscan l f t s)[i + 1]? = some y) : less x.key y.key = true := by
  have hp := (scan_is hu f t s).up
  rw [List.pairwise_iff_getElem] at hp
  obtain ⟨h1, e1⟩ := List.getElem?_eq_some_iff.1 hx
  obtain ⟨h2, e2⟩ := List.getElem?_eq_some_iff.1 hy
  have := hp i (i + 1) h1 h2 (by omega)
  rwa [e1, e2] at this
theorem scan_from {l : List Ent} (hu : Ord l) {f t : List UInt8} {s : Int} {x : Ent} (hx : x ∈ dscan l f t s) : x ∈ l := by
  obtain ⟨j, _, hj, _⟩ := (scan_is hu f t s).each x hx
  exact List.mem_of_getElem? hj
theorem dscan_len (l : List Ent) (f t : List UInt8) (s : Int) : ∀ k, k ≤ l.length → (dscan (l.take k) f t s).length ≤ k
  | 0, _ => by simp [dscan]
  | k + 1, hk => by
    have ih := dscan_len l f t s k (by omega)
    rw [dscan_more (List.getElem?_eq_getElem hk)]
    unfold dstep
    split
    · omega
    · split
      · omega
      · rw [List.length_append]; simp; omega
end Go.Proofs.Ytjblicgbdecbcaa
