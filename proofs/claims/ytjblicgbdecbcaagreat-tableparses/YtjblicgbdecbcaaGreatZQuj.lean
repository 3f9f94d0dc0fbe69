/- A drawn region inside a round, walked as outside; what a scan tells, over plain lists; no walk. -/
/- The walk of Scan on a table whose pieces were asked. -/
import Derived.Test.YtjblicgbdecbcaaGreatZQp
import Derived.Test.YtjblicgbdecbcaaGreatZQe
namespace Go.Proofs.YtjblicgbdecbcaaGreat
open Go.RowKit Go.Shelf
open Sk (Ent)

theorem rows_wide {n : Nat} {P : Program} {row : String} {args : Array Value} {w : World} {R : Value → World → Prop} (h : Rows P row args w R) : RowsIn Fence.wide n P row args w R := fun c cs _ =>
  let ⟨v, w', r, s⟩ := h c cs
  ⟨v, w', r, stepsIn_wide.2 s⟩
theorem oper_round {l n : Nat} {P : Program} {o : Oper} {a : Act} {w : World} {K : Act → World → Prop} {Q : Exit → Act → World → Prop} (hno : ∀ c, o.op ≠ .defer c) (h : o.wp P a w K Q) : o.wpIn (Fence.wide.inRound l) n P a w K Q := by
  unfold Oper.wpIn
  refine ⟨fun _ _ => trivial, ?_⟩
  rw [Oper.semAt_eq _ _ _ hno]
  unfold Oper.wp at h
  generalize (execOp a.eval o).run P w = r at h ⊢
  cases r with
  | ok x w' =>
    cases x <;> simp only [Oper.upon, Oper.uponIn] at h ⊢
    case value => exact h
    case skip => exact h
    case defer => exact h
    case enter => exact ⟨fun e => absurd e (by simp [Fence.wide]), callsIn_wide.2 h⟩
    case row => exact ⟨fun e => absurd e (by simp [Fence.wide]), rows_wide h⟩
  | halt x w' => cases x <;> simp only [Oper.upon, Oper.uponIn] at h ⊢; exact h
theorem any_round {l n : Nat} {P : Program} {md : Region.Mode} {ops : Array Oper} {Q : Exit → Act → World → Prop} (hno : ∀ (i : Nat) o, ops[i]? = some o → ∀ c, o.op ≠ .defer c) (hlo : ¬ LetsOut Q) : ∀ (fuel : Nat) (listed : Array Bool) (a : Act) (w : World), wpAny P md ops Q fuel listed a w → wpAnyIn (Fence.wide.inRound l) n P md ops Q fuel listed a w
  | 0, _, _, _, h => h
  | fuel + 1, listed, a, w, h => by
    refine ⟨h.1, fun i hi => ?_⟩
    have h2 := h.2 i hi
    unfold wpOp at h2
    unfold wpOpIn
    cases ho : ops[i]? with
    | none => rw [ho] at h2; exact any_round hno hlo fuel _ _ _ h2
    | some o =>
      rw [ho] at h2
      simp only at h2 ⊢
      split at h2
      · rename_i hw
        rw [if_pos hw]
        rcases h2 with h2 | ⟨_, h2⟩
        · exact Oper.wpIn_mono (fun a w hh => any_round hno hlo fuel _ a w hh) (oper_round (hno i o ho) h2)
        · exact absurd h2 hlo
      · rename_i hw
        rw [if_neg hw]
        exact ⟨fun _ _ => trivial, any_round hno hlo fuel _ _ _ h2⟩
/-- No operation defers a call. -/
def noDefer (ops : Array Oper) : Bool := ops.all (fun o => match o.op with | .defer _ => false | _ => true)
theorem noDefer_at {ops : Array Oper} (h : noDefer ops = true) (i : Nat) (o : Oper) (ho : ops[i]? = some o) (c : _) : o.op ≠ .defer c := fun e => by
  unfold noDefer at h
  rw [Array.all_eq_true'] at h
  have h1 := h o (Array.mem_of_getElem? ho)
  rw [e] at h1
  cases h1
/-- A drawn region inside a round, walked as outside. -/
theorem region_heldR {P : Program} {ops : Array Oper} {Q : Exit → Act → World → Prop} {S : World → Prop} {id l n : Nat} {a : Act} {w : World} (hno : noDefer ops = true) (hlo : ¬ LetsOut Q) (hm : P.follows .mixedOrders = true) (hS : S w.drew)
    (h : S w.drew → wpAnyH P .any ops Q S ops.size (Array.replicate ops.size false) a w.drew) : (Code.region id ops true).wpIn (Fence.wide.inRound l) n P Q a w :=
  wpIn_region_any hm (any_round (noDefer_at hno) hlo _ _ _ _ (wpAny_of_held _ _ _ _ (h hS)))
theorem list_round {l n : Nat} {P : Program} {ops : Array Oper} {Q : Exit → Act → World → Prop} (hlo : ¬ LetsOut Q) : ∀ (rest : List Oper) (a : Act) (w : World), (∀ o ∈ rest, ∀ c, o.op ≠ .defer c) → wpList P ops Q rest a w → wpListIn (Fence.wide.inRound l) n P ops Q rest a w
  | [], _, _, _, h => h
  | o :: rest, a, w, hno, h => by
    have ih := fun a w => list_round (l := l) (n := n) (P := P) (ops := ops) hlo rest a w (fun o ho => hno o (List.mem_cons_of_mem _ ho))
    simp only [wpList] at h
    simp only [wpListIn]
    split at h
    · rename_i hw
      rw [if_pos hw]
      rcases h with h | ⟨_, h⟩
      · exact Oper.wpIn_mono ih (oper_round (hno o (List.mem_cons_self ..)) h)
      · exact absurd h hlo
    · rename_i hw
      rw [if_neg hw]
      exact ⟨fun _ _ => trivial, ih _ _ h⟩
/-- A region inside a round, walked as outside. -/
theorem region_plainR {P : Program} {ls : List Oper} {Q : Exit → Act → World → Prop} {id l n : Nat} {a : Act} {w : World} (hno : noDefer ls.toArray = true) (hlo : ¬ LetsOut Q) (h : wpList P ls.toArray Q ls a w) : (Code.region id ls.toArray false).wpIn (Fence.wide.inRound l) n P Q a w :=
  wpIn_region_lit (list_round hlo ls a w (fun o ho c => by
    obtain ⟨i, hi⟩ := List.getElem?_of_mem ho
    exact noDefer_at hno i o (by simpa using hi) c) h)
theorem regionIn_share {F : Fence} {n : Nat} {P : Program} {id : Nat} {ops : Array Oper} {b : Bool} {Q : Exit → Act → World → Prop} {a : Act} {w : World} (R : Act → Act → World → Prop) (h1 : (Code.region id ops b).wpIn F n P (OnlyN (R a)) a w) (h2 : ∀ a' w', R a a' w' → Q .normal a' w') : (Code.region id ops b).wpIn F n P Q a w :=
  wpIn_mono h1 (fun e a' w' hh => by
    cases e with
    | normal => exact h2 a' w' hh
    | _ => exact (hh : False).elim)
theorem onlyN_out {R : Act → World → Prop} : ¬ LetsOut (OnlyN R) := fun ⟨_, _, h⟩ => h

/-- The last one's key. -/
def lastKey (l : List Ent) : Option (List UInt8) := l.getLast?.map (·.key)
theorem lastKey_snoc (l : List Ent) (z : Ent) : lastKey (l ++ [z]) = some z.key := by unfold lastKey; simp
/-- Is it out of the scan's bounds? -/
def outB (from_ to : List UInt8) (s : Int) (e : Ent) : Bool := less e.key from_ || (decide (0 < to.length) && !less e.key to) || decide (s < e.seq)
def dstep (from_ to : List UInt8) (s : Int) (acc : List Ent) (e : Ent) : List Ent := if outB from_ to s e then acc else if lastKey acc = some e.key then acc else acc ++ [e]
def dscan (l : List Ent) (from_ to : List UInt8) (s : Int) : List Ent := l.foldl (dstep from_ to s) []
theorem dscan_more {l : List Ent} {k : Nat} {e : Ent} (h : l[k]? = some e) (from_ to : List UInt8) (s : Int) : dscan (l.take (k + 1)) from_ to s = dstep from_ to s (dscan (l.take k) from_ to s) e := by
  unfold dscan
  rw [List.take_add_one, h, List.foldl_append]
  rfl
theorem dfold_out {from_ to : List UInt8} {s : Int} : ∀ (l acc : List Ent), (∀ e ∈ l, outB from_ to s e = true) → l.foldl (dstep from_ to s) acc = acc
  | [], acc, _ => rfl
  | e :: l, acc, h => by
    have h1 := h e List.mem_cons_self
    simp only [List.foldl_cons]
    rw [show dstep from_ to s acc e = acc from by unfold dstep; rw [if_pos h1]]
    exact dfold_out l acc (fun x hx => h x (List.mem_cons_of_mem _ hx))
/-- Each goes ahead of those behind it. -/
def Ord (l : List Ent) : Prop := ∀ (i j : Nat) (a b : Ent), i < j → l[i]? = some a → l[j]? = some b → Sk.Goes a b
theorem tok_ordL {L : List Ent} (h : Tq.tok L = true) : Ord L := fun _ _ _ _ hij ha hb => tok_goes h hij ha hb
/-- Is it past the scan's end? -/
def past (to : List UInt8) (e : Ent) : Bool := decide (0 < to.length) && !less e.key to
/-- What is behind one that is past the end is out. -/
theorem dscan_stop {l : List Ent} (ho : Ord l) {f t : List UInt8} {s : Int} {k : Nat} {e : Ent} (he : l[k]? = some e) (hp : past t e = true) : dscan l f t s = dscan (l.take k) f t s := by
  unfold dscan
  conv => lhs; rw [← List.take_append_drop k l]
  rw [List.foldl_append]
  refine dfold_out _ _ (fun x hx => ?_)
  obtain ⟨i, hi⟩ := List.getElem?_of_mem hx
  rw [List.getElem?_drop] at hi
  unfold past at hp
  simp only [Bool.and_eq_true, decide_eq_true_eq, Bool.not_eq_true'] at hp
  have hx2 : less x.key t = false := by
    cases i with
    | zero =>
      rw [Nat.add_zero, he] at hi
      cases hi
      exact hp.2
    | succ j =>
      cases hq : less x.key t with
      | false => rfl
      | true =>
        have := Sk.from_down t e x (ho k _ e x (by omega) he hi) hq
        rw [hp.2] at this
        cases this
  unfold outB
  rw [hx2, decide_eq_true hp.1]
  simp
theorem goes_less {a b : Ent} (h : Sk.Goes a b) (hk : a.key ≠ b.key) : less a.key b.key = true := by
  unfold Sk.Goes Sk.aheadOf at h
  rwa [if_neg hk] at h
/-- How far a scan has come. -/
structure ScanI (l : List Ent) (f t : List UInt8) (s : Int) (k : Nat) (D : List Ent) : Prop where
  each : ∀ x ∈ D, ∃ i, i < k ∧ l[i]? = some x ∧ outB f t s x = false ∧ ∀ j y, j < i → l[j]? = some y → y.key = x.key → s < y.seq
  up : D.Pairwise (fun a b => less a.key b.key = true)
  all : ∀ i y, i < k → l[i]? = some y → outB f t s y = false → ∃ x ∈ D, x.key = y.key
theorem outB_seq {f t : List UInt8} {s : Int} {x : Ent} (h : outB f t s x = false) : x.seq ≤ s := by
  simp only [outB, Bool.or_eq_false_iff, decide_eq_false_iff_not] at h
  omega
theorem outB_key {f t : List UInt8} {s : Int} {x y : Ent} (h : outB f t s x = false) (hk : y.key = x.key) (hs : y.seq ≤ s) : outB f t s y = false := by
  simp only [outB, Bool.or_eq_false_iff, decide_eq_false_iff_not] at h ⊢
  rw [hk]
  exact ⟨h.1, by omega⟩
theorem ScanI.last {l : List Ent} {f t : List UInt8} {s : Int} {k : Nat} {D : List Ent} (h : ScanI l f t s k D) (hu : Ord l) {e : Ent} (he : l[k]? = some e) {x : Ent} (hx : x ∈ D) (hk : x.key = e.key) : lastKey D = some e.key := by
  have hne : D ≠ [] := fun e => by rw [e] at hx; cases hx
  have hD := List.dropLast_concat_getLast hne
  have hz : D.getLast hne ∈ D := List.getLast_mem hne
  obtain ⟨z, hzz⟩ : ∃ z, D.getLast hne = z := ⟨_, rfl⟩
  rw [hzz] at hD hz
  have hl : lastKey D = some z.key := by rw [← hD]; exact lastKey_snoc _ _
  rw [hl]
  rw [← hD] at hx
  rcases List.mem_append.1 hx with hx | hx
  · have hp := h.up
    rw [← hD, List.pairwise_append] at hp
    have h1 := hp.2.2 x hx z (by simp)
    obtain ⟨j, hj, hzj, _⟩ := h.each z hz
    have hg := hu _ _ _ _ hj hzj he
    by_cases hze : z.key = e.key
    · rw [hze]
    · have h2 := goes_less hg hze
      rw [hk] at h1
      rw [less_asymm h1] at h2
      cases h2
  · rw [← List.mem_singleton.1 hx, hk]
theorem ScanI.zero (l : List Ent) (f t : List UInt8) (s : Int) : ScanI l f t s 0 [] := ⟨fun x h => (by cases h), List.Pairwise.nil, fun i y h => absurd h (Nat.not_lt_zero _)⟩
theorem ScanI.next {l : List Ent} {f t : List UInt8} {s : Int} {k : Nat} {D : List Ent} (h : ScanI l f t s k D) (hu : Ord l) {e : Ent} (he : l[k]? = some e) : ScanI l f t s (k + 1) (dstep f t s D e) := by
  have old : ∀ x ∈ D, ∃ i, i < k + 1 ∧ l[i]? = some x ∧ outB f t s x = false ∧ ∀ j y, j < i → l[j]? = some y → y.key = x.key → s < y.seq := fun x hx => by
    obtain ⟨i, hi, r⟩ := h.each x hx
    exact ⟨i, by omega, r⟩
  unfold dstep
  by_cases ho : outB f t s e = true
  · rw [if_pos ho]
    refine ⟨old, h.up, fun i y hi hy hn => ?_⟩
    rcases Nat.lt_or_ge i k with h1 | h1
    · exact h.all i y h1 hy hn
    · obtain rfl : i = k := by omega
      rw [he] at hy
      cases hy
      rw [ho] at hn
      cases hn
  · rw [if_neg ho]
    have hof : outB f t s e = false := by simpa using ho
    by_cases hk : lastKey D = some e.key
    · rw [if_pos hk]
      refine ⟨old, h.up, fun i y hi hy hn => ?_⟩
      rcases Nat.lt_or_ge i k with h1 | h1
      · exact h.all i y h1 hy hn
      · obtain rfl : i = k := by omega
        rw [he] at hy
        cases hy
        unfold lastKey at hk
        obtain ⟨z, hz, hze⟩ := Option.map_eq_some_iff.1 hk
        exact ⟨z, List.mem_of_getLast? hz, hze⟩
    · rw [if_neg hk]
      have none_ : ∀ x ∈ D, x.key ≠ e.key := fun x hx hxe => hk (h.last hu he hx hxe)
      refine ⟨fun x hx => ?_, ?_, fun i y hi hy hn => ?_⟩
      · rcases List.mem_append.1 hx with hx | hx
        · exact old x hx
        · rw [List.mem_singleton.1 hx]
          refine ⟨k, by omega, he, hof, fun j y hj hy hye => ?_⟩
          by_cases hys : y.seq ≤ s
          · obtain ⟨x, hx, hxk⟩ := h.all j y hj hy (outB_key hof hye hys)
            exact absurd (hxk.trans hye) (none_ x hx)
          · omega
      · rw [List.pairwise_append]
        refine ⟨h.up, by simp, fun a ha b hb => ?_⟩
        rw [List.mem_singleton.1 hb]
        obtain ⟨i, hi, hai, _⟩ := h.each a ha
        exact goes_less (hu _ _ _ _ hi hai he) (none_ a ha)
      · rcases Nat.lt_or_ge i k with h1 | h1
        · obtain ⟨x, hx, hxk⟩ := h.all i y h1 hy hn
          exact ⟨x, List.mem_append_left _ hx, hxk⟩
        · obtain rfl : i = k := by omega
          rw [he] at hy
          cases hy
          exact ⟨e, by simp, rfl⟩
theorem scan_all {l : List Ent} (hu : Ord l) (f t : List UInt8) (s : Int) : ∀ k, k ≤ l.length → ScanI l f t s k (dscan (l.take k) f t s)
  | 0, _ => by simpa [dscan] using ScanI.zero l f t s
  | k + 1, hk => by
    have he : l[k]? = some l[k] := List.getElem?_eq_getElem hk
    rw [dscan_more he]
    exact (scan_all hu f t s k (by omega)).next hu he
theorem scan_is {l : List Ent} (hu : Ord l) (f t : List UInt8) (s : Int) : ScanI l f t s l.length (dscan l f t s) := by
  have h := scan_all hu f t s l.length (Nat.le_refl _)
  rwa [List.take_length] at h
/-- What a scan tells of one entry: its key's version. -/
theorem scan_one {l : List Ent} (hu : Ord l) {f t : List UInt8} {s : Int} {i : Nat} {x : Ent} (hx : (dscan l f t s)[i]? = some x) : verE l x.key s = some x := by
  obtain ⟨j, _, hj, ho, hb⟩ := (scan_is hu f t s).each x (List.mem_of_getElem? hx)
  refine find_at hj (by simp [vers, outB_seq ho]) (List.find?_eq_none.2 (fun y hy hv => ?_))
  obtain ⟨q, hq⟩ := List.getElem?_of_mem hy
  have hqj : q < j := by
    have := (List.getElem?_eq_some_iff.1 hq).1
    rw [List.length_take] at this
    omega
  rw [List.getElem?_take_of_lt hqj] at hq
  unfold vers at hv
  simp only [Bool.and_eq_true, decide_eq_true_eq] at hv
  have := hb q y hqj hq hv.1
  omega
theorem scan_rise {l : List Ent} (hu : Ord l) {f t : List UInt8} {s : Int} {i : Nat} {x y : Ent} (hx : (dscan l f t s)[i]? = some x) (hy : (dscan l f t s)[i + 1]? = some y) : less x.key y.key = true := by
  have hp := (scan_is hu f t s).up
  rw [List.pairwise_iff_getElem] at hp
  obtain ⟨h1, e1⟩ := List.getElem?_eq_some_iff.1 hx
  obtain ⟨h2, e2⟩ := List.getElem?_eq_some_iff.1 hy
  have := hp i (i + 1) h1 h2 (by omega)
  rwa [e1, e2] at this
theorem scan_from {l : List Ent} (hu : Ord l) {f t : List UInt8} {s : Int} {x : Ent} (hx : x ∈ dscan l f t s) : x ∈ l := by
  obtain ⟨j, _, hj, _⟩ := (scan_is hu f t s).each x hx
  exact List.mem_of_getElem? hj
theorem dscan_len (l : List Ent) (f t : List UInt8) (s : Int) : ∀ k, k ≤ l.length → (dscan (l.take k) f t s).length ≤ k
  | 0, _ => by simp [dscan]
  | k + 1, hk => by
    have ih := dscan_len l f t s k (by omega)
    rw [dscan_more (List.getElem?_eq_getElem hk)]
    unfold dstep
    split
    · omega
    · split
      · omega
      · rw [List.length_append]; simp; omega
end Go.Proofs.YtjblicgbdecbcaaGreat
namespace Go.Proofs.YtjblicgbdecbcaaGreat
open Go.RowKit Go.Shelf
open Sk (Ent)
attribute [local go_sem] Oper.semAt_some

theorem keeps_below {W V : World} (h : Below W.heap.size W V) : KeepsOthers W V := ⟨h.size, fun k _ hk _ => (h.block k (Array.getElem?_eq_some_iff.1 hk).1).trans hk⟩
theorem dscan_snoc (l : List Ent) (e : Ent) (f t : List UInt8) (s : Int) : dscan (l ++ [e]) f t s = dstep f t s (dscan l f t s) e := by unfold dscan; rw [List.foldl_append]; rfl
theorem dstep_go {f t : List UInt8} {s : Int} {acc : List Ent} {e : Ent} (hp : past t e = false) : dstep f t s acc e = if (decide (e.seq ≤ s) && !decide (lastKey acc = some e.key) && !less e.key f) = true then acc ++ [e] else acc := by
  have ho : outB f t s e = (less e.key f || decide (s < e.seq)) := by
    unfold past at hp
    unfold outB
    rw [hp, Bool.or_false]
  unfold dstep
  rw [ho]
  by_cases h1 : e.seq ≤ s
  · have h2 : ¬ s < e.seq := by omega
    by_cases h3 : lastKey acc = some e.key <;> cases h4 : less e.key f <;> simp [h1, h2, h3]
  · have h2 : s < e.seq := by omega
    simp [h1, h2]
/-- What a scan holds while it goes. -/
structure ScanJ (w : World) (Bx bF bT bS : Nat) (vF vT : Value) (s : Int) (ds : List DE) (frm to : List UInt8) (pre : List Nat) (v : Value) (out : List EV) (W : World) : Prop where
  box : Boxed W Bx 22 v
  row : W.ownsRow w.heap.size 37 4 v out.length (rv entKind out)
  each : ∀ y ∈ out, OwnE w.heap.size W y
  same : out.map (·.e) = dscan (pre.map (fun i => (nthE ds i).e)) frm to s
  far : ∀ i ∈ pre, past to (nthE ds i).e = false
  bel : Below w.heap.size w W
  bf : Boxed W bF 24 vF
  bt : Boxed W bT 24 vT
  bs : Boxed W bS 3 (.int .i64 s)
  few : out.length ≤ pre.length
def ScanK (w : World) (Bx bF bT bS : Nat) (vF vT : Value) (s : Int) (ds : List DE) (frm to : List UInt8) (pre : List Nat) (W : World) : Prop := ∃ v out, ScanJ w Bx bF bT bS vF vT s ds frm to pre v out W
/-- Stopped at one that is past the end. -/
def ScanX (w : World) (Bx bF bT bS : Nat) (vF vT : Value) (s : Int) (ds : List DE) (frm to : List UInt8) (c : Code) (pre : List Nat) (W : World) : Prop := c = .exit 0 ∧ ∃ p x, pre = p ++ [x] ∧ past to (nthE ds x).e = true ∧ ScanK w Bx bF bT bS vF vT s ds frm to p W
theorem ScanJ.turn {w : World} {Bx bF bT bS : Nat} {vF vT : Value} {s : Int} {ds : List DE} {frm to : List UInt8} {pre : List Nat} {v : Value} {out : List EV} {W W' : World} (h : ScanJ w Bx bF bT bS vF vT s ds frm to pre v out W) (kc : ∀ (g : Nat) (c : Array Value) (t : TypeId) (fr : Nat × Nat), W.heap[g]? = some (.cells c t fr) → W'.heap[g]? = W.heap[g]?) (hb : Below w.heap.size w W') : ScanJ w Bx bF bT bS vF vT s ds frm to pre v out W' := by
  refine ⟨(kc _ _ _ _ h.box).trans h.box, own_block h.row (fun g hg' => ?_), fun y hy => (h.each y hy).tag5 (fun g cur hc => kc g cur _ _ hc), h.same, h.far, hb, (kc _ _ _ _ h.bf).trans h.bf, (kc _ _ _ _ h.bt).trans h.bt, (kc _ _ _ _ h.bs).trans h.bs, h.few⟩
  obtain ⟨cur, hcur⟩ := own_tag h.row hg'
  exact kc g cur _ _ hcur
theorem ScanJ.below {w : World} {Bx bF bT bS : Nat} {vF vT : Value} {s : Int} {ds : List DE} {frm to : List UInt8} {pre : List Nat} {v : Value} {out : List EV} {W W' : World} (h : ScanJ w Bx bF bT bS vF vT s ds frm to pre v out W) (hb : Below W.heap.size W W') : ScanJ w Bx bF bT bS vF vT s ds frm to pre v out W' :=
  h.turn (fun g _ _ _ hg => hb.block g (Array.getElem?_eq_some_iff.1 hg).1) (h.bel.trans (hb.mono h.bel.size))
theorem ScanK.own {w : World} {Bx bF bT bS : Nat} {vF vT : Value} {s : Int} {ds : List DE} {frm to : List UInt8} {B : Nat} (hB : w.heap.size ≤ B) : OwnFrom B (ScanK w Bx bF bT bS vF vT s ds frm to) := fun pre W W' row h hg hr => by
  obtain ⟨v, out, h⟩ := h
  have kc : ∀ (g : Nat) (c : Array Value) (t : TypeId) (fr : Nat × Nat), W.heap[g]? = some (.cells c t fr) → W'.heap[g]? = W.heap[g]? := fun g c t fr hgc => hg.block g (Array.getElem?_eq_some_iff.1 hgc).1 (fun e => by
    obtain ⟨_, o, ho, hc⟩ := hr _ e.symm
    rw [hgc] at ho
    cases ho
    cases hc)
  exact ⟨v, out, h.turn kc (h.bel.grown hg h.bel.size (fun k e => Nat.le_trans hB (hr k e).1))⟩
theorem ScanX.own {w : World} {Bx bF bT bS : Nat} {vF vT : Value} {s : Int} {ds : List DE} {frm to : List UInt8} {B : Nat} (hB : w.heap.size ≤ B) (c : Code) : OwnFrom B (ScanX w Bx bF bT bS vF vT s ds frm to c) := fun pre W W' row h hg hr => by
  obtain ⟨h0, p, x, h1, h2, h3⟩ := h
  exact ⟨h0, p, x, h1, h2, ScanK.own hB p W W' row h3 hg hr⟩
/-- One that is not told. -/
theorem ScanJ.skip {w : World} {Bx bF bT bS : Nat} {vF vT : Value} {s : Int} {ds : List DE} {frm to : List UInt8} {pre : List Nat} {v : Value} {out : List EV} {W : World} {x : Nat} (h : ScanJ w Bx bF bT bS vF vT s ds frm to pre v out W) (hp : past to (nthE ds x).e = false) (hd : dstep frm to s (out.map (·.e)) (nthE ds x).e = out.map (·.e)) : ScanJ w Bx bF bT bS vF vT s ds frm to (pre ++ [x]) v out W := by
  refine ⟨h.box, h.row, h.each, ?_, fun i hi => ?_, h.bel, h.bf, h.bt, h.bs, by rw [List.length_append]; have := h.few; omega⟩
  · rw [List.map_append, List.map_cons, List.map_nil, dscan_snoc, ← h.same, hd]
  · rcases List.mem_append.1 hi with hi | hi
    · exact h.far i hi
    · rw [List.mem_singleton.1 hi]; exact hp
/-- One that is told. -/
theorem ScanJ.next {w : World} {Bx bF bT bS : Nat} {vF vT : Value} {s : Int} {ds : List DE} {frm to : List UInt8} {pre : List Nat} {v v7 : Value} {out : List EV} {W W6 w7 : World} {x : Nat} {y : EV} (h : ScanJ w Bx bF bT bS vF vT s ds frm to pre v out W) (hBx : w.heap.size ≤ Bx) (b6 : Below W.heap.size W W6) (hy : OwnE w.heap.size W6 y) (he : y.e = (nthE ds x).e) (hp : past to (nthE ds x).e = false) (hd : dstep frm to s (out.map (·.e)) (nthE ds x).e = out.map (·.e) ++ [(nthE ds x).e])
    (hF : bF ≠ Bx) (hT : bT ≠ Bx) (hS : bS ≠ Bx) (h7 : w7.ownsRow w.heap.size 37 4 v7 (out.length + 1) (rv entKind (out ++ [y]))) (g7 : W6.grownBy w7 v.ownBlock) :
    Boxed w7 Bx 22 v ∧ (KeepsOthers W (w7.setCell ⟨Bx, 0, none⟩ v7) ∧ Below w.heap.size W (w7.setCell ⟨Bx, 0, none⟩ v7) ∧ ScanJ w Bx bF bT bS vF vT s ds frm to (pre ++ [x]) v7 (out ++ [y]) (w7.setCell ⟨Bx, 0, none⟩ v7)) := by
  have h6 := h.below b6
  have k67 : ∀ (g : Nat) (c : Array Value) (t : TypeId) (fr : Nat × Nat), t ≠ 37 → W6.heap[g]? = some (.cells c t fr) → w7.heap[g]? = W6.heap[g]? := fun g c t fr hne hgc => g7.block g (Array.getElem?_eq_some_iff.1 hgc).1 (fun e => by
    obtain ⟨cur, hc⟩ := own_tag h6.row e.symm
    rw [hgc] at hc
    cases hc
    exact hne rfl)
  have x7 : Boxed w7 Bx 22 v := (k67 _ _ _ _ (by decide) h6.box).trans h6.box
  have k78 : ∀ (g : Nat) (cur : Array Value), w7.heap[g]? = some (Obj.cells cur 5 (0, 0)) → (w7.setCell ⟨Bx, 0, none⟩ v7).heap[g]? = w7.heap[g]? := fun g cur hc => Below.heap_setCell _ _ _ g (fun e => by
    rw [show g = Bx from e, show w7.heap[Bx]? = _ from x7] at hc
    cases hc)
  have k68 : ∀ (g : Nat) (cur : Array Value), W6.heap[g]? = some (Obj.cells cur 5 (0, 0)) → (w7.setCell ⟨Bx, 0, none⟩ v7).heap[g]? = W6.heap[g]? := fun g cur hc => by
    have h1 := k67 g _ _ _ (by decide) hc
    exact (k78 g cur (h1.trans hc)).trans h1
  have box : ∀ {b : Nat} {t : TypeId} {u : Value}, t ≠ 37 → b ≠ Bx → Boxed W6 b t u → Boxed (w7.setCell ⟨Bx, 0, none⟩ v7) b t u := fun {b t u} hne hb hx => (Below.heap_setCell _ _ _ b hb).trans ((k67 _ _ _ _ hne hx).trans hx)
  have B6 : Below w.heap.size W W6 := b6.mono h.bel.size
  have B7 : Below w.heap.size W w7 := B6.grown g7 (Nat.le_trans h.bel.size b6.size) (fun j hj => (h6.row.lt j hj).1)
  have B8 : Below w.heap.size W (w7.setCell ⟨Bx, 0, none⟩ v7) := B7.setCell (p := ⟨Bx, 0, none⟩) hBx _
  refine ⟨x7, ?_, B8, x7.set v7, ?_, fun z hz => ?_, ?_, fun i hi => ?_, h.bel.trans B8, box (by decide) hF h6.bf, box (by decide) hT h6.bt, box (by decide) hS h6.bs, by rw [List.length_append, List.length_append]; have := h.few; simp; omega⟩
  · refine KeepsOthers.trans (B := w7) ?_ (KeepsOthers.setCell _ _ _)
    refine ⟨Nat.le_trans b6.size g7.size, fun k o hk ho' => ?_⟩
    have h6' : W6.heap[k]? = some o := (b6.block k (Array.getElem?_eq_some_iff.1 hk).1).trans hk
    refine (g7.block k (Array.getElem?_eq_some_iff.1 h6').1 (fun e => ?_)).trans h6'
    obtain ⟨cur, hc⟩ := own_tag h6.row e.symm
    rw [h6'] at hc
    cases hc
    cases ho'
  · rw [List.length_append]
    refine own_block h7 (fun g hg => Below.heap_setCell _ _ _ g (fun e => ?_))
    obtain ⟨cur, hc⟩ := own_tag h7 hg
    rw [show g = Bx from e, show w7.heap[Bx]? = _ from x7] at hc
    cases hc
  · rcases List.mem_append.1 hz with hz | hz
    · exact (h6.each z hz).tag5 k68
    · rw [List.mem_singleton.1 hz]
      exact hy.tag5 k68
  · rw [List.map_append, List.map_append, List.map_cons, List.map_nil, List.map_cons, List.map_nil, dscan_snoc, ← h.same, hd, he]
  · rcases List.mem_append.1 hi with hi | hi
    · exact h.far i hi
    · rw [List.mem_singleton.1 hi]; exact hp
set_option maxHeartbeats 2000000 in
set_option maxRecDepth 100000 in
theorem scan_done (tb : Nat) (ds : List DE) (Fl : List UInt8) (fp : Option Addr) (fc : Nat) (frm : List UInt8) (tp : Option Addr) (tc : Nat) (to : List UInt8) (s : Int) (w : World) (hT : TDone w tb ds Fl) (hl : ds.length ≤ 64) (hds : ∀ d ∈ ds, d.ys.length ≤ 64 ∧ ∀ y ∈ d.ys, y.e.key.length ≤ 64 ∧ y.e.val.length ≤ 1024) (hev : (evsD ds).length ≤ 4096) (ho : Ord (entsD ds)) (hf : Src w fp frm.length fc frm) (ht : Src w tp to.length tc to) :
    Calls Tryz.prog 18 #[.pointer (some ⟨tb, 0, none⟩), .slice fp frm.length fc, .slice tp to.length tc, .int .i64 s] w fun e w' => ∃ v, e = .returned v ∧ ∃ ys, Ents w.heap.size w' v ys ∧ ys.map (·.e) = dscan (entsD ds) frm to s ∧ Below w.heap.size w w' := by
  obtain ⟨i0, hi0, hz0, hz1, hz2⟩ := info_parts22q (infoE)
  have TD := keep hT
  have HF := keep hf
  have HT := keep ht
  have HO := keep ho
  have SM := keep (fun x => nthE_small hds x)
  have HD : Hid (∀ d ∈ ds, d.ys.length ≤ 64) := fun d hd => (hds d hd).1
  obtain ⟨FL, hFL⟩ : ∃ FL, frm.length = FL := ⟨_, rfl⟩
  obtain ⟨TL, hTL⟩ : ∃ TL, to.length = TL := ⟨_, rfl⟩
  have HFL := keep hFL
  have HTL := keep hTL
  rw [hFL] at HF ⊢
  rw [hTL] at HT ⊢
  obtain ⟨Wf, hWf⟩ : ∃ W1, w.alloc (.cells #[.slice fp FL fc] 24) = W1 := ⟨_, rfl⟩
  have bF : Hid (Below w.heap.size w Wf) := by rw [← hWf]; exact (Below.refl _ _).alloc (Nat.le_refl _) _
  have xF : Hid (Boxed Wf w.heap.size 24 (.slice fp FL fc)) := by rw [← hWf]; exact Boxed.new _ _ _
  obtain ⟨Wt, hWt⟩ : ∃ W1, Wf.alloc (.cells #[.slice tp TL tc] 24) = W1 := ⟨_, rfl⟩
  have bT : Hid (Below Wf.heap.size Wf Wt) := by rw [← hWt]; exact (Below.refl _ _).alloc (Nat.le_refl _) _
  have xT : Hid (Boxed Wt Wf.heap.size 24 (.slice tp TL tc)) := by rw [← hWt]; exact Boxed.new _ _ _
  obtain ⟨Ws, hWs⟩ : ∃ W1, Wt.alloc (.cells #[.int .i64 s] 3) = W1 := ⟨_, rfl⟩
  have bS : Hid (Below Wt.heap.size Wt Ws) := by rw [← hWs]; exact (Below.refl _ _).alloc (Nat.le_refl _) _
  have xS : Hid (Boxed Ws Wt.heap.size 3 (.int .i64 s)) := by rw [← hWs]; exact Boxed.new _ _ _
  obtain ⟨W1, hW1⟩ : ∃ W1, Ws.alloc (.cells #[.slice none 0 0] 22) = W1 := ⟨_, rfl⟩
  have b1 : Hid (Below Ws.heap.size Ws W1) := by rw [← hW1]; exact (Below.refl _ _).alloc (Nat.le_refl _) _
  have x1 : Hid (Boxed W1 Ws.heap.size 22 (.slice none 0 0)) := by rw [← hW1]; exact Boxed.new _ _ _
  have HWf := keep hWf
  have HWt := keep hWt
  have HWs := keep hWs
  have HW1 := keep hW1
  clear hT hWf hWt hWs hW1 hds hf ht ho hFL hTL
  rw [← callsIn_wide (n := 8)]
  refine callsIn_of_wp_marks Tryz.func18 rfl trivial ?_ rfl
  simp only [Tryz.ntmps18, List.size_toArray, List.length_cons, List.length_nil, Nat.reduceAdd, Nat.reduceSub, Array.replicate_succ, Array.replicate_zero, List.push_toArray, List.append_toArray, List.nil_append, List.cons_append]
  gi_wp2_with fail
  refine ⟨trivial, ?_⟩
  simp only [HWf.out, HWt.out, HWs.out, HW1.out]
  have z1 : Wf.heap.size = w.heap.size + 1 := by rw [← HWf.out]; exact alloc_size _ _
  have z2 : Wt.heap.size = w.heap.size + 1 + 1 := by rw [← HWt.out, alloc_size, z1]
  have z3 : Ws.heap.size = w.heap.size + 1 + 1 + 1 := by rw [← HWs.out, alloc_size, z2]
  obtain ⟨nF, hnF⟩ : ∃ q, w.heap.size = q := ⟨_, rfl⟩
  obtain ⟨nT, hnT⟩ : ∃ q, w.heap.size + 1 = q := ⟨_, rfl⟩
  obtain ⟨nS, hnS⟩ : ∃ q, w.heap.size + 1 + 1 = q := ⟨_, rfl⟩
  obtain ⟨nX, hnX⟩ : ∃ q, w.heap.size + 1 + 1 + 1 = q := ⟨_, rfl⟩
  rw [hnT] at z1
  rw [hnS] at z2
  rw [hnX] at z3
  rw [hnX, hnS, hnT]
  have NE : Hid (w.heap.size ≤ nX ∧ nF ≠ nX ∧ nT ≠ nX ∧ nS ≠ nX) := by show _ ∧ _; omega
  rw [hnF] at xF ⊢
  rw [z1] at xT
  rw [z2] at xS
  rw [z3] at x1
  have BF := keep bF.out
  have BT := keep (bF.out.trans (bT.out.mono bF.out.size))
  have BS := keep (BT.out.trans (bS.out.mono BT.out.size))
  have B1 := keep (BS.out.trans (b1.out.mono BS.out.size))
  have xT1 : Hid (Boxed W1 nT 24 (.slice tp TL tc)) := (b1.out.block _ (Nat.lt_of_lt_of_le xT.out.lt bS.out.size)).trans ((bS.out.block _ xT.out.lt).trans xT.out)
  have xF1 : Hid (Boxed W1 nF 24 (.slice fp FL fc)) := (b1.out.block _ (Nat.lt_of_lt_of_le (Nat.lt_of_lt_of_le xF.out.lt bT.out.size) bS.out.size)).trans ((bS.out.block _ (Nat.lt_of_lt_of_le xF.out.lt bT.out.size)).trans ((bT.out.block _ xF.out.lt).trans xF.out))
  have xS1 : Hid (Boxed W1 nS 3 (.int .i64 s)) := (b1.out.block _ xS.out.lt).trans xS.out
  clear hnF hnT hnS hnX z1 z2 z3 HWf HWt HWs HW1
  refine (callsIn_wide.2 (each_any tb W1)).mono ?_
  rintro e w9 ⟨rfl, hw9⟩
  have b9 : Hid (Below W1.heap.size W1 w9) := by rw [hw9]; exact (Below.refl _ _).alloc (Nat.le_refl _) _
  have q1 : Hid (w9.cell? ⟨W1.heap.size, 0, none⟩ = some (.pointer (some ⟨tb, 0, none⟩))) := by rw [hw9]; exact cell_of_row _ _ _ _ _ _ (heap_alloc_new W1 _)
  have B9 := keep (B1.out.trans (b9.out.mono B1.out.size))
  have J9 : Hid (ScanJ w nX nF nT nS (.slice fp FL fc) (.slice tp TL tc) s ds frm to [] (.slice none 0 0) [] w9) :=
    ⟨(b9.out.block _ x1.out.lt).trans x1.out, World.ownsRow_nil _ _ _ _, (fun y hy => by cases hy), rfl, (fun i hi => by cases hi), B9.out, (b9.out.block _ xF1.out.lt).trans xF1.out, (b9.out.block _ xT1.out.lt).trans xT1.out, (b9.out.block _ xS1.out.lt).trans xS1.out, Nat.le_refl _⟩
  clear hw9 xF1 xT1 xS1 x1 BF BT BS bF bT bS b1 xF xT xS
  gi_wp2_with fail
  refine wpIn_rangeFunc_ownH (α := Nat) (F := Fence.wide) rfl (by decide) (gf := 78) (lb := #[.pointer (some ⟨W1.heap.size, 0, none⟩)]) rfl trivial (enters_of Tryz.func78 (by kernel_rfl) rfl)
    (each_stops 7 (by decide) W1.heap.size tb w.heap.size ds Fl w w9 rfl B9.out hl HD.out TD.out q1.out) belowK_t (fun W l o o' h1 h2 h3 h4 => belowK_b B9.out.size W l o o' h1 h2 h3 h4) (Below.refl _ _) (fun _ => rfl)
    (ScanK w nX nF nT nS (.slice fp FL fc) (.slice tp TL tc) s ds frm to)
    (ScanX w nX nF nT nS (.slice fp FL fc) (.slice tp TL tc) s ds frm to)
    (ScanK.own B9.out.size)
    (fun c => ScanX.own B9.out.size c)
    ⟨_, _, J9.out⟩
    (fun x a' W => ∃ g, a' = { tmps := #[.pointer (some ⟨tb, 0, none⟩), .slice fp FL fc, .slice tp TL tc, .int .i64 s, undef, .pointer (some ⟨nF, 0, none⟩), .pointer (some ⟨nT, 0, none⟩), .pointer (some ⟨nS, 0, none⟩), .slice none 0 0, .pointer (some ⟨nX, 0, none⟩), .pointer (some ⟨g, 0, none⟩), undef, .pointer (some ⟨tb, 0, none⟩), .func (.func 78) #[] #[.pointer (some ⟨W1.heap.size, 0, none⟩)], ev (nthE ds x), undef, undef, undef, undef, undef, undef, undef, undef, undef, undef, undef, undef, undef, undef, undef, undef, undef, undef, undef, undef, undef, undef, undef, undef, undef, undef, undef, undef, undef, undef, undef, undef, undef, undef, undef, undef, undef, undef, undef, undef, undef, undef, undef, undef, undef, undef], defers := [] } ∧ W.heap[g]? = some (.cells #[.slice (nthE ds x).kp (nthE ds x).e.key.length (nthE ds x).kc, .int .i64 (nthE ds x).e.seq, .bool (nthE ds x).e.gone, .slice (nthE ds x).vp (nthE ds x).e.val.length (nthE ds x).vc] 37))
    (fun x a' _ W W' row h hg hr => by
      obtain ⟨g, h1, h2⟩ := h
      refine ⟨g, h1, (hg.block g (Array.getElem?_eq_some_iff.1 h2).1 (fun e => ?_)).trans h2⟩
      obtain ⟨_, o, ho, hc⟩ := hr _ e.symm
      rw [h2] at ho
      cases ho
      cases hc) ?assign ?body ?done ?stop
  case assign =>
    intro l pre x W K hI hK
    have ST := keep (fun a' W' h1 h2 h3 h4 => hK a' W' h1 h2 h3 h4)
    obtain ⟨z, hz⟩ : ∃ z, nthE ds x = z := ⟨_, rfl⟩
    have HZ := keep hz
    rw [hz]
    have II := keep hI
    clear hK hz hI
    simp only [List.zip_toArray, List.zip_cons_cons, List.zip_nil_right, List.foldl_toArray, List.foldl_cons, List.foldl_nil, List.setIfInBounds_toArray, List.set_cons_zero, List.set_cons_succ]
    unfold ev
    gi_wp2
    have hWb : w.heap.size ≤ W.heap.size := by obtain ⟨_, _, h⟩ := II.out; exact h.bel.size
    refine ST.out _ _ ((KeepsOthers.alloc _ _).from _) ((Below.refl _ _).alloc hWb _) (ScanK.own B9.out.size pre W _ none II.out (World.grownBy_alloc W _ none) (fun r e => by cases e)) ⟨W.heap.size, ?_, ?_⟩
    · rw [HZ.out]; rfl
    · rw [HZ.out]; exact heap_alloc_new W _
  case body =>
    rintro l pre x a' W hll hrec ⟨v, out, hJ⟩ ⟨g, rfl, hg⟩ hlen
    simp only
    have JJ := keep hJ
    have ZH := keep (entKind_ok.below (nthE_held TD.out x) hJ.bel)
    have ZS := keep (SM.out x)
    have HG := keep hg
    obtain ⟨z, hz⟩ : ∃ z, nthE ds x = z := ⟨_, rfl⟩
    have HZ := keep hz
    rw [hz] at ZH ZS HG ⊢
    clear hg hz hJ hrec hll
    obtain ⟨zkp, zkc, zvp, zvc, ⟨zkey, zseq, zgone, zval⟩⟩ := z
    simp only at HG
    have hol : out.length ≤ 4096 := by have := JJ.out.few; omega
    have cT := JJ.out.bt.cell
    have cF := JJ.out.bf.cell
    have cS := JJ.out.bs.cell
    have cX := JJ.out.box.cell
    have g0 : W.cell? ⟨g, 0, none⟩ = some (.slice zkp zkey.length zkc) := cell_of_row _ _ _ _ _ _ HG.out
    have ZK : Hid (Src W zkp zkey.length zkc zkey) := ZH.out.1
    have HTW : Hid (Src W tp TL tc to) := HT.out.below JJ.out.bel
    have HFW : Hid (Src W fp FL fc frm) := HF.out.below JJ.out.bel
    have HPAST : Hid (past to (⟨zkey, zseq, zgone, zval⟩ : Ent) = (decide (0 < TL) && !less zkey to)) := by show _ = _; unfold past; rw [HTL.out]
    obtain ⟨P, hP⟩ : ∃ P, past to (⟨zkey, zseq, zgone, zval⟩ : Ent) = P := ⟨_, rfl⟩
    have HP := keep hP
    rw [hP] at HPAST
    clear hP
    refine wpIn_block ?_
    refine wpIn_seq ?_
    refine wpIn_seq ?_
    refine regionIn_share (fun a a' w' => (∃ v15 v16 v17 v18 v19 v20 v21 v22_ v23 : Value, a' = sets a [(15, v15), (16, v16), (17, v17), (18, v18), (19, v19), (20, v20), (21, v21), (0x16, v22_), (23, v23), (24, .bool P)]) ∧ w' = W) ?_ ?_
    · by_cases hT0 : TL = 0
      · have hP : P = false := by rw [HPAST.out, hT0]; rfl
        have t0 : ¬ (0 : Int) < (TL : Int) := by omega
        have t1 : decide ((0 : Int) < (TL : Int)) = false := by simp; omega
        subst hP
        clear hT0
        refine region_plainR (by kernel_rfl) onlyN_out ?_
        go_wp2
        exact ⟨⟨_, _, _, _, _, _, _, _, _, (by simp only [sets, Act.put, List.setIfInBounds_toArray, List.set_cons_zero, List.set_cons_succ]; all_goals rfl)⟩, rfl⟩
      · have t0 : (0 : Int) < (TL : Int) := by omega
        have hP : P = !less zkey to := by rw [HPAST.out, decide_eq_true (show 0 < TL by omega)]; rfl
        have LS := keep (less_any zkp zkey.length zkc zkey tp TL tc to W ZK.out HTW.out)
        subst hP
        clear hT0
        refine region_plainR (by kernel_rfl) onlyN_out ?_
        go_wp2_with fail
        refine LS.out.mono ?_
        rintro e w' ⟨rfl, rfl⟩
        go_wp2
        exact ⟨⟨_, _, _, _, _, _, _, _, _, (by simp only [sets, Act.put, List.setIfInBounds_toArray, List.set_cons_zero, List.set_cons_succ]; all_goals rfl)⟩, rfl⟩
    rintro a' w' ⟨⟨v15, v16, v17, v18, v19, v20, v21, v22_, v23, rfl⟩, hw'⟩
    have hw2 := hw'.symm
    subst hw2
    clear hw'
    simp only [sets, Act.put, List.setIfInBounds_toArray, List.set_cons_zero, List.set_cons_succ]
    have HZE : Hid ((nthE ds x).e = ⟨zkey, zseq, zgone, zval⟩) := by show _ = _; rw [HZ.out]
    cases P with
    | true =>
      gi_wp2
      exact ⟨KeepsFrom.refl _ _, rfl, pre, x, rfl, by rw [HZE.out]; exact HP.out, v, out, JJ.out⟩
    | false =>
      obtain ⟨O, hO⟩ : ∃ O, decide (lastKey (out.map (·.e)) = some zkey) = O := ⟨_, rfl⟩
      have HOL := keep hO
      clear hO
      gi_wp2_with fail
      refine regionIn_share (fun a a' w' => (∃ v25 v26 v27 v28 v29 v30 v31 v32 v33 v34 v35 v36 v37 v38 v39 : Value, a' = sets a [(25, v25), (26, v26), (27, v27), (28, v28), (29, v29), (30, v30), (31, v31), (32, v32), (33, v33), (34, v34), (35, v35), (36, v36), (37, v37), (38, v38), (39, v39), (11, .bool O)]) ∧ w' = W.drew) ?_ ?_
      · obtain ⟨av, cv, rfl, hRV, _⟩ := RSrc.own entKind_ok JJ.out.row (fun y hy => (JJ.out.each y hy).held)
        have RV := keep hRV
        obtain ⟨M, hM⟩ : ∃ M, out.length = M := ⟨_, rfl⟩
        have HM := keep hM
        rw [hM] at RV cX hol
        clear hRV hM
        cases M with
        | zero =>
          have hOf : O = false := by
            rw [← HOL.out, List.length_eq_zero_iff.1 HM.out]
            simp [lastKey]
          subst hOf
          refine region_heldR (S := fun w' => Below W.heap.size W w') (by kernel_rfl) onlyN_out (by kernel_rfl) ((Below.refl _ _).drew) (fun hHeld => ?_)
          refine takeH (i := 0) 25 (v := .slice av 0 cv) rfl rfl (by kernel_rfl) (by kernel_rfl) (by kernel_rfl) (fun _ _ _ h => h) (Or.inl ⟨by rfl, ?_⟩) (by assumption) ?_
          · intro w' hSw'
            have d0 := below_cell hSw' cX
            go_simp
          simp only [Act.put, List.setIfInBounds_toArray, List.set_cons_zero, List.set_cons_succ]
          refine takeH (i := 1) 26 (v := .int .i64 (0 : Int)) rfl rfl (by kernel_rfl) (by kernel_rfl) (by kernel_rfl) (fun _ _ _ h => h) (Or.inl ⟨by rfl, ?_⟩) (by assumption) ?_
          · intro w' hSw'
            go_simp
          simp only [Act.put, List.setIfInBounds_toArray, List.set_cons_zero, List.set_cons_succ]
          refine takeH (i := 2) 27 (v := .bool false) rfl rfl (by kernel_rfl) (by kernel_rfl) (by kernel_rfl) (fun _ _ _ h => h) (Or.inl ⟨by rfl, ?_⟩) (by assumption) ?_
          · intro w' hSw'
            go_simp
          simp only [Act.put, List.setIfInBounds_toArray, List.set_cons_zero, List.set_cons_succ]
          refine takeH (i := 3) 28 (v := .bool false) rfl rfl (by kernel_rfl) (by kernel_rfl) (by kernel_rfl) (fun _ _ _ h => h) (Or.inl ⟨by rfl, ?_⟩) (by assumption) ?_
          · intro w' hSw'
            go_simp
          simp only [Act.put, List.setIfInBounds_toArray, List.set_cons_zero, List.set_cons_succ]
          refine takeH (i := 4) 29 (v := undef) rfl rfl (by kernel_rfl) (by kernel_rfl) (by kernel_rfl) (fun _ _ _ h => h) (Or.inr ⟨by rfl, rfl⟩) (by assumption) ?_
          simp only [Act.put, List.setIfInBounds_toArray, List.set_cons_zero, List.set_cons_succ]
          refine takeH (i := 5) 30 (v := undef) rfl rfl (by kernel_rfl) (by kernel_rfl) (by kernel_rfl) (fun _ _ _ h => h) (Or.inr ⟨by rfl, rfl⟩) (by assumption) ?_
          simp only [Act.put, List.setIfInBounds_toArray, List.set_cons_zero, List.set_cons_succ]
          refine takeH (i := 6) 31 (v := undef) rfl rfl (by kernel_rfl) (by kernel_rfl) (by kernel_rfl) (fun _ _ _ h => h) (Or.inr ⟨by rfl, rfl⟩) (by assumption) ?_
          simp only [Act.put, List.setIfInBounds_toArray, List.set_cons_zero, List.set_cons_succ]
          refine takeH (i := 7) 32 (v := undef) rfl rfl (by kernel_rfl) (by kernel_rfl) (by kernel_rfl) (fun _ _ _ h => h) (Or.inr ⟨by rfl, rfl⟩) (by assumption) ?_
          simp only [Act.put, List.setIfInBounds_toArray, List.set_cons_zero, List.set_cons_succ]
          refine takeH (i := 8) 33 (v := undef) rfl rfl (by kernel_rfl) (by kernel_rfl) (by kernel_rfl) (fun _ _ _ h => h) (Or.inr ⟨by rfl, rfl⟩) (by assumption) ?_
          simp only [Act.put, List.setIfInBounds_toArray, List.set_cons_zero, List.set_cons_succ]
          refine takeH (i := 9) 34 (v := undef) rfl rfl (by kernel_rfl) (by kernel_rfl) (by kernel_rfl) (fun _ _ _ h => h) (Or.inr ⟨by rfl, rfl⟩) (by assumption) ?_
          simp only [Act.put, List.setIfInBounds_toArray, List.set_cons_zero, List.set_cons_succ]
          refine takeH (i := 10) 35 (v := undef) rfl rfl (by kernel_rfl) (by kernel_rfl) (by kernel_rfl) (fun _ _ _ h => h) (Or.inr ⟨by rfl, rfl⟩) (by assumption) ?_
          simp only [Act.put, List.setIfInBounds_toArray, List.set_cons_zero, List.set_cons_succ]
          refine takeH (i := 11) 36 (v := undef) rfl rfl (by kernel_rfl) (by kernel_rfl) (by kernel_rfl) (fun _ _ _ h => h) (Or.inr ⟨by rfl, rfl⟩) (by assumption) ?_
          simp only [Act.put, List.setIfInBounds_toArray, List.set_cons_zero, List.set_cons_succ]
          refine takeH (i := 12) 37 (v := undef) rfl rfl (by kernel_rfl) (by kernel_rfl) (by kernel_rfl) (fun _ _ _ h => h) (Or.inr ⟨by rfl, rfl⟩) (by assumption) ?_
          simp only [Act.put, List.setIfInBounds_toArray, List.set_cons_zero, List.set_cons_succ]
          refine takeH (i := 13) 38 (v := undef) rfl rfl (by kernel_rfl) (by kernel_rfl) (by kernel_rfl) (fun _ _ _ h => h) (Or.inr ⟨by rfl, rfl⟩) (by assumption) ?_
          simp only [Act.put, List.setIfInBounds_toArray, List.set_cons_zero, List.set_cons_succ]
          refine takeH (i := 14) 39 (v := .bool false) rfl rfl (by kernel_rfl) (by kernel_rfl) (by kernel_rfl) (fun _ _ _ h => h) (Or.inl ⟨by rfl, ?_⟩) (by assumption) ?_
          · intro w' hSw'
            go_simp
          simp only [Act.put, List.setIfInBounds_toArray, List.set_cons_zero, List.set_cons_succ]
          refine takeH (i := 15) 11 (v := .bool false) rfl rfl (by kernel_rfl) (by kernel_rfl) (by kernel_rfl) (fun _ _ _ h => h) (Or.inl ⟨by rfl, ?_⟩) (by assumption) ?_
          · intro w' hSw'
            go_simp
          simp only [Act.put, List.setIfInBounds_toArray, List.set_cons_zero, List.set_cons_succ]
          refine wpAnyH_done (by kernel_rfl) ?_ _
          exact ⟨⟨_, _, _, _, _, _, _, _, _, _, _, _, _, _, _, (by simp only [sets, Act.put, List.setIfInBounds_toArray, List.set_cons_zero, List.set_cons_succ]; all_goals rfl)⟩, rfl⟩
        | succ m =>
          obtain ⟨ob, oo, rfl, _, _⟩ := RV.out.form entKind_ok (by omega)
          obtain ⟨ye, hye⟩ : ∃ y, out[m]? = some y := ⟨out[m]'(by rw [HM.out]; omega), List.getElem?_eq_getElem _⟩
          have hOf : O = decide (ye.e.key = zkey) := by
            rw [← HOL.out]
            have h1 : out = out.take m ++ [ye] := by
              have h2 := List.take_add_one (l := out) (i := m)
              rw [hye, List.take_of_length_le (by rw [HM.out]; exact Nat.le_refl _)] at h2
              exact h2
            rw [h1, List.map_append, List.map_cons, List.map_nil, lastKey_snoc]
            simp
          have CL : Hid (∀ w', Below W.heap.size W w' → w'.cell? ⟨ob, oo + m * 4, none⟩ = some (.slice ye.kp ye.e.key.length ye.kc)) := fun w' hb => (ent_cells (RV.out.below entKind_ok hb) hye).1
          have EQ : Hid (∀ w', Below W.heap.size W w' → _) := fun w' hb => equal_any ye.kp ye.e.key.length ye.kc ye.e.key zkp zkey.length zkc zkey w' ((RV.out.below entKind_ok hb).held ye (List.mem_of_getElem? hye)).1 (ZK.out.below hb)
          rw [← hOf] at EQ
          clear hOf hye
          obtain ⟨lkp, lkc, lvp, lvc, ⟨lkey, lseq, lgone, lval⟩⟩ := ye
          simp only at CL EQ
          have s1 : IntKind.i64.wrap (m : Int) = (m : Int) := wrap_small _ (by omega) (by omega)
          have s2 : ((m + 1 : Nat) : Int) - 1 = (m : Int) := by omega
          have s3 : (m : Int) < ((m + 1 : Nat) : Int) := by omega
          have s4 : (0 : Int) ≤ (m : Int) := by omega
          have s6 : (m : Int) < (m : Int) + 1 := by omega
          have s7 : (0 : Int) < (m : Int) + 1 := by omega
          refine region_heldR (S := fun w' => Below W.heap.size W w') (by kernel_rfl) onlyN_out (by kernel_rfl) ((Below.refl _ _).drew) (fun hHeld => ?_)
          refine takeH (i := 0) 25 (v := .slice (some ⟨ob, oo, none⟩) (m + 1) cv) rfl rfl (by kernel_rfl) (by kernel_rfl) (by kernel_rfl) (fun _ _ _ h => h) (Or.inl ⟨by rfl, ?_⟩) (by assumption) ?_
          · intro w' hSw'
            have d0 := below_cell hSw' cX
            go_simp
          simp only [Act.put, List.setIfInBounds_toArray, List.set_cons_zero, List.set_cons_succ]
          refine takeH (i := 1) 26 (v := .int .i64 ((m + 1 : Nat) : Int)) rfl rfl (by kernel_rfl) (by kernel_rfl) (by kernel_rfl) (fun _ _ _ h => h) (Or.inl ⟨by rfl, ?_⟩) (by assumption) ?_
          · intro w' hSw'
            go_simp
          simp only [Act.put, List.setIfInBounds_toArray, List.set_cons_zero, List.set_cons_succ]
          refine takeH (i := 2) 27 (v := .bool true) rfl rfl (by kernel_rfl) (by kernel_rfl) (by kernel_rfl) (fun _ _ _ h => h) (Or.inl ⟨by rfl, ?_⟩) (by assumption) ?_
          · intro w' hSw'
            go_simp
          simp only [Act.put, List.setIfInBounds_toArray, List.set_cons_zero, List.set_cons_succ]
          refine takeH (i := 3) 28 (v := .bool true) rfl rfl (by kernel_rfl) (by kernel_rfl) (by kernel_rfl) (fun _ _ _ h => h) (Or.inl ⟨by rfl, ?_⟩) (by assumption) ?_
          · intro w' hSw'
            go_simp
          simp only [Act.put, List.setIfInBounds_toArray, List.set_cons_zero, List.set_cons_succ]
          refine takeH (i := 4) 29 (v := .slice (some ⟨ob, oo, none⟩) (m + 1) cv) rfl rfl (by kernel_rfl) (by kernel_rfl) (by kernel_rfl) (fun _ _ _ h => h) (Or.inl ⟨by rfl, ?_⟩) (by assumption) ?_
          · intro w' hSw'
            have d0 := below_cell hSw' cX
            go_simp
          simp only [Act.put, List.setIfInBounds_toArray, List.set_cons_zero, List.set_cons_succ]
          refine takeH (i := 5) 30 (v := .slice (some ⟨ob, oo, none⟩) (m + 1) cv) rfl rfl (by kernel_rfl) (by kernel_rfl) (by kernel_rfl) (fun _ _ _ h => h) (Or.inl ⟨by rfl, ?_⟩) (by assumption) ?_
          · intro w' hSw'
            have d0 := below_cell hSw' cX
            go_simp
          simp only [Act.put, List.setIfInBounds_toArray, List.set_cons_zero, List.set_cons_succ]
          refine takeH (i := 6) 31 (v := .int .i64 ((m + 1 : Nat) : Int)) rfl rfl (by kernel_rfl) (by kernel_rfl) (by kernel_rfl) (fun _ _ _ h => h) (Or.inl ⟨by rfl, ?_⟩) (by assumption) ?_
          · intro w' hSw'
            go_simp
          simp only [Act.put, List.setIfInBounds_toArray, List.set_cons_zero, List.set_cons_succ]
          refine takeH (i := 7) 32 (v := .int .i64 (m : Int)) rfl rfl (by kernel_rfl) (by kernel_rfl) (by kernel_rfl) (fun _ _ _ h => h) (Or.inl ⟨by rfl, ?_⟩) (by assumption) ?_
          · intro w' hSw'
            go_simp
          simp only [Act.put, List.setIfInBounds_toArray, List.set_cons_zero, List.set_cons_succ]
          refine takeH (i := 8) 33 (v := .pointer (some ⟨ob, oo + m * 4, none⟩)) rfl rfl (by kernel_rfl) (by kernel_rfl) (by kernel_rfl) (fun _ _ _ h => h) (Or.inl ⟨by rfl, ?_⟩) (by assumption) ?_
          · intro w' hSw'
            go_simp
          simp only [Act.put, List.setIfInBounds_toArray, List.set_cons_zero, List.set_cons_succ]
          refine takeH (i := 9) 34 (v := .pointer (some ⟨ob, oo + m * 4, none⟩)) rfl rfl (by kernel_rfl) (by kernel_rfl) (by kernel_rfl) (fun _ _ _ h => h) (Or.inl ⟨by rfl, ?_⟩) (by assumption) ?_
          · intro w' hSw'
            go_simp
          simp only [Act.put, List.setIfInBounds_toArray, List.set_cons_zero, List.set_cons_succ]
          refine takeH (i := 10) 35 (v := .slice lkp lkey.length lkc) rfl rfl (by kernel_rfl) (by kernel_rfl) (by kernel_rfl) (fun _ _ _ h => h) (Or.inl ⟨by rfl, ?_⟩) (by assumption) ?_
          · intro w' hSw'
            have d0 := CL.out w' hSw'
            go_simp
          simp only [Act.put, List.setIfInBounds_toArray, List.set_cons_zero, List.set_cons_succ]
          refine takeH (i := 11) 36 (v := .pointer (some ⟨g, 0, none⟩)) rfl rfl (by kernel_rfl) (by kernel_rfl) (by kernel_rfl) (fun _ _ _ h => h) (Or.inl ⟨by rfl, ?_⟩) (by assumption) ?_
          · intro w' hSw'
            go_simp
          simp only [Act.put, List.setIfInBounds_toArray, List.set_cons_zero, List.set_cons_succ]
          refine takeH (i := 12) 37 (v := .slice zkp zkey.length zkc) rfl rfl (by kernel_rfl) (by kernel_rfl) (by kernel_rfl) (fun _ _ _ h => h) (Or.inl ⟨by rfl, ?_⟩) (by assumption) ?_
          · intro w' hSw'
            have d1 := below_cell hSw' g0
            go_simp
          simp only [Act.put, List.setIfInBounds_toArray, List.set_cons_zero, List.set_cons_succ]
          refine wpAnyH_ready (rs := [13]) (by kernel_rfl) (by simp) ?_
          refine AllReadyH.cons rfl (fun K hK => ?_) AllReadyH.nil
          go_simp
          refine (EQ.out _ (Below.refl _ _).drew).mono ?_
          rintro e w7 ⟨rfl, rfl⟩
          go_wp2_with fail
          refine hK.out _ _ ((Below.refl _ _).drew) (fun hHeld1 => ?_)
          clear hK K
          refine takeH (i := 14) 39 (v := .bool O) rfl rfl (by kernel_rfl) (by kernel_rfl) (by kernel_rfl) (fun _ _ _ h => h) (Or.inl ⟨by rfl, ?_⟩) (by assumption) ?_
          · intro w' hSw'
            go_simp
          simp only [Act.put, List.setIfInBounds_toArray, List.set_cons_zero, List.set_cons_succ]
          refine takeH (i := 15) 11 (v := .bool O) rfl rfl (by kernel_rfl) (by kernel_rfl) (by kernel_rfl) (fun _ _ _ h => h) (Or.inl ⟨by rfl, ?_⟩) (by assumption) ?_
          · intro w' hSw'
            go_simp
          simp only [Act.put, List.setIfInBounds_toArray, List.set_cons_zero, List.set_cons_succ]
          refine wpAnyH_done (by kernel_rfl) ?_ _
          exact ⟨⟨_, _, _, _, _, _, _, _, _, _, _, _, _, _, _, (by simp only [sets, Act.put, List.setIfInBounds_toArray, List.set_cons_zero, List.set_cons_succ]; all_goals rfl)⟩, rfl⟩
      rintro a' w' ⟨⟨v25, v26, v27, v28, v29, v30, v31, v32, v33, v34, v35, v36, v37, v38, v39, rfl⟩, hw'⟩
      simp only [sets, Act.put, List.setIfInBounds_toArray, List.set_cons_zero, List.set_cons_succ]
      obtain ⟨V, hV⟩ : ∃ V, W.drew = V := ⟨_, rfl⟩
      have bV : Hid (Below W.heap.size W V) := by rw [← hV]; exact (Below.refl _ _).drew
      rw [hV] at hw'
      have hw2 := hw'.symm
      subst hw2
      clear hw' hV
      have J7 := keep (JJ.out.below bV.out)
      have cFV := J7.out.bf.cell
      have cSV := J7.out.bs.cell
      have ZKV := keep (ZK.out.below bV.out)
      have g0V : V.cell? ⟨g, 0, none⟩ = some (.slice zkp zkey.length zkc) := below_cell bV.out g0
      have g1V : V.cell? ⟨g, 1, none⟩ = some (.int .i64 zseq) := below_cell bV.out (cell_of_row _ _ _ _ _ _ HG.out)
      obtain ⟨G, hG⟩ : ∃ G, (decide (zseq ≤ s) && !O && !less zkey frm) = G := ⟨_, rfl⟩
      have HGO := keep hG
      have HDS : Hid (dstep frm to s (out.map (·.e)) (nthE ds x).e = if G = true then out.map (·.e) ++ [(nthE ds x).e] else out.map (·.e)) := by
        show _ = _
        rw [dstep_go (by rw [HZE.out]; exact HP.out), HZE.out]
        simp only
        rw [HOL.out, hG]
      clear hG cT cF cS cX g0
      gi_step
      gi_step
      gi_step
      refine regionIn_share (fun a a' w' => (∃ v40 v41 v42 v43 v44 v45 v46 v47 v48 v49 v50 v51 v52 v53 : Value, a' = sets a [(40, v40), (41, v41), (42, v42), (43, v43), (44, v44), (45, v45), (46, v46), (47, v47), (48, v48), (49, v49), (50, v50), (51, v51), (52, v52), (53, v53), (54, .bool G)]) ∧ w' = V) ?_ ?_
      · refine region_plainR (by kernel_rfl) onlyN_out ?_
        by_cases hs : zseq ≤ s
        · have ds1 : decide (zseq ≤ s) = true := decide_eq_true hs
          cases O with
          | true =>
            have hGf : G = false := by rw [← HGO.out]; simp
            subst hGf
            go_wp2
            exact ⟨⟨_, _, _, _, _, _, _, _, _, _, _, _, _, _, (by simp only [sets, Act.put, List.setIfInBounds_toArray, List.set_cons_zero, List.set_cons_succ]; all_goals rfl)⟩, rfl⟩
          | false =>
            have hGf : G = !less zkey frm := by rw [← HGO.out, ds1]; simp
            subst hGf
            have LS := keep (less_any zkp zkey.length zkc zkey fp FL fc frm V ZKV.out (HFW.out.below bV.out))
            go_wp2_with fail
            refine LS.out.mono ?_
            rintro e w' ⟨rfl, rfl⟩
            go_wp2
            exact ⟨⟨_, _, _, _, _, _, _, _, _, _, _, _, _, _, (by simp only [sets, Act.put, List.setIfInBounds_toArray, List.set_cons_zero, List.set_cons_succ]; all_goals rfl)⟩, rfl⟩
        · have ds1 : decide (zseq ≤ s) = false := decide_eq_false hs
          have hGf : G = false := by rw [← HGO.out, ds1]; simp
          subst hGf
          go_wp2
          exact ⟨⟨_, _, _, _, _, _, _, _, _, _, _, _, _, _, (by simp only [sets, Act.put, List.setIfInBounds_toArray, List.set_cons_zero, List.set_cons_succ]; all_goals rfl)⟩, rfl⟩
      rintro a' w' ⟨⟨v40, v41, v42, v43, v44, v45, v46, v47, v48, v49, v50, v51, v52, v53, rfl⟩, hw'⟩
      have hw2 := hw'.symm
      subst hw2
      clear hw' cFV cSV g1V g0V
      simp only [sets, Act.put, List.setIfInBounds_toArray, List.set_cons_zero, List.set_cons_succ]
      cases G with
      | false =>
        rw [if_neg (by decide)] at HDS
        gi_wp2
        exact ⟨(KeepsFrom.refl _ _).trans ((keeps_below bV.out).from _), bV.out.mono JJ.out.bel.size, v, out, J7.out.skip (by rw [HZE.out]; exact HP.out) HDS.out⟩
      | true =>
        rw [if_pos rfl] at HDS
        have CP : Hid (∀ w', Below V.heap.size V w' → _) := fun w' hb' => tcopied_any ⟨zkp, zkc, zvp, zvc, ⟨zkey, zseq, zgone, zval⟩⟩ w' (by have h : zkey.length ≤ 64 := ZS.out.1; show zkey.length ≤ _; omega) (by have h : zval.length ≤ 1024 := ZS.out.2; show zval.length ≤ _; omega) (entKind_ok.below (entKind_ok.below ZH.out bV.out) hb')
        have bd : Hid (Below V.heap.size V V.drew) := (Below.refl _ _).drew
        have GV : Hid (V.heap[g]? = _) := (bV.out.block _ (Array.getElem?_eq_some_iff.1 HG.out).1).trans HG.out
        have c8 : V.drew.cell? ⟨nX, 0, none⟩ = some v := below_cell bd.out J7.out.box.cell
        have e0 : V.drew.cell? ⟨g, 0, none⟩ = some (.slice zkp zkey.length zkc) := below_cell bd.out (cell_of_row _ _ _ _ _ _ GV.out)
        have e1 : V.drew.cell? ⟨g, 1, none⟩ = some (.int .i64 zseq) := below_cell bd.out (cell_of_row _ _ _ _ _ _ GV.out)
        have e2 : V.drew.cell? ⟨g, 2, none⟩ = some (.bool zgone) := below_cell bd.out (cell_of_row _ _ _ _ _ _ GV.out)
        have e3 : V.drew.cell? ⟨g, 3, none⟩ = some (.slice zvp zval.length zvc) := below_cell bd.out (cell_of_row _ _ _ _ _ _ GV.out)
        have hwV : w.heap.size ≤ V.heap.size := J7.out.bel.size
        unfold ev at CP ⊢
        simp only at CP
        gi_wp2_with fail
        refine wpIn_region_any (by kernel_rfl) ?_
        try (change wpAnyIn _ _ _ _ _ _ _ _ _ (World.drew _))
        refine wpAnyIn_ready (rs := [0, 1]) (by kernel_rfl) (by simp) ?_
        refine AllReadyIn.cons rfl (fun K hK => ?_) (AllReadyIn.cons rfl (fun K hK => ?_) AllReadyIn.nil)
        · go_simp
          first | (refine hK _ _ ?_; clear hK K) | skip
          refine wpAnyIn_ready (rs := [1]) (by kernel_rfl) (by simp) ?_
          refine AllReadyIn.cons rfl (fun K hK => ?_) AllReadyIn.nil
          go_simp
          first | (refine hK _ _ ?_; clear hK K) | skip
          refine wpAnyIn_ready (rs := [2]) (by kernel_rfl) (by simp) ?_
          refine AllReadyIn.cons rfl (fun K hK => ?_) AllReadyIn.nil
          go_simp
          refine ⟨trivial, ?_⟩
          refine (CallsIn.inRound l (callsIn_wide.2 (CP.out _ bd.out))).mono ?_
          rintro e w5 ⟨y, rfl, hye, hyo, hb5⟩
          have HYE := keep hye
          have HYO := keep hyo
          have B5 := keep (bd.out.trans (hb5.mono bd.out.size))
          have c8b : w5.cell? ⟨nX, 0, none⟩ = some v := below_cell hb5 c8
          clear hye hyo hb5
          obtain ⟨ykp, ykc, yvp, yvc, ⟨ykey, yseq, ygone, yval⟩⟩ := y
          try simp only
          gi_wp2_with fail
          first | (refine hK _ _ ?_; clear hK K) | skip
          refine wpAnyIn_ready (rs := [3]) (by kernel_rfl) (by simp) ?_
          refine AllReadyIn.cons rfl (fun K hK => ?_) AllReadyIn.nil
          have c8c : (w5.alloc (.cells #[.slice ykp ykey.length ykc, .int .i64 yseq, .bool ygone, .slice yvp yval.length yvc] 37)).cell? ⟨nX, 0, none⟩ = some v := below_cell ((Below.refl _ _).alloc (Nat.le_refl _) _) c8b
          go_simp
          first | (refine hK _ _ ?_; clear hK K) | skip
          refine wpAnyIn_ready (rs := [4]) (by kernel_rfl) (by simp) ?_
          refine AllReadyIn.cons rfl (fun K hK => ?_) AllReadyIn.nil
          have B6 := keep (B5.out.alloc B5.out.size (.cells #[.slice ykp ykey.length ykc, .int .i64 yseq, .bool ygone, .slice yvp yval.length yvc] 37))
          have R6 := keep (own_block J7.out.row (fun g' hg' => B6.out.block g' (own_size J7.out.row hg')))
          have rc6 := keep (rec_cells (k := entKind) w5 37 (⟨ykp, ykc, yvp, yvc, ⟨ykey, yseq, ygone, yval⟩⟩ : EV))
          have Y6 : Hid (OwnE w.heap.size (w5.alloc (.cells #[.slice ykp ykey.length ykc, .int .i64 yseq, .bool ygone, .slice yvp yval.length yvc] 37)) ⟨ykp, ykc, yvp, yvc, ⟨ykey, yseq, ygone, yval⟩⟩) := (HYO.out.base (show w.heap.size ≤ V.drew.heap.size from hwV)).tag5 (fun g' cur hc => Below.heap_alloc _ _ _ (Array.getElem?_eq_some_iff.1 hc).1)
          refine stepIn_append rfl _ _ 22 37 rfl w.heap.size i0 _ Tryz.underlying22 hi0 hz0 hz1 hz2 rfl v out.length out rfl R6.out _ 1 (⟨ykp, ykc, yvp, yvc, ⟨ykey, yseq, ygone, yval⟩⟩ : EV) rfl rc6.out (by unfold maxLen; omega) (by omega) (Nat.le_trans hwV B6.out.size) ?_
          intro v7 w7 ho7 hg7
          obtain ⟨g7, k7, rfl⟩ := own_form ho7
          have N7 := keep (J7.out.next NE.out.1 B6.out Y6.out (show _ = (nthE ds x).e from by rw [HZE.out]; exact HYE.out) (by rw [HZE.out]; exact HP.out) HDS.out NE.out.2.1 NE.out.2.2.1 NE.out.2.2.2 ho7 hg7)
          have c9 := N7.out.1.cell
          have f9 := N7.out.1.frozen
          clear ho7 hg7
          refine hK _ _ ?_
          clear hK K
          refine wpAnyIn_ready (rs := [5]) (by kernel_rfl) (by simp) ?_
          refine AllReadyIn.cons rfl (fun K hK => ?_) AllReadyIn.nil
          go_simp
          first | (refine hK _ _ ?_; clear hK K) | skip
          refine wpAnyIn_done (by kernel_rfl) ?_ _
          gi_wp2
          exact ⟨((keeps_below bV.out).trans N7.out.2.1).from _, (bV.out.mono JJ.out.bel.size).trans N7.out.2.2.1, _, _, N7.out.2.2.2⟩
        · go_simp
          first | (refine hK _ _ ?_; clear hK K) | skip
          refine wpAnyIn_ready (rs := [0, 2]) (by kernel_rfl) (by simp) ?_
          refine AllReadyIn.cons rfl (fun K hK => ?_) (AllReadyIn.cons rfl (fun K hK => ?_) AllReadyIn.nil)
          · go_simp
            first | (refine hK _ _ ?_; clear hK K) | skip
            refine wpAnyIn_ready (rs := [2]) (by kernel_rfl) (by simp) ?_
            refine AllReadyIn.cons rfl (fun K hK => ?_) AllReadyIn.nil
            go_simp
            refine ⟨trivial, ?_⟩
            refine (CallsIn.inRound l (callsIn_wide.2 (CP.out _ bd.out))).mono ?_
            rintro e w5 ⟨y, rfl, hye, hyo, hb5⟩
            have HYE := keep hye
            have HYO := keep hyo
            have B5 := keep (bd.out.trans (hb5.mono bd.out.size))
            have c8b : w5.cell? ⟨nX, 0, none⟩ = some v := below_cell hb5 c8
            clear hye hyo hb5
            obtain ⟨ykp, ykc, yvp, yvc, ⟨ykey, yseq, ygone, yval⟩⟩ := y
            try simp only
            gi_wp2_with fail
            first | (refine hK _ _ ?_; clear hK K) | skip
            refine wpAnyIn_ready (rs := [3]) (by kernel_rfl) (by simp) ?_
            refine AllReadyIn.cons rfl (fun K hK => ?_) AllReadyIn.nil
            have c8c : (w5.alloc (.cells #[.slice ykp ykey.length ykc, .int .i64 yseq, .bool ygone, .slice yvp yval.length yvc] 37)).cell? ⟨nX, 0, none⟩ = some v := below_cell ((Below.refl _ _).alloc (Nat.le_refl _) _) c8b
            go_simp
            first | (refine hK _ _ ?_; clear hK K) | skip
            refine wpAnyIn_ready (rs := [4]) (by kernel_rfl) (by simp) ?_
            refine AllReadyIn.cons rfl (fun K hK => ?_) AllReadyIn.nil
            have B6 := keep (B5.out.alloc B5.out.size (.cells #[.slice ykp ykey.length ykc, .int .i64 yseq, .bool ygone, .slice yvp yval.length yvc] 37))
            have R6 := keep (own_block J7.out.row (fun g' hg' => B6.out.block g' (own_size J7.out.row hg')))
            have rc6 := keep (rec_cells (k := entKind) w5 37 (⟨ykp, ykc, yvp, yvc, ⟨ykey, yseq, ygone, yval⟩⟩ : EV))
            have Y6 : Hid (OwnE w.heap.size (w5.alloc (.cells #[.slice ykp ykey.length ykc, .int .i64 yseq, .bool ygone, .slice yvp yval.length yvc] 37)) ⟨ykp, ykc, yvp, yvc, ⟨ykey, yseq, ygone, yval⟩⟩) := (HYO.out.base (show w.heap.size ≤ V.drew.heap.size from hwV)).tag5 (fun g' cur hc => Below.heap_alloc _ _ _ (Array.getElem?_eq_some_iff.1 hc).1)
            refine stepIn_append rfl _ _ 22 37 rfl w.heap.size i0 _ Tryz.underlying22 hi0 hz0 hz1 hz2 rfl v out.length out rfl R6.out _ 1 (⟨ykp, ykc, yvp, yvc, ⟨ykey, yseq, ygone, yval⟩⟩ : EV) rfl rc6.out (by unfold maxLen; omega) (by omega) (Nat.le_trans hwV B6.out.size) ?_
            intro v7 w7 ho7 hg7
            obtain ⟨g7, k7, rfl⟩ := own_form ho7
            have N7 := keep (J7.out.next NE.out.1 B6.out Y6.out (show _ = (nthE ds x).e from by rw [HZE.out]; exact HYE.out) (by rw [HZE.out]; exact HP.out) HDS.out NE.out.2.1 NE.out.2.2.1 NE.out.2.2.2 ho7 hg7)
            have c9 := N7.out.1.cell
            have f9 := N7.out.1.frozen
            clear ho7 hg7
            refine hK _ _ ?_
            clear hK K
            refine wpAnyIn_ready (rs := [5]) (by kernel_rfl) (by simp) ?_
            refine AllReadyIn.cons rfl (fun K hK => ?_) AllReadyIn.nil
            go_simp
            first | (refine hK _ _ ?_; clear hK K) | skip
            refine wpAnyIn_done (by kernel_rfl) ?_ _
            gi_wp2
            exact ⟨((keeps_below bV.out).trans N7.out.2.1).from _, (bV.out.mono JJ.out.bel.size).trans N7.out.2.2.1, _, _, N7.out.2.2.2⟩
          · go_simp
            refine ⟨trivial, ?_⟩
            refine (CallsIn.inRound l (callsIn_wide.2 (CP.out _ bd.out))).mono ?_
            rintro e w5 ⟨y, rfl, hye, hyo, hb5⟩
            have HYE := keep hye
            have HYO := keep hyo
            have B5 := keep (bd.out.trans (hb5.mono bd.out.size))
            have c8b : w5.cell? ⟨nX, 0, none⟩ = some v := below_cell hb5 c8
            clear hye hyo hb5
            obtain ⟨ykp, ykc, yvp, yvc, ⟨ykey, yseq, ygone, yval⟩⟩ := y
            try simp only
            gi_wp2_with fail
            first | (refine hK _ _ ?_; clear hK K) | skip
            refine wpAnyIn_ready (rs := [0, 3]) (by kernel_rfl) (by simp) ?_
            refine AllReadyIn.cons rfl (fun K hK => ?_) (AllReadyIn.cons rfl (fun K hK => ?_) AllReadyIn.nil)
            · go_simp
              first | (refine hK _ _ ?_; clear hK K) | skip
              refine wpAnyIn_ready (rs := [3]) (by kernel_rfl) (by simp) ?_
              refine AllReadyIn.cons rfl (fun K hK => ?_) AllReadyIn.nil
              have c8c : (w5.alloc (.cells #[.slice ykp ykey.length ykc, .int .i64 yseq, .bool ygone, .slice yvp yval.length yvc] 37)).cell? ⟨nX, 0, none⟩ = some v := below_cell ((Below.refl _ _).alloc (Nat.le_refl _) _) c8b
              go_simp
              first | (refine hK _ _ ?_; clear hK K) | skip
              refine wpAnyIn_ready (rs := [4]) (by kernel_rfl) (by simp) ?_
              refine AllReadyIn.cons rfl (fun K hK => ?_) AllReadyIn.nil
              have B6 := keep (B5.out.alloc B5.out.size (.cells #[.slice ykp ykey.length ykc, .int .i64 yseq, .bool ygone, .slice yvp yval.length yvc] 37))
              have R6 := keep (own_block J7.out.row (fun g' hg' => B6.out.block g' (own_size J7.out.row hg')))
              have rc6 := keep (rec_cells (k := entKind) w5 37 (⟨ykp, ykc, yvp, yvc, ⟨ykey, yseq, ygone, yval⟩⟩ : EV))
              have Y6 : Hid (OwnE w.heap.size (w5.alloc (.cells #[.slice ykp ykey.length ykc, .int .i64 yseq, .bool ygone, .slice yvp yval.length yvc] 37)) ⟨ykp, ykc, yvp, yvc, ⟨ykey, yseq, ygone, yval⟩⟩) := (HYO.out.base (show w.heap.size ≤ V.drew.heap.size from hwV)).tag5 (fun g' cur hc => Below.heap_alloc _ _ _ (Array.getElem?_eq_some_iff.1 hc).1)
              refine stepIn_append rfl _ _ 22 37 rfl w.heap.size i0 _ Tryz.underlying22 hi0 hz0 hz1 hz2 rfl v out.length out rfl R6.out _ 1 (⟨ykp, ykc, yvp, yvc, ⟨ykey, yseq, ygone, yval⟩⟩ : EV) rfl rc6.out (by unfold maxLen; omega) (by omega) (Nat.le_trans hwV B6.out.size) ?_
              intro v7 w7 ho7 hg7
              obtain ⟨g7, k7, rfl⟩ := own_form ho7
              have N7 := keep (J7.out.next NE.out.1 B6.out Y6.out (show _ = (nthE ds x).e from by rw [HZE.out]; exact HYE.out) (by rw [HZE.out]; exact HP.out) HDS.out NE.out.2.1 NE.out.2.2.1 NE.out.2.2.2 ho7 hg7)
              have c9 := N7.out.1.cell
              have f9 := N7.out.1.frozen
              clear ho7 hg7
              refine hK _ _ ?_
              clear hK K
              refine wpAnyIn_ready (rs := [5]) (by kernel_rfl) (by simp) ?_
              refine AllReadyIn.cons rfl (fun K hK => ?_) AllReadyIn.nil
              go_simp
              first | (refine hK _ _ ?_; clear hK K) | skip
              refine wpAnyIn_done (by kernel_rfl) ?_ _
              gi_wp2
              exact ⟨((keeps_below bV.out).trans N7.out.2.1).from _, (bV.out.mono JJ.out.bel.size).trans N7.out.2.2.1, _, _, N7.out.2.2.2⟩
            · have c8c : (w5.alloc (.cells #[.slice ykp ykey.length ykc, .int .i64 yseq, .bool ygone, .slice yvp yval.length yvc] 37)).cell? ⟨nX, 0, none⟩ = some v := below_cell ((Below.refl _ _).alloc (Nat.le_refl _) _) c8b
              go_simp
              first | (refine hK _ _ ?_; clear hK K) | skip
              refine wpAnyIn_ready (rs := [0]) (by kernel_rfl) (by simp) ?_
              refine AllReadyIn.cons rfl (fun K hK => ?_) AllReadyIn.nil
              go_simp
              first | (refine hK _ _ ?_; clear hK K) | skip
              refine wpAnyIn_ready (rs := [4]) (by kernel_rfl) (by simp) ?_
              refine AllReadyIn.cons rfl (fun K hK => ?_) AllReadyIn.nil
              have B6 := keep (B5.out.alloc B5.out.size (.cells #[.slice ykp ykey.length ykc, .int .i64 yseq, .bool ygone, .slice yvp yval.length yvc] 37))
              have R6 := keep (own_block J7.out.row (fun g' hg' => B6.out.block g' (own_size J7.out.row hg')))
              have rc6 := keep (rec_cells (k := entKind) w5 37 (⟨ykp, ykc, yvp, yvc, ⟨ykey, yseq, ygone, yval⟩⟩ : EV))
              have Y6 : Hid (OwnE w.heap.size (w5.alloc (.cells #[.slice ykp ykey.length ykc, .int .i64 yseq, .bool ygone, .slice yvp yval.length yvc] 37)) ⟨ykp, ykc, yvp, yvc, ⟨ykey, yseq, ygone, yval⟩⟩) := (HYO.out.base (show w.heap.size ≤ V.drew.heap.size from hwV)).tag5 (fun g' cur hc => Below.heap_alloc _ _ _ (Array.getElem?_eq_some_iff.1 hc).1)
              refine stepIn_append rfl _ _ 22 37 rfl w.heap.size i0 _ Tryz.underlying22 hi0 hz0 hz1 hz2 rfl v out.length out rfl R6.out _ 1 (⟨ykp, ykc, yvp, yvc, ⟨ykey, yseq, ygone, yval⟩⟩ : EV) rfl rc6.out (by unfold maxLen; omega) (by omega) (Nat.le_trans hwV B6.out.size) ?_
              intro v7 w7 ho7 hg7
              obtain ⟨g7, k7, rfl⟩ := own_form ho7
              have N7 := keep (J7.out.next NE.out.1 B6.out Y6.out (show _ = (nthE ds x).e from by rw [HZE.out]; exact HYE.out) (by rw [HZE.out]; exact HP.out) HDS.out NE.out.2.1 NE.out.2.2.1 NE.out.2.2.2 ho7 hg7)
              have c9 := N7.out.1.cell
              have f9 := N7.out.1.frozen
              clear ho7 hg7
              refine hK _ _ ?_
              clear hK K
              refine wpAnyIn_ready (rs := [5]) (by kernel_rfl) (by simp) ?_
              refine AllReadyIn.cons rfl (fun K hK => ?_) AllReadyIn.nil
              go_simp
              first | (refine hK _ _ ?_; clear hK K) | skip
              refine wpAnyIn_done (by kernel_rfl) ?_ _
              gi_wp2
              exact ⟨((keeps_below bV.out).trans N7.out.2.1).from _, (bV.out.mono JJ.out.bel.size).trans N7.out.2.2.1, _, _, N7.out.2.2.2⟩
  case done =>
    rintro D ys W hD rfl ⟨v, out, hJ⟩ hK
    have hc := hJ.box.cell
    have JJ := keep hJ
    have HK := keep hK
    clear hK hJ
    gi_wp2
    refine leaves_marks (B := w.heap.size) [D] _ ⟨by simp, fun x hx => ?_, fun x hx => ?_⟩ (fun W' hs => ⟨v, ?_, _, rfl, out, ?_, ?_, JJ.out.bel.trans (hs.below JJ.out.bel.size)⟩)
    · rw [List.mem_singleton.1 hx]; exact Nat.le_trans B9.out.size hD
    · rw [List.mem_singleton.1 hx]; exact HK.out
    · simp [results, Tryz.f18, go_sem]
    · exact ⟨hs.own JJ.out.row, fun y hy => ⟨hs.own (JJ.out.each y hy).1, hs.own (JJ.out.each y hy).2⟩⟩
    · rw [JJ.out.same, nthE_all]
  case stop =>
    rintro D c pre W hD ⟨k, hk, hpk⟩ ⟨rfl, p, x, hpx, hpast, v, out, hJ⟩ hK
    have hc := hJ.box.cell
    have JJ := keep hJ
    have HK := keep hK
    have FIN : Hid (dscan (p.map (fun i => (nthE ds i).e)) frm to s = dscan (entsD ds) frm to s) := by
      rw [hpk] at hpx
      obtain ⟨j, rfl⟩ : ∃ j, k = j + 1 := ⟨k - 1, by have := congrArg List.length hpx; simp at this; omega⟩
      rw [List.range_succ] at hpx
      obtain ⟨h1, h2⟩ := List.append_inj' hpx rfl
      have h3 : j = x := by simpa using h2
      subst h3
      rw [← h1]
      have hj : (entsD ds)[j]? = some (nthE ds j).e := by
        rw [← nthE_all, List.getElem?_map, List.getElem?_range (by omega)]
        rfl
      have ht : (List.range j).map (fun i => (nthE ds i).e) = (entsD ds).take j := by
        rw [← nthE_all, ← List.map_take, List.take_range]
        congr 2
        omega
      show _ = _
      rw [ht, dscan_stop HO.out hj hpast]
    clear hK hJ hpk hpx hpast
    gi_wp2
    refine leaves_marks (B := w.heap.size) [D] _ ⟨by simp, fun x hx => ?_, fun x hx => ?_⟩ (fun W' hs => ⟨v, ?_, _, rfl, out, ?_, ?_, JJ.out.bel.trans (hs.below JJ.out.bel.size)⟩)
    · rw [List.mem_singleton.1 hx]; exact Nat.le_trans B9.out.size hD
    · rw [List.mem_singleton.1 hx]; exact HK.out
    · simp [results, Tryz.f18, go_sem]
    · exact ⟨hs.own JJ.out.row, fun y hy => ⟨hs.own (JJ.out.each y hy).1, hs.own (JJ.out.each y hy).2⟩⟩
    · rw [JJ.out.same, FIN.out]
end Go.Proofs.YtjblicgbdecbcaaGreat
