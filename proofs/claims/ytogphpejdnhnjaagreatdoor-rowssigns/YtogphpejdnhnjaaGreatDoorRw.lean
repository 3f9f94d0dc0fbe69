/- Slices of records of any kind, of any program: what they hold, read or owned; append of one record; a slice of records among the arguments opened; no walk. -/
import Derived.Test.YtogphpejdnhnjaaGreatDoorK
import Derived.Deep.Slices
namespace Go.Proofs.YtogphpejdnhnjaaGreatDoor
open Go.RowKit Go.Deep

/-- How records of a kind lie in memory: their cells, and what else is to be read where they point. -/
structure Kind (α : Type) where
  size : Nat
  vals : α → List Value
  held : World → α → Prop
/-- A kind as it must be. -/
structure Kind.Ok {α : Type} (k : Kind α) : Prop where
  pos : 0 < k.size
  len : ∀ e, (k.vals e).length = k.size
  one : ∀ e, ∀ u ∈ k.vals e, u.oneCell' = true
  below : ∀ {w w' : World} {e : α}, k.held w e → Below w.heap.size w w' → k.held w' e

def rv {α : Type} (k : Kind α) : List α → List Value
  | [] => []
  | e :: t => k.vals e ++ rv k t
section
variable {α : Type} {k : Kind α}
theorem rv_append (a b : List α) : rv k (a ++ b) = rv k a ++ rv k b := by
  induction a with
  | nil => rfl
  | cons e t ih => simp only [List.cons_append, rv, ih, List.append_assoc]
theorem rv_length (K : k.Ok) (es : List α) : (rv k es).length = es.length * k.size := by
  induction es with
  | nil => simp [rv]
  | cons e t ih => rw [rv, List.length_append, K.len, ih, List.length_cons, Nat.succ_mul]; omega
theorem rv_one (K : k.Ok) (es : List α) : ∀ u ∈ rv k es, u.oneCell' = true := by
  induction es with
  | nil => intro u h; cases h
  | cons e t ih =>
    intro u h
    rcases List.mem_append.1 h with h | h
    · exact K.one e u h
    · exact ih u h
theorem rv_at (K : k.Ok) : ∀ {es : List α} {i : Nat} {e : α} (j : Nat), es[i]? = some e → j < k.size → (rv k es)[i * k.size + j]? = (k.vals e)[j]?
  | [], _, _, _, h, _ => by simp at h
  | a :: t, 0, e, j, h, hj => by
    simp only [List.getElem?_cons_zero, Option.some.injEq] at h
    subst h
    rw [Nat.zero_mul, Nat.zero_add]
    simp only [rv]
    rw [List.getElem?_append_left (by rw [K.len]; exact hj)]
  | a :: t, i + 1, e, j, h, hj => by
    simp only [List.getElem?_cons_succ] at h
    have ih := rv_at K j h hj
    simp only [rv]
    rw [List.getElem?_append_right (by rw [K.len, Nat.succ_mul]; omega), K.len, ← ih]
    congr 1
    rw [Nat.succ_mul]
    omega
theorem rv_get (K : k.Ok) : ∀ {es : List α} {j : Nat} {u : Value}, (rv k es)[j]? = some u → ∃ i q e, j = i * k.size + q ∧ q < k.size ∧ es[i]? = some e ∧ (k.vals e)[q]? = some u
  | [], j, u, h => by simp [rv] at h
  | e :: t, j, u, h => by
    simp only [rv] at h
    rcases Nat.lt_or_ge j k.size with hj | hj
    · rw [List.getElem?_append_left (by rw [K.len]; exact hj)] at h
      exact ⟨0, j, e, by rw [Nat.zero_mul, Nat.zero_add], hj, rfl, h⟩
    · rw [List.getElem?_append_right (by rw [K.len]; exact hj), K.len] at h
      obtain ⟨i, q, a, h1, h2, h3, h4⟩ := rv_get K h
      exact ⟨i + 1, q, a, by rw [Nat.succ_mul]; omega, h2, by simpa using h3, h4⟩

/-- The slice (ao, n, c) holds these records. -/
structure RSrc (k : Kind α) (w : World) (ao : Option Addr) (n c : Nat) (es : List α) : Prop where
  len : es.length = n
  cap : n ≤ c
  nil : ao = none → n = 0 ∧ c = 0
  cells : ∀ ad, ao = some ad → ∀ j u, (rv k es)[j]? = some u → w.cell? (ad.add j) = some u
  held : ∀ e ∈ es, k.held w e
theorem RSrc.empty {w : World} {ao : Option Addr} {c : Nat} (h : ao = none → c = 0) : RSrc k w ao 0 c [] :=
  ⟨rfl, Nat.zero_le _, fun e => ⟨rfl, h e⟩, fun _ _ j u hu => by simp [rv] at hu, fun _ h => by cases h⟩
theorem RSrc.below (K : k.Ok) {w w' : World} {ao : Option Addr} {n c : Nat} {es : List α} (h : RSrc k w ao n c es) (hb : Below w.heap.size w w') : RSrc k w' ao n c es :=
  ⟨h.len, h.cap, h.nil, fun ad had j u hu => by
    have := h.cells ad had j u hu
    rw [hb.cell (World.block_lt_of_cell? w _ this)]
    exact this, fun e he => K.below (h.held e he) hb⟩
/-- The cells of the i-th record. -/
theorem RSrc.form (K : k.Ok) {w : World} {ao : Option Addr} {n c : Nat} {es : List α} (h : RSrc k w ao n c es) (hn : 0 < n) : ∃ b off, ao = some ⟨b, off, none⟩ ∧ b < w.heap.size ∧
    ∀ i e, es[i]? = some e → ∀ j u, (k.vals e)[j]? = some u → w.cell? ⟨b, off + (i * k.size + j), none⟩ = some u := by
  cases ao with
  | none => have := (h.nil rfl).1; omega
  | some ad =>
    obtain ⟨b, off, spot⟩ := ad
    obtain ⟨e0, h0⟩ : ∃ e, es[0]? = some e := ⟨es[0]'(by rw [h.len]; exact hn), List.getElem?_eq_getElem _⟩
    obtain ⟨u0, hu0⟩ : ∃ u, (k.vals e0)[0]? = some u := ⟨(k.vals e0)[0]'(by rw [K.len]; exact K.pos), List.getElem?_eq_getElem _⟩
    have c0 := h.cells _ rfl (0 * k.size + 0) _ ((rv_at K 0 h0 K.pos).trans hu0)
    have hspot : spot = none := by simpa [Addr.add] using World.cell?_spot c0
    subst hspot
    rw [Addr.add_mid] at c0
    have hlt : b < w.heap.size := World.block_lt_of_cell? w _ c0
    refine ⟨b, off, rfl, hlt, fun i e he j u hu => ?_⟩
    have hj : j < k.size := by
      have := (List.getElem?_eq_some_iff.1 hu).1
      rwa [K.len] at this
    have := h.cells _ rfl (i * k.size + j) _ ((rv_at K j he hj).trans hu)
    rwa [Addr.add_mid] at this
theorem RSrc.own (K : k.Ok) {w : World} {base n t : Nat} {v : Value} {es : List α} (h : w.ownsRow base t k.size v n (rv k es)) (hh : ∀ e ∈ es, k.held w e) : ∃ ao c, v = .slice ao n c ∧ RSrc k w ao n c es ∧ c ≤ maxLen := by
  have hl : es.length = n := by
    have := h.1
    rw [rv_length K] at this
    exact Nat.eq_of_mul_eq_mul_right K.pos this
  rcases h.2 with ⟨rfl, h0⟩ | ⟨g, cap, cur, rfl, _, _, hc, hm, _⟩
  · subst h0
    have : es = [] := List.length_eq_zero_iff.1 hl
    subst this
    exact ⟨none, 0, rfl, RSrc.empty (fun _ => rfl), Nat.zero_le _⟩
  · exact ⟨_, _, rfl, ⟨hl, hc, (fun e => by cases e), fun ad had j u hu => by cases had; exact h.cells rfl j u hu, hh⟩, hm⟩
/-- One record, laid as a row of its own. -/
theorem rec_cells (w : World) (t : TypeId) (e : α) (j : Nat) (u : Value) (h : (k.vals e)[j]? = some u) : (w.alloc (.cells (k.vals e).toArray t)).cell? ((⟨w.heap.size, 0, none⟩ : Addr).add j) = some u := by
  rw [Addr.add_mid, Nat.zero_add, cell_of_row _ _ _ _ _ _ (heap_alloc_new w _)]
  simpa using h
/-- append(v, f), v nil or the call's own row of records, f laid as a row of its own. -/
theorem wpList_append_rec (K : k.Ok) {P : Program} {w : World} {ops : Array Oper} {rest : List Oper} {o : Oper} {a : Act} {Q : Exit → Act → World → Prop} (hgd : o.guard = none) (s x : Operand) (t tF : TypeId)
    (ho : o.op = .call { callee := .builtin .append, args := #[s, x], argTypes := #[t, t] })
    (base : Nat) (i : TypeInfo) (z : Value) (bytes : Nat) (ht : P.underlying t = some (.slice tF)) (hi : P.info? tF = some i) (hz : i.zero = some z)
    (hsize : i.size = k.size) (hby : i.bytes = bytes) (hzs : z.cells.size = k.size)
    (v : Value) (n : Nat) (es : List α) (hs : a.eval s = v) (hown : w.ownsRow base tF k.size v n (rv k es))
    (ad : Addr) (c : Nat) (e : α) (hx : a.eval x = .slice (some ad) 1 c) (hcells : ∀ j u, (k.vals e)[j]? = some u → w.cell? (ad.add j) = some u)
    (hb : n + 1 ≤ maxLen) (hbytes : (n + 1) * bytes ≤ 140737488355328) (hbase : base ≤ w.heap.size)
    (h : ∀ v' w', w'.ownsRow base tF k.size v' (n + 1) (rv k (es ++ [e])) → w.grownBy w' v.ownBlock → wpList P ops Q rest (a.put o.dst v') w') : wpList P ops Q (o :: rest) a w := by
  refine wpList_append_own w hgd s x t ho base tF i z k.size bytes ht hi hz hsize hby hzs K.pos v n (rv k es) hs hown ad 1 c (k.vals e) hx (by rw [K.len, Nat.one_mul]) hcells (K.one e) hb hbytes hbase ?_
  intro v' w' h1 h2 _
  refine h v' w' ?_ h2
  rw [rv_append]
  simpa [rv] using h1
/-- The same where a guard stands ahead of it, and says yes. -/
theorem wpList_append_rec_if (K : k.Ok) {P : Program} {w : World} {ops : Array Oper} {rest : List Oper} {o : Oper} {a : Act} {Q : Exit → Act → World → Prop} (hw : Region.wanted o (yielded ops a.tmps) = true) (s x : Operand) (t tF : TypeId)
    (ho : o.op = .call { callee := .builtin .append, args := #[s, x], argTypes := #[t, t] })
    (base : Nat) (i : TypeInfo) (z : Value) (bytes : Nat) (ht : P.underlying t = some (.slice tF)) (hi : P.info? tF = some i) (hz : i.zero = some z)
    (hsize : i.size = k.size) (hby : i.bytes = bytes) (hzs : z.cells.size = k.size)
    (v : Value) (n : Nat) (es : List α) (hs : a.eval s = v) (hown : w.ownsRow base tF k.size v n (rv k es))
    (ad : Addr) (c : Nat) (e : α) (hx : a.eval x = .slice (some ad) 1 c) (hcells : ∀ j u, (k.vals e)[j]? = some u → w.cell? (ad.add j) = some u)
    (hb : n + 1 ≤ maxLen) (hbytes : (n + 1) * bytes ≤ 140737488355328) (hbase : base ≤ w.heap.size)
    (h : ∀ v' w', w'.ownsRow base tF k.size v' (n + 1) (rv k (es ++ [e])) → w.grownBy w' v.ownBlock → wpList P ops Q rest (a.put o.dst v') w') : wpList P ops Q (o :: rest) a w := by
  refine BigFrame.wpList_want hw fun K' hK => ?_
  obtain ⟨v', w', hrun, h1, h2, _⟩ := run_append_own (P := P) w base t o.type tF i z k.size bytes ht hi hz hsize hby hzs K.pos v n (rv k es) hown ad 1 c (k.vals e) (by rw [K.len, Nat.one_mul]) hcells (K.one e) hb hbytes hbase
  unfold Oper.wp
  simp [execOp, ho, resolve, invoke, builtin, hs, hx, hrun, Result.andThen]
  refine hK _ _ (h v' w' ?_ h2)
  rw [rv_append]
  simpa [rv] using h1

theorem mapM_at {w : World} {a : Addr} : ∀ (l : List Nat) {us : List Value}, (l.mapM fun i => w.cell? (a.add i)) = some us → ∀ (j q : Nat) (u : Value), l[j]? = some q → us[j]? = some u → w.cell? (a.add q) = some u
  | [], us, h, j, q, u, hq, _ => by simp at hq
  | i :: t, us, h, j, q, u, hq, hu => by
    rw [List.mapM_cons] at h
    cases hc : w.cell? (a.add i) with
    | none => rw [hc] at h; cases h
    | some v =>
      rw [hc] at h
      cases hm : (t.mapM fun i => w.cell? (a.add i)) with
      | none => simp only [hm] at h; cases h
      | some vs =>
        simp only [hm] at h
        have hus : us = v :: vs := (Option.some.inj h).symm
        subst hus
        cases j with
        | zero =>
          simp only [List.getElem?_cons_zero, Option.some.injEq] at hq hu
          subst hq hu
          exact hc
        | succ j =>
          simp only [List.getElem?_cons_succ] at hq hu
          exact mapM_at t hm j q u hq hu
theorem vals_at {w : World} {a : Addr} {us : List Value} {m : Nat} (h : w.cells? 0 a m = some us) (hl : us.length = m) (j : Nat) (u : Value) (hu : us[j]? = some u) : w.cell? (a.add j) = some u := by
  unfold World.cells? at h
  rw [if_pos (Nat.zero_le _)] at h
  have hj : j < m := by rw [← hl]; exact (List.getElem?_eq_some_iff.1 hu).1
  exact mapM_at _ h j j u (by simp [hj]) hu
/-- A slice of records among the arguments: each in its place, and what its datum says. -/
theorem open_recs (K : k.Ok) {H : Type} {enc : TypeId × Value → H} {P : Program} {W : World} {n : Nat} {tFs tF : TypeId} {v : Value} {x : DataW H × List MemPlace} {Q : α → DataW H → Prop} (hFs : P.underlying tFs = some (.slice tF)) (cF : P.cellsOf tF = k.size)
    (one : ∀ (m : Nat) (cs : List Value) (y : DataW H × List MemPlace), DataW.trod enc P W 0 (fun _ => true) true m tF cs = some y → ∃ e, cs = k.vals e ∧ k.held W e ∧ Q e y.1)
    (h : DataW.trod enc P W 0 (fun _ => true) true n tFs [v] = some x) :
    ∃ ao m c es, v = .slice ao m c ∧ RSrc k W ao m c es ∧ c ≤ maxLen ∧ ((m = 0 ∧ x.1 = .nil) ∨ ∃ ds spare, x.1 = .slice ds spare ∧ ds.length = m ∧ ds.length + spare.length = c ∧ ∀ (i : Nat) e d, es[i]? = some e → ds[i]? = some d → Q e d) := by
  rcases open_slice hFs h with ⟨hcs, hx⟩ | ⟨a, len, cap, m, q, D, Pl, hcs, _, hl, hm, hmm, hx, hall⟩
  · simp only [List.cons.injEq, and_true] at hcs
    exact ⟨none, 0, 0, [], hcs, RSrc.empty (fun _ => rfl), Nat.zero_le _, .inl ⟨rfl, by rw [hx]⟩⟩
  · simp only [List.cons.injEq, and_true] at hcs
    simp only [if_true] at hmm
    subst hmm
    rw [cF] at hall
    have pick : ∃ E : Nat → Option α, ∀ i, i < len → ∃ e, E i = some e ∧ W.cells? 0 (a.add (i * k.size)) k.size = some (k.vals e) ∧ k.held W e ∧ Q e (D i) := by
      have each : ∀ i, ∃ o : Option α, i < len → ∃ e, o = some e ∧ W.cells? 0 (a.add (i * k.size)) k.size = some (k.vals e) ∧ k.held W e ∧ Q e (D i) := by
        intro i
        by_cases hi : i < len
        · obtain ⟨cs', h1, h2⟩ := hall i (by omega)
          obtain ⟨e, h3, h4, h5⟩ := one _ _ _ h2
          exact ⟨some e, fun _ => ⟨e, rfl, by rw [h1, h3], h4, h5⟩⟩
        · exact ⟨none, fun h => absurd h hi⟩
      exact ⟨fun i => (each i).choose, fun i => (each i).choose_spec⟩
    obtain ⟨E, hE⟩ := pick
    have list : ∀ p, p ≤ len → ∃ es : List α, es.length = p ∧ ∀ i e, es[i]? = some e → E i = some e := by
      intro p
      induction p with
      | zero => intro _; exact ⟨[], rfl, fun i e he => by simp at he⟩
      | succ p ih =>
        intro hp
        obtain ⟨es, h1, h2⟩ := ih (by omega)
        obtain ⟨e, he, _⟩ := hE p (by omega)
        refine ⟨es ++ [e], by simp [h1], fun i e' hi => ?_⟩
        rcases Nat.lt_or_ge i es.length with hlt | hge
        · rw [List.getElem?_append_left hlt] at hi
          exact h2 i e' hi
        · rw [List.getElem?_append_right hge] at hi
          have h0 : i - es.length = 0 := by
            have := (List.getElem?_eq_some_iff.1 hi).1
            simp at this
            omega
          rw [h0] at hi
          simp only [List.getElem?_cons_zero, Option.some.injEq] at hi
          subst hi
          rw [show i = p by omega]
          exact he
    obtain ⟨es, hes, hat⟩ := list len (Nat.le_refl _)
    have fact : ∀ i e, es[i]? = some e → W.cells? 0 (a.add (i * k.size)) k.size = some (k.vals e) ∧ k.held W e ∧ Q e (D i) := fun i e he => by
      have hi : i < len := by rw [← hes]; exact (List.getElem?_eq_some_iff.1 he).1
      obtain ⟨e', h1, h2⟩ := hE i hi
      rw [hat i e he, Option.some.injEq] at h1
      subst h1
      exact h2
    refine ⟨some a, len, m, es, hcs, ⟨hes, hl, (fun h => by cases h), fun ad had j u hu => ?_, fun e he => ?_⟩, hm, .inr ⟨_, _, by rw [hx], by simp, by simp; omega, fun i e d he hd => ?_⟩⟩
    · cases had
      obtain ⟨i, p, e, rfl, hp, he, hv⟩ := rv_get K hu
      have := vals_at (fact i e he).1 (K.len e) p u hv
      rwa [add_add] at this
    · obtain ⟨i, hi⟩ := List.getElem?_of_mem he
      exact (fact i e hi).2.1
    · have hi : i < len := by rw [← hes]; exact (List.getElem?_eq_some_iff.1 he).1
      rw [List.getElem?_map, List.getElem?_range hi] at hd
      cases hd
      exact (fact i e he).2.2
end
end Go.Proofs.YtogphpejdnhnjaaGreatDoor
