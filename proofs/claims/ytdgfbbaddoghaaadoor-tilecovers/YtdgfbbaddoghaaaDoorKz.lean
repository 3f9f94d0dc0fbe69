/- Texts in rows; hashes, roots, paths, proofs and checks over plain bytes; no walk. -/
import Derived.Test.YtdgfbbaddoghaaaDoorRw
import Derived.Test.YtdgfbbaddoghaaaDoorMu
import Derived.Test.YtdgfbbaddoghaaaDoorSxZ
import Derived.Deep.RegionHeld3
namespace Go.Proofs.YtdgfbbaddoghaaaDoor
open Go.RowKit

/-- Texts as records of one cell. -/
def strKind : Kind (List UInt8) where
  size := 1
  vals s := [.string ⟨s.toArray⟩]
  held _ _ := True
theorem strKind_ok : strKind.Ok :=
  ⟨by decide, fun _ => rfl, fun e u hu => by
    simp only [strKind, List.mem_cons, List.not_mem_nil, or_false] at hu
    subst hu
    rfl, fun _ _ => trivial⟩
theorem strs_at {w : World} {ao : Option Addr} {n c : Nat} {ns : List (List UInt8)} (h : RSrc strKind w ao n c ns) (hn : 0 < n) : ∃ b off, ao = some ⟨b, off, none⟩ ∧ b < w.heap.size ∧ ∀ i s, ns[i]? = some s → w.cell? ⟨b, off + i, none⟩ = some (.string ⟨s.toArray⟩) := by
  obtain ⟨b, off, h1, h2, h3⟩ := h.form strKind_ok hn
  refine ⟨b, off, h1, h2, fun i s hs => ?_⟩
  have := h3 i s hs 0 _ rfl
  simpa [strKind] using this
theorem RSrc.head {α : Type} {k : Kind α} (K : k.Ok) {w : World} {ao : Option Addr} {n c : Nat} {es : List α} (h : RSrc k w ao n c es) (m : Nat) (hm : m ≤ n) : RSrc k w ao m c (es.take m) :=
  ⟨by rw [List.length_take, h.len]; omega, Nat.le_trans hm h.cap, fun e => ⟨by have := (h.nil e).1; omega, (h.nil e).2⟩, fun ad had j u hu => by
    obtain ⟨i, q, e, rfl, hq, he, hv⟩ := rv_get K hu
    have hi : es[i]? = some e := by
      rw [List.getElem?_take] at he
      split at he
      · exact he
      · cases he
    exact h.cells ad had _ u ((rv_at K q hi hq).trans hv), fun e he => h.held e (List.mem_of_mem_take he)⟩
theorem RSrc.tail {α : Type} {k : Kind α} (K : k.Ok) {w : World} {b off n c : Nat} {es : List α} (h : RSrc k w (some ⟨b, off, none⟩) n c es) (m : Nat) (hm : m ≤ n) : RSrc k w (some ⟨b, off + m * k.size, none⟩) (n - m) (c - m) (es.drop m) := by
  have hl := h.len
  have hc := h.cap
  refine ⟨by rw [List.length_drop]; omega, by omega, fun e => (by cases e), fun ad had j u hu => ?_, fun e he => h.held e (List.mem_of_mem_drop he)⟩
  cases had
  obtain ⟨p, q, e, rfl, hq, he, hv⟩ := rv_get K hu
  rw [List.getElem?_drop] at he
  have h1 := h.cells _ rfl ((m + p) * k.size + q) u ((rv_at K q he hq).trans hv)
  rw [Addr.add_mid] at h1 ⊢
  rw [show off + m * k.size + (p * k.size + q) = off + ((m + p) * k.size + q) by rw [Nat.add_mul]; omega]
  exact h1
/-- Bytes as stage 1's texts have them. -/
theorem Src.sha {w : World} {ao : Option Addr} {m c : Nat} {l : List UInt8} (h : Src w ao m c l) : Sha.Src w ao m c l := ⟨h.len, h.cap, h.nil, h.cells⟩
/-- A leaf's hash, a node's, that of nothing. -/
def leafL (b : List UInt8) : List UInt8 := Sha.sum (0 :: b)
def nodeL (x y : List UInt8) : List UInt8 := Sha.sum (1 :: (x ++ y))
def nilL : List UInt8 := Sha.sum []
theorem leafL_len (b : List UInt8) : (leafL b).length = 32 := Sha.sum_length _
theorem nodeL_len (x y : List UInt8) : (nodeL x y).length = 32 := Sha.sum_length _
theorem nilL_len : nilL.length = 32 := Sha.sum_length _
def rootL (l : List (List UInt8)) : List UInt8 := Mt.root nodeL nilL l
theorem bv_zero : bv [0] = [Value.int .u8 0] := rfl
/-- A text as bytes. -/
theorem str_add (a b : List UInt8) : (⟨a.toArray⟩ : ByteArray) ++ ⟨b.toArray⟩ = ⟨(a ++ b).toArray⟩ := by
  apply ByteArray.ext
  simp
theorem rootL_len {es : List (List UInt8)} (h : ∀ e ∈ es, e.length ≤ 1099511627776) : (rootL es).length ≤ 1099511627776 := by
  match es, h with
  | [], _ => unfold rootL; rw [Mt.root_nil, nilL_len]; decide
  | [a], h => unfold rootL; rw [Mt.root_one]; exact h a (by simp)
  | a :: b :: t, _ => unfold rootL; rw [Mt.root_two nodeL nilL (by simp), nodeL_len]; decide
theorem strs_tail {w : World} {b off n c : Nat} {es : List (List UInt8)} (h : RSrc strKind w (some ⟨b, off, none⟩) n c es) (m : Nat) (hm : m ≤ n) : RSrc strKind w (some ⟨b, off + m, none⟩) (n - m) (c - m) (es.drop m) := by
  have := h.tail strKind_ok m hm
  rwa [show off + m * strKind.size = off + m from by simp [strKind]] at this
theorem info_partsS {P : Program} {t : TypeId} {z : Value} {s b : Nat} (h : (P.info? t).map (fun i => (i.zero, i.size, i.bytes)) = some (some z, s, b)) : ∃ i, P.info? t = some i ∧ i.zero = some z ∧ i.size = s ∧ i.bytes = b := by
  cases hi : P.info? t with
  | none => rw [hi] at h; cases h
  | some i =>
    rw [hi] at h
    simp only [Option.map_some, Option.some.injEq, Prod.mk.injEq] at h
    exact ⟨i, rfl, h.1, h.2.1, h.2.2⟩
theorem infoS : (Tryd.prog.info? 9).map (fun i => (i.zero, i.size, i.bytes)) = some (some (.string ⟨#[]⟩), 1, 16) := by kernel_rfl
theorem own_low {w : World} {B B' t k n : Nat} {v : Value} {xs : List Value} (h : w.ownsRow B t k v n xs) (hb : B' ≤ B) : w.ownsRow B' t k v n xs := by
  rcases h.2 with h0 | ⟨g, cap, cur, rfl, h1, r⟩
  · exact ⟨h.1, .inl h0⟩
  · exact ⟨h.1, .inr ⟨g, cap, cur, rfl, Nat.le_trans hb h1, r⟩⟩
theorem own_next {w w' : World} {B t k n : Nat} {v : Value} {xs : List Value} (h : w.ownsRow B t k v n xs) (hb : Below w.heap.size w w') : w'.ownsRow B t k v n xs := by
  rcases h.2 with h0 | ⟨g, cap, cur, rfl, h1, h2, r⟩
  · exact ⟨h.1, .inl h0⟩
  · exact ⟨h.1, .inr ⟨g, cap, cur, rfl, h1, (hb.block g (Array.getElem?_eq_some_iff.1 h2).1).trans h2, r⟩⟩
theorem own_is {w : World} {B t k n : Nat} {v : Value} {xs : List Value} (h : w.ownsRow B t k v n xs) : ∃ ao c, v = .slice ao n c := by
  rcases h.2 with ⟨rfl, rfl⟩ | ⟨g, cap, cur, rfl, _⟩
  · exact ⟨_, _, rfl⟩
  · exact ⟨_, _, rfl⟩
def pathL (es : List (List UInt8)) (i : Nat) : List (List UInt8) := Mt.path nodeL nilL es i
theorem pathL_len {es : List (List UInt8)} {i : Nat} (h : i < es.length) (hn : es.length ≤ 1099511627776) : (pathL es i).length ≤ 40 := by
  have h1 := (Mt.path_top nodeL nilL es.length es rfl i es[i] (List.getElem?_eq_getElem h)).1
  have h2 := Mt.sides_len es.length i h
  have h3 := Mt.lv_le (n := es.length) (j := 40) (by omega)
  unfold pathL
  omega
/-- A row of texts, and no error. -/
def RowA (w : World) (ps : List (List UInt8)) (e : Ending) (w' : World) : Prop := ∃ v, e = .returned (.tuple #[v, .int .i64 0]) ∧ w'.ownsRow w.heap.size 9 1 v ps.length (rv strKind ps) ∧ Below w.heap.size w w'
theorem step_append_recS {α : Type} {k : Kind α} (K : k.Ok) {P : Program} {w : World} {ops : Array Oper} {o : Oper} {a : Act} {C : Act → World → Prop} {Q : Exit → Act → World → Prop} {E : Prop} (hgd : o.guard = none) (s x : Operand) (t tF : TypeId)
    (ho : o.op = .call { callee := .builtin .append, args := #[s, x], argTypes := #[t, t] })
    (base : Nat) (i : TypeInfo) (z : Value) (bytes : Nat) (ht : P.underlying t = some (.slice tF)) (hi : P.info? tF = some i) (hz : i.zero = some z)
    (hsize : i.size = k.size) (hby : i.bytes = bytes) (hzs : z.cells.size = k.size)
    (v : Value) (n : Nat) (es : List α) (hs : a.eval s = v) (hown : w.ownsRow base tF k.size v n (rv k es))
    (ad : Addr) (c : Nat) (e : α) (hx : a.eval x = .slice (some ad) 1 c) (hcells : ∀ j u, (k.vals e)[j]? = some u → w.cell? (ad.add j) = some u)
    (hb : n + 1 ≤ maxLen) (hbytes : (n + 1) * bytes ≤ 140737488355328) (hbase : base ≤ w.heap.size)
    (h : ∀ v' w', w'.ownsRow base tF k.size v' (n + 1) (rv k (es ++ [e])) → w.grownBy w' v.ownBlock → C (a.put o.dst v') w') : if Region.wanted o (yielded ops a.tmps) = true then Oper.wp P o a w C Q else E := by
  have hw : Region.wanted o (yielded ops a.tmps) = true := by simp [Region.wanted, hgd]
  rw [if_pos hw]
  obtain ⟨v', w', hrun, h1, h2, _⟩ := run_append_own (P := P) w base t o.type tF i z k.size bytes ht hi hz hsize hby hzs K.pos v n (rv k es) hown ad 1 c (k.vals e) (by rw [K.len, Nat.one_mul]) hcells (K.one e) hb hbytes hbase
  unfold Oper.wp
  simp [execOp, ho, resolve, invoke, builtin, hs, hx, hrun, Result.andThen]
  refine h v' w' ?_ h2
  rw [rv_append]
  simpa [rv] using h1
def subL (m : Nat) (es : List (List UInt8)) (own : Bool) : List (List UInt8) := Mt.sub nodeL nilL m es own
theorem subL_len {es : List (List UInt8)} {m : Nat} {own : Bool} (h1 : 1 ≤ m) (h : m ≤ es.length) (hn : es.length ≤ 1099511627776) : (subL m es own).length ≤ 41 := by
  have h2 := Mt.sub_len nodeL nilL es.length es rfl m own h1 h
  have h3 := Mt.lv_le (n := es.length) (j := 40) (by omega)
  unfold subL
  omega
theorem own_one {w : World} {B t : Nat} {u : Value} (h : B ≤ w.heap.size) : (w.alloc (.cells #[u] t)).ownsRow B t 1 (.slice (some ⟨w.heap.size, 0, none⟩) 1 1) 1 [u] :=
  ⟨by simp, .inr ⟨_, _, _, rfl, h, heap_alloc_new w _, Nat.le_refl _, by decide, by simp, by simp⟩⟩
/-- A row of texts. -/
def RowR (w : World) (ps : List (List UInt8)) (e : Ending) (w' : World) : Prop := ∃ v, e = .returned v ∧ w'.ownsRow w.heap.size 9 1 v ps.length (rv strKind ps) ∧ Below w.heap.size w w'
def proofL (es : List (List UInt8)) (m : Nat) : List (List UInt8) := subL m es true
theorem below_cell {w w' : World} (hb : Below w.heap.size w w') {p : Addr} {v : Value} (h : w.cell? p = some v) : w'.cell? p = some v := by rw [hb.cell (World.block_lt_of_cell? w _ h)]; exact h
/-- Have all 32 bytes? -/
def wholeL (es : List (List UInt8)) : Bool := es.all fun s => decide (s.length = 32)
theorem wholeL_more {es : List (List UInt8)} {k : Nat} {s : List UInt8} (h : es[k]? = some s) : wholeL (es.take (k + 1)) = (wholeL (es.take k) && decide (s.length = 32)) := by
  unfold wholeL
  rw [List.take_add_one, h, List.all_append]
  simp
theorem wholeL_no {es : List (List UInt8)} {k : Nat} {s : List UInt8} (h : es[k]? = some s) (hs : ¬ s.length = 32) : wholeL es = false := by
  unfold wholeL
  rw [List.all_eq_false]
  exact ⟨s, List.mem_of_getElem? h, by simpa using hs⟩
/-- Yes or no, as records of one cell. -/
def boolKind : Kind Bool where
  size := 1
  vals b := [.bool b]
  held _ _ := True
theorem boolKind_ok : boolKind.Ok :=
  ⟨by decide, fun _ => rfl, fun e u hu => by
    simp only [boolKind, List.mem_cons, List.not_mem_nil, or_false] at hu
    subst hu
    rfl, fun _ _ => trivial⟩
theorem bools_at {w : World} {ao : Option Addr} {n c : Nat} {ns : List Bool} (h : RSrc boolKind w ao n c ns) (hn : 0 < n) : ∃ b off, ao = some ⟨b, off, none⟩ ∧ b < w.heap.size ∧ ∀ i s, ns[i]? = some s → w.cell? ⟨b, off + i, none⟩ = some (.bool s) := by
  obtain ⟨b, off, h1, h2, h3⟩ := h.form boolKind_ok hn
  refine ⟨b, off, h1, h2, fun i s hs => ?_⟩
  have := h3 i s hs 0 _ rfl
  simpa [boolKind] using this
theorem infoB : (Tryd.prog.info? 4).map (fun i => (i.zero, i.size, i.bytes)) = some (some (.bool false), 1, 1) := by kernel_rfl
/-- A row of sides. -/
def SideR (w : World) (ps : List Bool) (e : Ending) (w' : World) : Prop := ∃ v, e = .returned v ∧ w'.ownsRow w.heap.size 4 1 v ps.length (rv boolKind ps) ∧ Below w.heap.size w w'
theorem climb_snoc {α : Type} (nd : α → α → α) : ∀ (x : α) (s : List Bool) (p : List α) (b : Bool) (q : α), s.length = p.length → Mt.climb nd x (s ++ [b]) (p ++ [q]) = Mt.climb nd x s p ++ [Mt.up nd (Mt.top nd x s p) b q]
  | x, [], [], b, q, _ => rfl
  | x, c :: s, r :: p, b, q, h => by
    have := climb_snoc nd (Mt.up nd x c r) s p b q (by simpa using h)
    simp only [List.cons_append, Mt.climb, this]
    rfl
  | _, [], _ :: _, _, _, h => by simp at h
  | _, _ :: _, [], _, _, h => by simp at h
theorem top_len {x : List UInt8} (hx : x.length ≤ 1099511627776) : ∀ (s : List Bool) (p : List (List UInt8)), (Mt.top nodeL x s p).length ≤ 1099511627776 := by
  have h : ∀ (l : List (Bool × List UInt8)) (x : List UInt8), x.length ≤ 1099511627776 → (l.foldl (fun x q => Mt.up nodeL x q.1 q.2) x).length ≤ 1099511627776 := by
    intro l
    induction l with
    | nil => intro x hx; exact hx
    | cons a t ih =>
      intro x _
      refine ih _ ?_
      show (Mt.up nodeL x a.1 a.2).length ≤ _
      unfold Mt.up
      split <;> rw [nodeL_len] <;> decide
  exact fun s p => h _ x hx
theorem take_snoc {α : Type} {l : List α} {k : Nat} {a : α} (h : l[k]? = some a) : l.take (k + 1) = l.take k ++ [a] := by rw [List.take_add_one, h]; rfl
/-- Is a path within what may be asked? -/
def inRange (i n : Int) : Bool := decide (1 ≤ n) && (decide (n ≤ 1099511627776) && (decide (0 ≤ i) && decide (i < n)))
/-- Is a path taken, of a place within range? -/
def pathOk (leaf : List UInt8) (i n : Nat) (ps : List (List UInt8)) (rt : List UInt8) : Bool :=
  decide (ps.length = (Mt.sides i n).length) && (wholeL ps && (wholeL [leaf, rt] && decide (Mt.top nodeL leaf (Mt.sides i n) ps = rt)))
/-- What CheckPath answers. -/
def checkP (leaf : List UInt8) (i n : Int) (ps : List (List UInt8)) (rt : List UInt8) : Int := if inRange i n then (if pathOk leaf i.toNat n.toNat ps rt then 0 else 9) else 8
theorem wholeL_mem {es : List (List UInt8)} (h : wholeL es = true) : ∀ e ∈ es, e.length = 32 := by
  unfold wholeL at h
  rw [List.all_eq_true] at h
  exact fun e he => by simpa using h e he
theorem two_texts (w : World) (n n2 : List UInt8) : RSrc strKind (w.alloc (.cells #[.string ⟨n.toArray⟩, .string ⟨n2.toArray⟩] 9)) (some ⟨w.heap.size, 0, none⟩) 2 2 [n, n2] := by
  have h : (w.alloc (.cells #[.string ⟨n.toArray⟩, .string ⟨n2.toArray⟩] 9)).ownsRow w.heap.size 9 1 (.slice (some ⟨w.heap.size, 0, none⟩) 2 2) 2 (rv strKind [n, n2]) :=
    ⟨by simp [rv, strKind], .inr ⟨_, _, _, rfl, Nat.le_refl _, heap_alloc_new w _, Nat.le_refl _, by decide, by simp, by simp [rv, strKind]⟩⟩
  obtain ⟨ao, c, e, hr, _⟩ := RSrc.own strKind_ok h (fun _ _ => trivial)
  obtain ⟨e1, _, e3⟩ := Value.slice.inj e
  subst e1
  subst e3
  exact hr
theorem addr_block (ad : Addr) (j : Nat) : (ad.add j).block = ad.block := by unfold Addr.add; split <;> rfl
theorem strs_z {z : Nat} {w w' : World} {ao : Option Addr} {n c : Nat} {es : List (List UInt8)} (h : RSrc strKind w ao n c es) (hz : ∀ ad, ao = some ad → ad.block < z) (hb : Below z w w') : RSrc strKind w' ao n c es :=
  ⟨h.len, h.cap, h.nil, fun ad had j u hu => by
    have h1 := h.cells ad had j u hu
    rw [hb.cell (p := ad.add j) (by rw [addr_block]; exact hz ad had)]
    exact h1, fun _ _ => trivial⟩
theorem put_row {w : World} {b : Nat} {c : Array Value} {t : TypeId} (h : w.heap[b]? = some (.cells c t (0, 0))) (i : Nat) (v : Value) : (w.setCell ⟨b, i, none⟩ v).heap[b]? = some (.cells (c.setIfInBounds i v) t (0, 0)) := by
  rw [setCell_eq_setRow w b i c t (0, 0) v h]; exact setRow_heap w b c _ t (0, 0) h
theorem nx_len {s : List (List UInt8) × Bool} (h : ∀ e ∈ s.1, e.length ≤ 1099511627776) : (Mt.nx [] s).1.length ≤ 1099511627776 ∧ ∀ e ∈ (Mt.nx [] s).2.1, e.length ≤ 1099511627776 := by
  obtain ⟨l, b⟩ := s
  cases l with
  | nil => exact ⟨Nat.zero_le _, fun e he => by cases he⟩
  | cons a r => exact ⟨h a (by simp), fun e he => h e (List.mem_cons_of_mem _ he)⟩
def short (l : List (List UInt8)) : Prop := ∀ e ∈ l, e.length ≤ 1099511627776
theorem walk_len : ∀ (n m : Nat) (own : Bool) (old : List UInt8) (s : List (List UInt8) × Bool), 1 ≤ m → m ≤ n → short s.1 → old.length ≤ 1099511627776 →
    ((Mt.walk nodeL [] m n own old s).1.1.length ≤ 1099511627776 ∧ (Mt.walk nodeL [] m n own old s).1.2.length ≤ 1099511627776) ∧ short (Mt.walk nodeL [] m n own old s).2.1 := by
  intro n
  induction n using Nat.strongRecOn with
  | _ n ih =>
    intro m own old s h1 hmn hs ho
    by_cases hm : m = n
    · rw [Mt.walk_all nodeL [] hm]
      cases own with
      | true => exact ⟨⟨ho, ho⟩, hs⟩
      | false => exact ⟨⟨(nx_len hs).1, (nx_len hs).1⟩, (nx_len hs).2⟩
    · have hlt := Mt.cut_lt (n := n) (by omega)
      have hpo := Mt.cut_pos n
      by_cases hk : m ≤ Mt.cut n
      · have h3 := ih (Mt.cut n) hlt m own old s h1 hk hs ho
        rw [Mt.walk_left nodeL [] (by omega) h1 hk]
        exact ⟨⟨h3.1.1, by rw [nodeL_len]; decide⟩, (nx_len h3.2).2⟩
      · have h3 := ih (n - Mt.cut n) (by omega) (m - Mt.cut n) false old s (by omega) (by omega) hs ho
        rw [Mt.walk_right nodeL [] (by omega) h1 hk]
        exact ⟨⟨by rw [nodeL_len]; decide, by rw [nodeL_len]; decide⟩, (nx_len h3.2).2⟩
def inRangeF (m n : Int) : Bool := decide (1 ≤ m) && (decide (m ≤ n) && decide (n ≤ 1099511627776))
/-- Is a proof taken, of numbers within range? -/
def proofOk (m n : Nat) (ps : List (List UInt8)) (old rt : List UInt8) : Bool :=
  !(Mt.walk nodeL [] m n true old (ps, false)).2.2 && (decide ((Mt.walk nodeL [] m n true old (ps, false)).2.1.length = 0) && (wholeL ps && (wholeL [old, rt] && (decide ((Mt.walk nodeL [] m n true old (ps, false)).1.1 = old) && decide ((Mt.walk nodeL [] m n true old (ps, false)).1.2 = rt)))))
/-- What CheckProof answers. -/
def checkF (m n : Int) (ps : List (List UInt8)) (old rt : List UInt8) : Int := if inRangeF m n then (if proofOk m.toNat n.toNat ps old rt then 0 else 9) else 8
/-- What is summed at a place. -/
def inp (b : Bool) (x q : List UInt8) : List UInt8 := if b then x ++ q else q ++ x
def Xs (a : List UInt8) (S : List Bool) (ps : List (List UInt8)) (j : Nat) : List UInt8 := Mt.top nodeL a (S.take j) (ps.take j)
def Is (a : List UInt8) (S : List Bool) (ps : List (List UInt8)) (j : Nat) : List UInt8 := inp (S.getD j false) (Xs a S ps j) (ps.getD j [])
/-- The two texts that two climbs tell. -/
def collS (S : List Bool) (a : List UInt8) (pa : List (List UInt8)) (b : List UInt8) (pb : List (List UInt8)) (n : Nat) : Option (List UInt8 × List UInt8) := Mt.coll (Xs a S pa) (Xs b S pb) (Is a S pa) (Is b S pb) n
def collOk (i n : Int) (a : List UInt8) (pa : List (List UInt8)) (b : List UInt8) (pb : List (List UInt8)) : Bool :=
  inRange i n && (!decide (a = b) && (decide (pa.length = (Mt.sides i.toNat n.toNat).length) && (decide (pb.length = (Mt.sides i.toNat n.toNat).length) && (wholeL pa && (wholeL pb && wholeL [a, b])))))
def collL (i n : Int) (a : List UInt8) (pa : List (List UInt8)) (b : List UInt8) (pb : List (List UInt8)) : Option (List UInt8 × List UInt8) :=
  if collOk i n a pa b pb then collS (Mt.sides i.toNat n.toNat) a pa b pb (Mt.sides i.toNat n.toNat).length else none
/-- What Collide answers. -/
def ColA (w : World) (r : Option (List UInt8 × List UInt8)) (e : Ending) (w' : World) : Prop :=
  (match r with
   | none => e = .returned (.tuple #[.slice none 0 0, .slice none 0 0, .bool false])
   | some (l, q) => ∃ a1 m1 c1 a2 m2 c2, e = .returned (.tuple #[.slice a1 m1 c1, .slice a2 m2 c2, .bool true]) ∧ Src w' a1 m1 c1 (1 :: l) ∧ Src w' a2 m2 c2 (1 :: q)) ∧ Below w.heap.size w w'
theorem ColA.no {w w' : World} {r : Option (List UInt8 × List UInt8)} (h : r = none) (hb : Below w.heap.size w w') : ColA w r (.returned (.tuple #[.slice none 0 0, .slice none 0 0, .bool false])) w' := by
  subst h
  exact ⟨rfl, hb⟩
theorem collOk_parts {i n : Int} {a b : List UInt8} {pa pb : List (List UInt8)} (h : collOk i n a pa b pb = false) : collL i n a pa b pb = none := by unfold collL; rw [h]; rfl
set_option maxHeartbeats 4000000 in
set_option maxRecDepth 100000 in
theorem rcollide_loop (a b : List UInt8) (L : Nat) (S : List Bool) (pa pb : List (List UInt8)) (hS : S.length = L) (hpa : pa.length = L) (hpb : pb.length = L) (j : Nat) (hj : j < L) :
    ∃ sb x q y r, S[j]? = some sb ∧ pa[j]? = some q ∧ pb[j]? = some r ∧ Xs a S pa j = x ∧ Xs b S pb j = y ∧ Is a S pa j = inp sb x q ∧ Is b S pb j = inp sb y r := by
  obtain ⟨sb, h1⟩ : ∃ sb, S[j]? = some sb := ⟨S[j]'(by omega), List.getElem?_eq_getElem _⟩
  obtain ⟨q, h2⟩ : ∃ q, pa[j]? = some q := ⟨pa[j]'(by omega), List.getElem?_eq_getElem _⟩
  obtain ⟨r, h3⟩ : ∃ r, pb[j]? = some r := ⟨pb[j]'(by omega), List.getElem?_eq_getElem _⟩
  exact ⟨sb, _, q, _, r, h1, h2, h3, rfl, rfl, by unfold Is; rw [List.getD_eq_getElem?_getD, List.getD_eq_getElem?_getD, h1, h2]; rfl, by unfold Is; rw [List.getD_eq_getElem?_getD, List.getD_eq_getElem?_getD, h1, h3]; rfl⟩
/-- Byte slices as records of one cell. -/
structure ByteE where
  ptr : Option Addr
  cap : Nat
  bytes : List UInt8
def byteKind : Kind ByteE where
  size := 1
  vals e := [.slice e.ptr e.bytes.length e.cap]
  held w e := Src w e.ptr e.bytes.length e.cap e.bytes
theorem byteKind_ok : byteKind.Ok :=
  ⟨by decide, fun _ => rfl, fun e u hu => by
    simp only [byteKind, List.mem_cons, List.not_mem_nil, or_false] at hu
    rw [hu]; rfl, fun h hb => Src.below h hb⟩
theorem slices_at {w : World} {ao : Option Addr} {n c : Nat} {ns : List ByteE} (h : RSrc byteKind w ao n c ns) (hn : 0 < n) : ∃ b off, ao = some ⟨b, off, none⟩ ∧ b < w.heap.size ∧ ∀ i s, ns[i]? = some s → w.cell? ⟨b, off + i, none⟩ = some (.slice s.ptr s.bytes.length s.cap) := by
  obtain ⟨b, off, h1, h2, h3⟩ := h.form byteKind_ok hn
  refine ⟨b, off, h1, h2, fun i s hs => ?_⟩
  have := h3 i s hs 0 _ rfl
  simpa [byteKind] using this
/-- The hashes of the first leaves. -/
def leavesL (es : List ByteE) : List (List UInt8) := (es.take 70).map fun e => leafL e.bytes
end Go.Proofs.YtdgfbbaddoghaaaDoor
