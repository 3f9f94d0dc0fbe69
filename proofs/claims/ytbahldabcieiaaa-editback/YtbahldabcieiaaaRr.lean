/- Rows of records: heads, tails, what is appended at a drawn step; no walk. -/
import Derived.Test.YtbahldabcieiaaaH8
import Derived.Test.YtbahldabcieiaaaXn
import Derived.Deep.AppendLies
import Derived.Laws.AppendOwnNone
namespace Go.Proofs.Ytbahldabcieiaaa
open Go.RowKit
open Ed (Nt)

theorem RSrc.head {α : Type} {k : Kind α} (K : k.Ok) {w : World} {ao : Option Addr} {n c : Nat} {es : List α} (h : RSrc k w ao n c es) (m : Nat) (hm : m ≤ n) : RSrc k w ao m c (es.take m) :=
  ⟨by rw [List.length_take, h.len]; omega, Nat.le_trans hm h.cap, fun e => ⟨by have := (h.nil e).1; omega, (h.nil e).2⟩, fun ad had j u hu => by
    obtain ⟨i, q, e, rfl, hq, he, hv⟩ := rv_get K hu
    have hi : es[i]? = some e := by
      rw [List.getElem?_take] at he
      split at he
      · exact he
      · cases he
    exact h.cells ad had _ u ((rv_at K q hi hq).trans hv), fun e he => h.held e (List.mem_of_mem_take he)⟩
theorem RSrc.tail {α : Type} {k : Kind α} (K : k.Ok) {w : World} {b off n c : Nat} {es : List α} (h : RSrc k w (some ⟨b, off, none⟩) n c es) (m : Nat) (hm : m ≤ n) : RSrc k w (some ⟨b, off + m * k.size, none⟩) (n - m) (c - m) (es.drop m) := by
  have hl := h.len
  have hc := h.cap
  refine ⟨by rw [List.length_drop]; omega, by omega, fun e => (by cases e), fun ad had j u hu => ?_, fun e he => h.held e (List.mem_of_mem_drop he)⟩
  cases had
  obtain ⟨p, q, e, rfl, hq, he, hv⟩ := rv_get K hu
  rw [List.getElem?_drop] at he
  have h1 := h.cells _ rfl ((m + p) * k.size + q) u ((rv_at K q he hq).trans hv)
  rw [Addr.add_mid] at h1 ⊢
  rw [show off + m * k.size + (p * k.size + q) = off + ((m + p) * k.size + q) by rw [Nat.add_mul]; omega]
  exact h1
/-- Where blocks are as they were, but for one of another kind. -/
theorem RSrc.grown {α : Type} {k : Kind α} {w w' : World} {ao : Option Addr} {n c : Nat} {es : List α} {row : Option Nat} (h : RSrc k w ao n c es) (hg : w.grownBy w' row) (hf : ∀ ad, ao = some ad → some ad.block ≠ row) (hh : ∀ e ∈ es, k.held w' e) : RSrc k w' ao n c es :=
  ⟨h.len, h.cap, h.nil, fun ad had j u hu => by
    have h1 := h.cells ad had j u hu
    have hb : (ad.add j).block = ad.block := by first | rfl | (unfold Addr.add; split <;> rfl) | simp [Addr.add]
    rw [World.cell?_of_block (w := w) (hg.block _ (World.block_lt_of_cell? w _ h1) (by rw [hb]; exact hf ad had))]
    exact h1, hh⟩
theorem own_sliceM {w : World} {B t k n : Nat} {v : Value} {xs : List Value} (h : w.ownsRow B t k v n xs) : ∃ ao c, v = .slice ao n c := by
  rcases h.2 with ⟨rfl, rfl⟩ | ⟨g, cap, cur, rfl, _⟩
  · exact ⟨_, _, rfl⟩
  · exact ⟨_, _, rfl⟩
theorem step_append_rows {P : Program} {w : World} {ops : Array Oper} {o : Oper} {a : Act} {K : Act → World → Prop} {Q : Exit → Act → World → Prop} {E : Prop} (hgd : o.guard = none) (s x : Operand) (t : TypeId)
    (ho : o.op = .call { callee := .builtin .append, args := #[s, x], argTypes := #[t, t] })
    (base : Nat) (e : TypeId) (i : TypeInfo) (z : Value) (size bytes : Nat) (ht : P.underlying t = some (.slice e)) (hi : P.info? e = some i) (hz : i.zero = some z)
    (hsize : i.size = size) (hby : i.bytes = bytes) (hzs : z.cells.size = size) (hsz : 0 < size)
    (v : Value) (n : Nat) (xs : List Value) (hs : a.eval s = v) (hown : w.ownsRow base e size v n xs)
    (ao : Option Addr) (m c : Nat) (news : List Value) (hx : a.eval x = .slice ao m c) (hnil : ao = none → m = 0 ∧ c = 0) (hl : news.length = m * size) (hnews : ∀ ad, ao = some ad → ∀ j u, news[j]? = some u → w.cell? (ad.add j) = some u) (h1 : ∀ u ∈ news, u.oneCell' = true)
    (h63 : n + m ≤ maxLen) (hbytes : (n + m) * bytes ≤ 140737488355328) (hbase : base ≤ w.heap.size)
    (h : ∀ a' cap w', w'.ownsRow base e size (.slice a' (n + m) cap) (n + m) (xs ++ news) → w.grownBy w' v.ownBlock → K (a.put o.dst (.slice a' (n + m) cap)) w') :
    if Region.wanted o (yielded ops a.tmps) = true then Oper.wp P o a w K Q else E := by
  have hw : Region.wanted o (yielded ops a.tmps) = true := by simp [Region.wanted, hgd]
  rw [if_pos hw]
  cases ao with
  | some ad =>
    obtain ⟨v', w', hr, h2, h3, _, _⟩ := run_append_own_at (P := P) w base t o.type e i z size bytes ht hi hz hsize hby hzs hsz v n xs hown ad m c news hl (hnews ad rfl) h1 h63 hbytes hbase
    obtain ⟨a', c', rfl⟩ := own_sliceM h2
    unfold Oper.wp execOp
    simp only [ho, resolve, invoke, builtin, Sem.run_bind, Sem.run_pure, Result.andThen_ok, List.map_toArray, List.map_cons, List.map_nil, hs, hx, hr]
    exact h a' c' w' h2 h3
  | none =>
    obtain ⟨rfl, rfl⟩ := hnil rfl
    obtain rfl : news = [] := List.length_eq_zero_iff.1 (by rw [hl, Nat.zero_mul])
    have hrun := run_append_owned_none (P := P) (w := w) base t o.type e i size ht hi v n xs hown
    obtain ⟨a', c', rfl⟩ := own_sliceM hown
    unfold Oper.wp
    simp [execOp, ho, resolve, invoke, builtin, hs, hx, hrun, Result.andThen]
    exact h a' c' w (by rw [List.append_nil]; exact hown) (World.grownBy.refl _ _)
theorem own_apartT {w w' : World} {B B' t t' k k' n n' : Nat} {u v : Value} {xs ys : List Value} (hu : w.ownsRow B t k u n xs) (hv : w.ownsRow B' t' k' v n' ys) (hg : w.grownBy w' v.ownBlock) (ht : t ≠ t') : w'.ownsRow B t k u n xs :=
  own_block hu (fun j hj => hg.block j (own_size hu hj) (fun e => by
    obtain ⟨c1, h1⟩ := own_tag hu hj
    obtain ⟨c2, h2⟩ := own_tag hv e.symm
    rw [h1] at h2
    cases h2
    exact ht rfl))
theorem RSrc.built1M {w : World} {x : MV} {t : TypeId} (hx : metaKind.held w x) : RSrc metaKind (w.alloc (.cells (metaKind.vals x).toArray t)) (some ⟨w.heap.size, 0, none⟩) 1 1 [x] :=
  ⟨rfl, Nat.le_refl _, fun e => (by cases e), fun ad had j u hu => by
    cases had
    have h1 : (metaKind.vals x)[j]? = some u := by simpa [rv] using hu
    exact rec_cells (k := metaKind) w t x j u h1, fun e he => by
    rw [List.mem_singleton.1 he]
    exact metaKind_ok.below hx ((Below.refl _ _).alloc (Nat.le_refl _) _)⟩
end Go.Proofs.Ytbahldabcieiaaa
