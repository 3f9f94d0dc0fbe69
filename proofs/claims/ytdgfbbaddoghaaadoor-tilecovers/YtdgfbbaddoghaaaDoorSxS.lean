/- A slice of bytes that is read: nil, empty or with bytes; a law of append from such a slice; no walk. -/
import Derived.Test.YtdgfbbaddoghaaaDoorSxB
import Derived.Test.YtdgfbbaddoghaaaDoorSxT
import Derived.Laws.AppendOwnNone
namespace Go.Proofs.YtdgfbbaddoghaaaDoor.Sha
open Go.RowKit

/-- The slice (ao, m, c) holds the bytes l. -/
structure Src (w : World) (ao : Option Addr) (m c : Nat) (l : List UInt8) : Prop where
  len : l.length = m
  cap : m ≤ c
  nil : ao = none → m = 0 ∧ c = 0
  cells : ∀ ad, ao = some ad → ∀ j u, (bv l)[j]? = some u → w.cell? (ad.add j) = some u

theorem bv_at (l : List UInt8) (i : Nat) (h : i < l.length) : (bv l)[i]? = some (.int .u8 ((fn l i).toNat : Int)) := by
  simp [bv, fn, List.getD, h]
theorem Src.form {w : World} {ao : Option Addr} {m c : Nat} {l : List UInt8} (h : Src w ao m c l) (hm : 0 < m) : ∃ b off, ao = some ⟨b, off, none⟩ ∧ b < w.heap.size ∧ Bytes w b off m (fn l) := by
  cases ao with
  | none => have := (h.nil rfl).1; omega
  | some ad =>
    obtain ⟨b, off, spot⟩ := ad
    have h0 := h.cells _ rfl 0 _ (bv_at l 0 (by rw [h.len]; exact hm))
    have hspot : spot = none := by simpa [Addr.add] using World.cell?_spot h0
    subst hspot
    refine ⟨b, off, rfl, World.block_lt_of_cell? w _ h0, fun i hi => ?_⟩
    have := h.cells _ rfl i _ (bv_at l i (by rw [h.len]; exact hi))
    rwa [Addr.add_mid] at this
theorem Src.mk_bytes {w : World} {b off m c : Nat} {l : List UInt8} (hl : l.length = m) (hc : m ≤ c) (h : Bytes w b off m (fn l)) : Src w (some ⟨b, off, none⟩) m c l :=
  ⟨hl, hc, (fun h => by cases h), fun ad had j u hu => by
    cases had
    have hj : j < l.length := by
      have := (List.getElem?_eq_some_iff.1 hu).1
      rwa [bv_length] at this
    rw [bv_at l j hj] at hu
    cases hu
    rw [Addr.add_mid]
    exact h j (by omega)⟩
theorem Src.empty {w : World} {ao : Option Addr} {c : Nat} (h : ao = none → c = 0) : Src w ao 0 c [] :=
  ⟨rfl, Nat.zero_le _, fun e => ⟨rfl, h e⟩, fun _ _ j u hu => by simp [bv] at hu⟩
theorem Src.below {w w' : World} {ao : Option Addr} {m c : Nat} {l : List UInt8} (h : Src w ao m c l) (hb : Below w.heap.size w w') : Src w' ao m c l :=
  ⟨h.len, h.cap, h.nil, fun ad had j u hu => by
    have := h.cells ad had j u hu
    rw [hb.cell (World.block_lt_of_cell? w _ this)]
    exact this⟩
theorem Src.below' {w w' : World} {B : Nat} {ao : Option Addr} {m c : Nat} {l : List UInt8} (h : Src w ao m c l) (hB : ∀ a, ao = some a → 0 < m → a.block < B) (hb : Below B w w') : Src w' ao m c l :=
  ⟨h.len, h.cap, h.nil, fun ad had j u hu => by
    have := h.cells ad had j u hu
    have hm : 0 < m := by
      rcases Nat.eq_zero_or_pos m with h0 | h0
      · have hl : l = [] := List.length_eq_zero_iff.1 (by rw [h.len, h0])
        subst hl; simp [bv] at hu
      · exact h0
    have hblk : (ad.add j).block = ad.block := by unfold Addr.add; split <;> rfl
    rw [hb.cell (by rw [hblk]; exact hB ad had hm)]
    exact this⟩
theorem Src.owns {w : World} {base n cap g : Nat} {l : List UInt8} (h : w.ownsRow base 5 1 (.slice (some ⟨g, 0, none⟩) n cap) n (bv l)) : Src w (some ⟨g, 0, none⟩) n cap l :=
  ⟨by have := h.1; rw [bv_length] at this; omega, by
    rcases h.2 with ⟨h0, _⟩ | ⟨g', cap', cur, hv, _, _, hc, _⟩
    · cases h0
    · cases hv; exact hc, (fun e => by cases e), fun ad had j u hu => by cases had; exact h.cells rfl j u hu⟩

/-- append(v, x...), v nil or the call's own, x a slice of bytes that is read. -/
theorem wpList_append_src {P : Program} {w : World} {ops : Array Oper} {rest : List Oper} {o : Oper} {a : Act} {Q : Exit → Act → World → Prop} (hgd : o.guard = none) (s x : Operand) (t : TypeId)
    (ho : o.op = .call { callee := .builtin .append, args := #[s, x], argTypes := #[t, t] })
    (base : Nat) (i : TypeInfo) (z : Value) (ht : P.underlying t = some (.slice 5)) (hi : P.info? 5 = some i) (hz : i.zero = some z)
    (hsize : i.size = 1) (hby : i.bytes = 1) (hzs : z.cells.size = 1)
    (v : Value) (n : Nat) (k : List UInt8) (hs : a.eval s = v) (hown : w.ownsRow base 5 1 v n (bv k))
    (ao : Option Addr) (m c : Nat) (l : List UInt8) (hx : a.eval x = .slice ao m c) (hsrc : Src w ao m c l)
    (hbytes : n + m ≤ 140737488355328) (hbase : base ≤ w.heap.size)
    (h : ∀ v' w', w'.ownsRow base 5 1 v' (n + m) (bv (k ++ l)) → w.grownBy w' v.ownBlock → wpList P ops Q rest (a.put o.dst v') w') : wpList P ops Q (o :: rest) a w := by
  cases ao with
  | none =>
    obtain ⟨rfl, rfl⟩ := hsrc.nil rfl
    have hl : l = [] := List.length_eq_zero_iff.1 hsrc.len
    subst hl
    refine wpList_append_own_none hgd s x t ho base 5 i 1 ht hi v n (bv k) hs hown hx ?_
    exact h v w (by simpa using hown) (World.grownBy.refl _ _)
  | some ad =>
    refine wpList_append_own w hgd s x t ho base 5 i z 1 1 ht hi hz hsize hby hzs (by omega) v n (bv k) hs hown ad m c (bv l) hx (by rw [bv_length, hsrc.len]; omega) (hsrc.cells ad rfl) (bv_one l) (by unfold maxLen; omega) (by omega) hbase ?_
    intro v' w' h1 h2 _
    exact h v' w' (by rw [bv_append]; exact h1) h2
end Go.Proofs.YtdgfbbaddoghaaaDoor.Sha
