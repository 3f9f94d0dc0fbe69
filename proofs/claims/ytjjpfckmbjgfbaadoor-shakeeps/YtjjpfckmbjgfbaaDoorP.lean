/- append behind a slice whose room is full; no walk. -/
import Derived.Test.YtjjpfckmbjgfbaaDoorZ
import Derived.Deep.AppendSrc
import Derived.Deep.Upon
import Derived.Deep.DeepAppendWide
namespace Go.Proofs.YtjjpfckmbjgfbaaDoor
open Go.RowKit

theorem run_append_full {P : Program} (w : World) (t tx ty : TypeId) (i : TypeInfo) (z : Value) (ht : P.underlying t = some (.slice 5)) (hi : P.info? 5 = some i) (hz : i.zero = some z) (hz1 : i.size = 1) (hz2 : i.bytes = 1)
    (ad : Addr) (n m : Nat) (k l : List UInt8) (x : Value) (hk : Src w (some ad) n n k) (hx : _root_.Go.Src P 1 tx x m (bv l) w) (hb : n + m ≤ 140737488355328) :
    ∃ ao c w', (Builtin.append_ #[t, tx] ty #[.slice (some ad) n n, x]).run P w = .ok (.slice ao (n + m) c) w' ∧ Src w' ao (n + m) c (k ++ l) ∧ c ≤ maxLen ∧ Below w.heap.size w w' := by
  have hll : l.length = m := by have := hx.newsLen; rw [bv_length] at this; omega
  have hx' : _root_.Go.Src P i.size tx x m (bv l) w := by rw [hz1]; exact hx
  rcases Nat.eq_zero_or_pos m with h0 | h0
  · subst h0
    have hl : l = [] := List.length_eq_zero_iff.1 hll
    subst hl
    have := run_append_nothing w t tx ty 5 i ht hi (some ad) n n (Nat.le_refl _) x hx'
    refine ⟨some ad, n, w, this, by simpa using hk, ?_, Below.refl _ _⟩
    unfold maxLen
    omega
  · have hold : (Builtin.firstCells i.size n (.slice (some ad) n n)).run P w.drew = .ok (bv k).toArray w.drew := by
      rw [hz1]
      exact run_firstCells_some w.drew 1 n ad n n (bv k) (by rw [bv_length, hk.len]; omega) (hk.cells ad rfl)
    have hfit : Builtin.nextslicecap (n + m) n * i.bytes ≤ 281474976710656 := by
      rw [hz2]
      exact growslice_fits_wide (by omega) (by omega)
    have hrun := run_append_grow_src w t tx ty 5 i z ht hi hz (some ad) n n (bv k) hold x m (bv l) hx' (by omega) (by omega) hfit
    refine ⟨_, _, _, hrun, ?_, grownCap_le_maxLen _ _ _ _ (by unfold maxLen; omega), (Below.refl _ _).drew.alloc (Nat.le_refl _) _⟩
    refine ⟨by rw [List.length_append, hk.len, hll], grownCap_ge _ _ _ _, (fun h => by cases h), fun a2 ha j u hu => ?_⟩
    cases ha
    have hh : (w.drew.alloc (.cells ((bv k ++ bv l).toArray ++ Builtin.zeroCells z.cells (grownCap w (n + m) n 5 - (n + m))) 5)).heap[w.heap.size]? = some (.cells ((bv k ++ bv l).toArray ++ Builtin.zeroCells z.cells (grownCap w (n + m) n 5 - (n + m))) 5) := heap_alloc_new w.drew _
    rw [Addr.add_mid, Nat.zero_add, cell_of_row _ w.heap.size _ _ _ _ hh]
    rw [bv_append] at hu
    rw [Array.getElem?_append_left (by
      have := (List.getElem?_eq_some_iff.1 hu).1
      rw [List.size_toArray]; exact this)]
    simpa using hu
theorem wpList_append_full {P : Program} {w : World} {ops : Array Oper} {rest : List Oper} {o : Oper} {a : Act} {Q : Exit → Act → World → Prop} (hgd : o.guard = none) (s x : Operand) (t tx : TypeId)
    (ho : o.op = .call { callee := .builtin .append, args := #[s, x], argTypes := #[t, tx] })
    (i : TypeInfo) (z : Value) (ht : P.underlying t = some (.slice 5)) (hi : P.info? 5 = some i) (hz : i.zero = some z) (hz1 : i.size = 1) (hz2 : i.bytes = 1)
    (ad : Addr) (n m : Nat) (k l : List UInt8) (v : Value) (hs : a.eval s = .slice (some ad) n n) (hk : Src w (some ad) n n k) (hv : a.eval x = v) (hx : _root_.Go.Src P 1 tx v m (bv l) w) (hb : n + m ≤ 140737488355328)
    (h : ∀ ao c w', Src w' ao (n + m) c (k ++ l) → c ≤ maxLen → Below w.heap.size w w' → wpList P ops Q rest (a.put o.dst (.slice ao (n + m) c)) w') : wpList P ops Q (o :: rest) a w := by
  refine wpList_plain hgd fun K hK => ?_
  obtain ⟨ao, c, w', hrun, h1, h2, h3⟩ := run_append_full w t tx o.type i z ht hi hz hz1 hz2 ad n m k l v hk hx hb
  unfold Oper.wp
  simp [execOp, ho, resolve, invoke, builtin, hs, hv, hrun, Result.andThen]
  exact hK _ _ (h ao c w' h1 h2 h3)
theorem Src.go {P : Program} {w : World} {tx : TypeId} (htx : P.underlying tx = some (.slice 5)) {ao : Option Addr} {m c : Nat} {l : List UInt8} (h : Src w ao m c l) : _root_.Go.Src P 1 tx (.slice ao m c) m (bv l) w := by
  cases ao with
  | none =>
    obtain ⟨rfl, rfl⟩ := h.nil rfl
    have hl : l = [] := List.length_eq_zero_iff.1 h.len
    subst hl
    exact _root_.Go.Src.ofNil w htx 0
  | some ad => exact _root_.Go.Src.ofSlice w htx ad m c (bv l) (by rw [bv_length, h.len]; omega) (h.cells ad rfl) (bv_one l)
theorem src_string {P : Program} {w : World} {tx : TypeId} (htx : P.underlying tx = some .string) (l : List UInt8) (m : Nat) (hm : l.length = m) : _root_.Go.Src P 1 tx (.string ⟨l.toArray⟩) m (bv l) w := by
  have := _root_.Go.Src.ofString (P := P) w htx ⟨l.toArray⟩
  subst hm
  have e : (⟨l.toArray⟩ : ByteArray).size = l.length := rfl
  rw [e] at this
  exact this
theorem u8_xor (a b : UInt8) : bits .xor .u8 (a.toNat : Int) (b.toNat : Int) = ((a ^^^ b).toNat : Int) := by
  rw [u8_xor_nat _ _ a.toNat_lt b.toNat_lt, UInt8.toNat_xor]
end Go.Proofs.YtjjpfckmbjgfbaaDoor
