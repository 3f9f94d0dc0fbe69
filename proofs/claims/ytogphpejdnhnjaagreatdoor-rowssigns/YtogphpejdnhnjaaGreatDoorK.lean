/- Byte slices: those that are read, those that a call owns; laws of append; no walk. -/
import Derived.Test.YtogphpejdnhnjaaGreatDoorRows
import Derived.WalkKit
import Derived.WalkSpells
import Derived.WalkLawsBesides
import Derived.ProofKit
import Derived.Laws.BytesArg
import Derived.Laws.BitsAllLaws
import Derived.Laws.AppendOwnNone
import Derived.Deep.AppendLies
import Derived.Deep.AppendSrc
import Derived.Deep.Upon
import Derived.Deep.DeepAppendWide
import Derived.Deep.RegionLaw
import Derived.Lib.AppendStr
import Derived.Lib.ConvBytes
import Derived.Laws.CopyOwn
import Derived.Deep.MidRow
import Derived.Deep.RegionHeld3
import Derived.Lib.LazyBuf
namespace Go.Proofs.YtogphpejdnhnjaaGreatDoor
open Go.RowKit

theorem own : ownKnob Tryz.prog.godebug = none := by kernel_rfl
theorem info5 : (Tryz.prog.info? 5).map (fun i => (i.zero, i.size, i.bytes)) = some (some (.int .u8 0), 1, 1) := by kernel_rfl
theorem keep {p : Prop} (h : p) : Hid p := h
def fn (l : List UInt8) (i : Nat) : UInt8 := l.getD i 0
theorem fn_left (a b : List UInt8) (i : Nat) (h : i < a.length) : fn (a ++ b) i = fn a i := by
  unfold fn
  rw [List.getD_eq_getElem?_getD, List.getD_eq_getElem?_getD, List.getElem?_append_left h]
def Bytes (w : World) (b off n : Nat) (f : Nat → UInt8) : Prop := ∀ i, i < n → w.cell? ⟨b, off + i, none⟩ = some (.int .u8 ((f i).toNat : Int))
theorem wrap_small (x : Int) (h1 : -4611686018427387904 ≤ x) (h2 : x ≤ 4611686018427387904) : IntKind.i64.wrap x = x := by
  rw [IntKind.wrap_i64]
  omega

def bv (l : List UInt8) : List Value := l.map fun b => Value.int .u8 (b.toNat : Int)
theorem bv_append (a b : List UInt8) : bv (a ++ b) = bv a ++ bv b := by simp [bv]
theorem bv_length (a : List UInt8) : (bv a).length = a.length := by simp [bv]
theorem bv_one (a : List UInt8) : ∀ u ∈ bv a, u.oneCell' = true := by
  intro u hu
  obtain ⟨b, _, rfl⟩ := List.mem_map.1 hu
  rfl
theorem strOfNums_bytes (l : List UInt8) : strOfNums (l.map fun b => (b.toNat : Int)) = ⟨l.toArray⟩ := by
  unfold strOfNums
  congr 2
  rw [List.map_map]
  conv => rhs; rw [← List.map_id l]
  apply List.map_congr_left
  intro a _
  simp
/-- string(v) where the call owns v's bytes. -/
theorem conv_own {P : Program} {w : World} {base g n cap src dst e : Nat} {l : List UInt8} (hs : P.underlying src = some (.slice e)) (he : P.underlying e = some (.int .u8)) (hd : P.underlying dst = some .string)
    (h : w.ownsRow base e 1 (.slice (some ⟨g, 0, none⟩) n cap) n (bv l)) (hn : l.length = n) :
    (convert src dst (.slice (some ⟨g, 0, none⟩) n cap)).run P w = .ok (.string ⟨l.toArray⟩) w := by
  have := run_convert_bytes_arg (P := P) w src e hs he g 0 n cap (l.map fun b => (b.toNat : Int)) (by simpa using hn) (fun i hi => by
    have := h.cells (g := g) rfl i (.int .u8 ((l.map fun b => (b.toNat : Int)).getD i 0)) (by
      have : i < l.length := by omega
      simp [bv, List.getD, this])
    have hp : (⟨g, 0, none⟩ : Addr).add i = ⟨g, 0 + i, none⟩ := by unfold Addr.add; split <;> simp_all
    rwa [hp] at this) dst hd
  rwa [strOfNums_bytes] at this
theorem conv_any {P : Program} {w : World} {base n src dst e : Nat} {v : Value} {l : List UInt8} (hs : P.underlying src = some (.slice e)) (he : P.underlying e = some (.int .u8)) (hd : P.underlying dst = some .string)
    (h : w.ownsRow base e 1 v n (bv l)) (hn : l.length = n) : (convert src dst v).run P w = .ok (.string ⟨l.toArray⟩) w := by
  rcases h.2 with ⟨rfl, h0⟩ | ⟨g, cap, cur, rfl, _⟩
  · have : l = [] := List.length_eq_zero_iff.1 (by omega)
    subst this
    exact run_convert_bytes_nil w src e hs he 0 0 dst hd
  · exact conv_own hs he hd h hn

/-- The slice (ao, m, c) holds the bytes l. -/
structure Src (w : World) (ao : Option Addr) (m c : Nat) (l : List UInt8) : Prop where
  len : l.length = m
  cap : m ≤ c
  nil : ao = none → m = 0 ∧ c = 0
  cells : ∀ ad, ao = some ad → ∀ j u, (bv l)[j]? = some u → w.cell? (ad.add j) = some u

theorem bv_at (l : List UInt8) (i : Nat) (h : i < l.length) : (bv l)[i]? = some (.int .u8 ((fn l i).toNat : Int)) := by
  simp [bv, fn, List.getD, h]
theorem Src.form {w : World} {ao : Option Addr} {m c : Nat} {l : List UInt8} (h : Src w ao m c l) (hm : 0 < m) : ∃ b off, ao = some ⟨b, off, none⟩ ∧ b < w.heap.size ∧ Bytes w b off m (fn l) := by
  cases ao with
  | none => have := (h.nil rfl).1; omega
  | some ad =>
    obtain ⟨b, off, spot⟩ := ad
    have h0 := h.cells _ rfl 0 _ (bv_at l 0 (by rw [h.len]; exact hm))
    have hspot : spot = none := by simpa [Addr.add] using World.cell?_spot h0
    subst hspot
    refine ⟨b, off, rfl, World.block_lt_of_cell? w _ h0, fun i hi => ?_⟩
    have := h.cells _ rfl i _ (bv_at l i (by rw [h.len]; exact hi))
    rwa [Addr.add_mid] at this
theorem Src.mk_bytes {w : World} {b off m c : Nat} {l : List UInt8} (hl : l.length = m) (hc : m ≤ c) (h : Bytes w b off m (fn l)) : Src w (some ⟨b, off, none⟩) m c l :=
  ⟨hl, hc, (fun h => by cases h), fun ad had j u hu => by
    cases had
    have hj : j < l.length := by
      have := (List.getElem?_eq_some_iff.1 hu).1
      rwa [bv_length] at this
    rw [bv_at l j hj] at hu
    cases hu
    rw [Addr.add_mid]
    exact h j (by omega)⟩
theorem Src.empty {w : World} {ao : Option Addr} {c : Nat} (h : ao = none → c = 0) : Src w ao 0 c [] :=
  ⟨rfl, Nat.zero_le _, fun e => ⟨rfl, h e⟩, fun _ _ j u hu => by simp [bv] at hu⟩
theorem Src.below {w w' : World} {ao : Option Addr} {m c : Nat} {l : List UInt8} (h : Src w ao m c l) (hb : Below w.heap.size w w') : Src w' ao m c l :=
  ⟨h.len, h.cap, h.nil, fun ad had j u hu => by
    have := h.cells ad had j u hu
    rw [hb.cell (World.block_lt_of_cell? w _ this)]
    exact this⟩
theorem Src.below' {w w' : World} {B : Nat} {ao : Option Addr} {m c : Nat} {l : List UInt8} (h : Src w ao m c l) (hB : ∀ a, ao = some a → 0 < m → a.block < B) (hb : Below B w w') : Src w' ao m c l :=
  ⟨h.len, h.cap, h.nil, fun ad had j u hu => by
    have := h.cells ad had j u hu
    have hm : 0 < m := by
      rcases Nat.eq_zero_or_pos m with h0 | h0
      · have hl : l = [] := List.length_eq_zero_iff.1 (by rw [h.len, h0])
        subst hl; simp [bv] at hu
      · exact h0
    have hblk : (ad.add j).block = ad.block := by unfold Addr.add; split <;> rfl
    rw [hb.cell (by rw [hblk]; exact hB ad had hm)]
    exact this⟩
theorem Src.owns {w : World} {base n cap g : Nat} {l : List UInt8} (h : w.ownsRow base 5 1 (.slice (some ⟨g, 0, none⟩) n cap) n (bv l)) : Src w (some ⟨g, 0, none⟩) n cap l :=
  ⟨by have := h.1; rw [bv_length] at this; omega, by
    rcases h.2 with ⟨h0, _⟩ | ⟨g', cap', cur, hv, _, _, hc, _⟩
    · cases h0
    · cases hv; exact hc, (fun e => by cases e), fun ad had j u hu => by cases had; exact h.cells rfl j u hu⟩

/-- append(v, x...), v nil or the call's own, x a slice of bytes that is read. -/
theorem wpList_append_src {P : Program} {w : World} {ops : Array Oper} {rest : List Oper} {o : Oper} {a : Act} {Q : Exit → Act → World → Prop} (hgd : o.guard = none) (s x : Operand) (t : TypeId)
    (ho : o.op = .call { callee := .builtin .append, args := #[s, x], argTypes := #[t, t] })
    (base : Nat) (i : TypeInfo) (z : Value) (ht : P.underlying t = some (.slice 5)) (hi : P.info? 5 = some i) (hz : i.zero = some z)
    (hsize : i.size = 1) (hby : i.bytes = 1) (hzs : z.cells.size = 1)
    (v : Value) (n : Nat) (k : List UInt8) (hs : a.eval s = v) (hown : w.ownsRow base 5 1 v n (bv k))
    (ao : Option Addr) (m c : Nat) (l : List UInt8) (hx : a.eval x = .slice ao m c) (hsrc : Src w ao m c l)
    (hbytes : n + m ≤ 140737488355328) (hbase : base ≤ w.heap.size)
    (h : ∀ v' w', w'.ownsRow base 5 1 v' (n + m) (bv (k ++ l)) → w.grownBy w' v.ownBlock → wpList P ops Q rest (a.put o.dst v') w') : wpList P ops Q (o :: rest) a w := by
  cases ao with
  | none =>
    obtain ⟨rfl, rfl⟩ := hsrc.nil rfl
    have hl : l = [] := List.length_eq_zero_iff.1 hsrc.len
    subst hl
    refine wpList_append_own_none hgd s x t ho base 5 i 1 ht hi v n (bv k) hs hown hx ?_
    exact h v w (by simpa using hown) (World.grownBy.refl _ _)
  | some ad =>
    refine wpList_append_own w hgd s x t ho base 5 i z 1 1 ht hi hz hsize hby hzs (by omega) v n (bv k) hs hown ad m c (bv l) hx (by rw [bv_length, hsrc.len]; omega) (hsrc.cells ad rfl) (bv_one l) (by unfold maxLen; omega) (by omega) hbase ?_
    intro v' w' h1 h2 _
    exact h v' w' (by rw [bv_append]; exact h1) h2

theorem run_append_full {P : Program} (w : World) (t tx ty : TypeId) (i : TypeInfo) (z : Value) (ht : P.underlying t = some (.slice 5)) (hi : P.info? 5 = some i) (hz : i.zero = some z) (hz1 : i.size = 1) (hz2 : i.bytes = 1)
    (ad : Addr) (n m : Nat) (k l : List UInt8) (x : Value) (hk : Src w (some ad) n n k) (hx : _root_.Go.Src P 1 tx x m (bv l) w) (hb : n + m ≤ 140737488355328) :
    ∃ ao c w', (Builtin.append_ #[t, tx] ty #[.slice (some ad) n n, x]).run P w = .ok (.slice ao (n + m) c) w' ∧ Src w' ao (n + m) c (k ++ l) ∧ c ≤ maxLen ∧ Below w.heap.size w w' := by
  have hll : l.length = m := by have := hx.newsLen; rw [bv_length] at this; omega
  have hx' : _root_.Go.Src P i.size tx x m (bv l) w := by rw [hz1]; exact hx
  rcases Nat.eq_zero_or_pos m with h0 | h0
  · subst h0
    have hl : l = [] := List.length_eq_zero_iff.1 hll
    subst hl
    have := run_append_nothing w t tx ty 5 i ht hi (some ad) n n (Nat.le_refl _) x hx'
    refine ⟨some ad, n, w, this, by simpa using hk, ?_, Below.refl _ _⟩
    unfold maxLen
    omega
  · have hold : (Builtin.firstCells i.size n (.slice (some ad) n n)).run P w.drew = .ok (bv k).toArray w.drew := by
      rw [hz1]
      exact run_firstCells_some w.drew 1 n ad n n (bv k) (by rw [bv_length, hk.len]; omega) (hk.cells ad rfl)
    have hfit : Builtin.nextslicecap (n + m) n * i.bytes ≤ 281474976710656 := by
      rw [hz2]
      exact growslice_fits_wide (by omega) (by omega)
    have hrun := run_append_grow_src w t tx ty 5 i z ht hi hz (some ad) n n (bv k) hold x m (bv l) hx' (by omega) (by omega) hfit
    refine ⟨_, _, _, hrun, ?_, grownCap_le_maxLen _ _ _ _ (by unfold maxLen; omega), (Below.refl _ _).drew.alloc (Nat.le_refl _) _⟩
    refine ⟨by rw [List.length_append, hk.len, hll], grownCap_ge _ _ _ _, (fun h => by cases h), fun a2 ha j u hu => ?_⟩
    cases ha
    have hh : (w.drew.alloc (.cells ((bv k ++ bv l).toArray ++ Builtin.zeroCells z.cells (grownCap w (n + m) n 5 - (n + m))) 5)).heap[w.heap.size]? = some (.cells ((bv k ++ bv l).toArray ++ Builtin.zeroCells z.cells (grownCap w (n + m) n 5 - (n + m))) 5) := heap_alloc_new w.drew _
    rw [Addr.add_mid, Nat.zero_add, cell_of_row _ w.heap.size _ _ _ _ hh]
    rw [bv_append] at hu
    rw [Array.getElem?_append_left (by
      have := (List.getElem?_eq_some_iff.1 hu).1
      rw [List.size_toArray]; exact this)]
    simpa using hu
theorem wpList_append_full {P : Program} {w : World} {ops : Array Oper} {rest : List Oper} {o : Oper} {a : Act} {Q : Exit → Act → World → Prop} (hgd : o.guard = none) (s x : Operand) (t tx : TypeId)
    (ho : o.op = .call { callee := .builtin .append, args := #[s, x], argTypes := #[t, tx] })
    (i : TypeInfo) (z : Value) (ht : P.underlying t = some (.slice 5)) (hi : P.info? 5 = some i) (hz : i.zero = some z) (hz1 : i.size = 1) (hz2 : i.bytes = 1)
    (ad : Addr) (n m : Nat) (k l : List UInt8) (v : Value) (hs : a.eval s = .slice (some ad) n n) (hk : Src w (some ad) n n k) (hv : a.eval x = v) (hx : _root_.Go.Src P 1 tx v m (bv l) w) (hb : n + m ≤ 140737488355328)
    (h : ∀ ao c w', Src w' ao (n + m) c (k ++ l) → c ≤ maxLen → Below w.heap.size w w' → wpList P ops Q rest (a.put o.dst (.slice ao (n + m) c)) w') : wpList P ops Q (o :: rest) a w := by
  refine wpList_plain hgd fun K hK => ?_
  obtain ⟨ao, c, w', hrun, h1, h2, h3⟩ := run_append_full w t tx o.type i z ht hi hz hz1 hz2 ad n m k l v hk hx hb
  unfold Oper.wp
  simp [execOp, ho, resolve, invoke, builtin, hs, hv, hrun, Result.andThen]
  exact hK _ _ (h ao c w' h1 h2 h3)
theorem Src.go {P : Program} {w : World} {tx : TypeId} (htx : P.underlying tx = some (.slice 5)) {ao : Option Addr} {m c : Nat} {l : List UInt8} (h : Src w ao m c l) : _root_.Go.Src P 1 tx (.slice ao m c) m (bv l) w := by
  cases ao with
  | none =>
    obtain ⟨rfl, rfl⟩ := h.nil rfl
    have hl : l = [] := List.length_eq_zero_iff.1 h.len
    subst hl
    exact _root_.Go.Src.ofNil w htx 0
  | some ad => exact _root_.Go.Src.ofSlice w htx ad m c (bv l) (by rw [bv_length, h.len]; omega) (h.cells ad rfl) (bv_one l)
theorem src_string {P : Program} {w : World} {tx : TypeId} (htx : P.underlying tx = some .string) (l : List UInt8) (m : Nat) (hm : l.length = m) : _root_.Go.Src P 1 tx (.string ⟨l.toArray⟩) m (bv l) w := by
  have := _root_.Go.Src.ofString (P := P) w htx ⟨l.toArray⟩
  subst hm
  have e : (⟨l.toArray⟩ : ByteArray).size = l.length := rfl
  rw [e] at this
  exact this
theorem u8_xor (a b : UInt8) : bits .xor .u8 (a.toNat : Int) (b.toNat : Int) = ((a ^^^ b).toNat : Int) := by
  rw [u8_xor_nat _ _ a.toNat_lt b.toNat_lt, UInt8.toNat_xor]
/-- The same where a guard stands ahead of it, and says yes. -/
theorem wpList_append_own_string_if {P : Program} {w : World} {ops : Array Oper} {rest : List Oper} {o : Oper} {a : Act} {Q : Exit → Act → World → Prop} (hw : Region.wanted o (yielded ops a.tmps) = true) (sl x : Operand) (t u : TypeId)
    (ho : o.op = .call { callee := .builtin .append, args := #[sl, x], argTypes := #[t, u] })
    (base : Nat) (i : TypeInfo) (ht : P.underlying t = some (.slice 5)) (hu : P.underlying u = some .string) (hi : P.info? 5 = some i) (hz : i.zero = some (.int .u8 0))
    (hsize : i.size = 1) (hby : i.bytes = 1)
    (v : Value) (n : Nat) (k l : List UInt8) (m : Nat) (hs : a.eval sl = v) (hown : w.ownsRow base 5 1 v n (bv k)) (hx : a.eval x = .string ⟨l.toArray⟩) (hl : l.length = m)
    (hb : n + m ≤ 140737488355328) (hbase : base ≤ w.heap.size)
    (h : ∀ v' w', w'.ownsRow base 5 1 v' (n + m) (bv (k ++ l)) → w.grownBy w' v.ownBlock → wpList P ops Q rest (a.put o.dst v') w') : wpList P ops Q (o :: rest) a w := by
  subst hl
  refine BigFrame.wpList_want hw fun K hK => ?_
  have hsz : (⟨l.toArray⟩ : ByteArray).size = l.length := rfl
  obtain ⟨v', w', hrun, h1, h2, _⟩ := Lib.run_append_own_string (P := P) w base t u o.type 5 i ht hu hi hz hsize hby v n (bv k) hown ⟨l.toArray⟩ (by rw [hsz]; unfold maxLen; omega) (by rw [hsz]; omega) hbase
  unfold Oper.wp
  simp [execOp, ho, resolve, invoke, builtin, hs, hx, hrun, Result.andThen]
  exact hK _ _ (h v' w' (by rw [bv_append]; exact h1) h2)
theorem Src.converted (w : World) (l : List UInt8) (m : Nat) (hm : l.length = m) : Src (Lib.bytesWorld w 5 ⟨l.toArray⟩) (some ⟨w.heap.size, 0, none⟩) m (grownCap w m 0 5) l := by
  subst hm
  refine Src.mk_bytes rfl (grownCap_ge _ _ _ _) (fun i hi => ?_)
  have := Lib.bytesWorld_cell w 5 ⟨l.toArray⟩ i hi
  rw [Nat.zero_add, this]
  rfl
theorem Src.of_own {w : World} {base n : Nat} {v : Value} {l : List UInt8} (h : w.ownsRow base 5 1 v n (bv l)) : ∃ ao c, v = .slice ao n c ∧ Src w ao n c l ∧ c ≤ maxLen := by
  have hl : l.length = n := by have := h.1; rw [bv_length] at this; omega
  rcases h.2 with ⟨rfl, h0⟩ | ⟨g, cap, cur, rfl, _, _, _, hm, _⟩
  · subst h0
    have : l = [] := List.length_eq_zero_iff.1 hl
    subst this
    exact ⟨none, 0, rfl, Src.empty (fun _ => rfl), Nat.zero_le _⟩
  · exact ⟨_, _, rfl, Src.owns h, hm⟩
theorem conv_str (L : List UInt8) (m : Nat) (hm : L.length = m) (u : World) : (convert 9 47 (.string ⟨L.toArray⟩)).run Tryz.prog u = .ok (.slice (some ⟨u.heap.size, 0, none⟩) m (grownCap u m 0 5)) (Lib.bytesWorld u 5 ⟨L.toArray⟩) := by
  subst hm
  exact Lib.run_convert_string_bytes (P := Tryz.prog) u 9 47 5 ⟨L.toArray⟩ Tryz.underlying9 Tryz.underlying47 Tryz.underlying5
theorem below_bytesWorld (w : World) (s : ByteArray) : Below w.heap.size w (Lib.bytesWorld w 5 s) :=
  ⟨rfl, rfl, rfl, by rw [Lib.bytesWorld_size]; omega, fun k hk => Lib.bytesWorld_at_old w 5 s k hk⟩
theorem alloc_size (w : World) (o : Obj) : (w.alloc o).heap.size = w.heap.size + 1 := by show (w.heap.push o).size = _; simp
theorem le_alloc {w : World} {B : Nat} (h : B ≤ w.heap.size) (o : Obj) : B ≤ (w.alloc o).heap.size := by rw [alloc_size]; omega
theorem own_below {w w' : World} {base n : Nat} {v : Value} {xs : List Value} (h : w.ownsRow base 5 1 v n xs) (hb : Below w.heap.size w w') : w'.ownsRow base 5 1 v n xs :=
  h.kept (row := none) ⟨hb.os, hb.tape, hb.output, hb.size, fun k hk _ => hb.block k hk⟩ (by cases hv : v.ownBlock <;> simp)
theorem own_apart {w : World} {base n : Nat} {vi vo : Value} {xs : List Value} (_h : w.ownsRow base 5 1 vo n xs) (hne : ∀ g, vi.ownBlock = some g → vo.ownBlock ≠ some g) : vo.ownBlock = none ∨ vo.ownBlock ≠ vi.ownBlock := by
  cases ho : vo.ownBlock with
  | none => exact .inl rfl
  | some g => exact .inr (fun e => hne g e.symm ho)
theorem own_apart' {w : World} {base n : Nat} {vi vo : Value} {xs : List Value} (_h : w.ownsRow base 5 1 vi n xs) (hne : ∀ g, vi.ownBlock = some g → vo.ownBlock ≠ some g) : vi.ownBlock = none ∨ vi.ownBlock ≠ vo.ownBlock := by
  cases hv : vi.ownBlock with
  | none => exact .inl rfl
  | some g => exact .inr (fun e => hne g hv e.symm)
theorem lies_apart {w : World} {base n m g cap : Nat} {vi vo : Value} {xs : List Value} (H : Nat) (h : w.ownsRow base 5 1 vo n xs) (hne : ∀ g, vi.ownBlock = some g → vo.ownBlock ≠ some g) (hat : vi.ownBlock = some g ∨ g = H) (hH : w.heap.size ≤ H) : ∀ g', (Value.slice (some ⟨g, 0, none⟩) m cap).ownBlock = some g' → vo.ownBlock ≠ some g' := by
  intro g' hg' ho
  cases hg'
  rcases hat with hat | hat
  · exact hne g hat ho
  · have := (h.lt g ho).2
    omega
theorem lies_apart' {w : World} {base n m g cap : Nat} {vi vo : Value} {xs : List Value} (H : Nat) (h : w.ownsRow base 5 1 vi n xs) (hne : ∀ g, vi.ownBlock = some g → vo.ownBlock ≠ some g) (hat : vo.ownBlock = some g ∨ g = H) (hH : w.heap.size ≤ H) : ∀ g', vi.ownBlock = some g' → (Value.slice (some ⟨g, 0, none⟩) m cap).ownBlock ≠ some g' := by
  intro g' hg' ho
  cases ho
  rcases hat with hat | hat
  · exact hne g hg' hat
  · have := (h.lt g hg').2
    omega
theorem ownsRow_cap {w : World} {base n g cap : Nat} {xs : List Value} (h : w.ownsRow base 5 1 (.slice (some ⟨g, 0, none⟩) n cap) n xs) : cap ≤ maxLen := by
  rcases h.2 with ⟨h0, _⟩ | ⟨g', cap', cur, hv, _, _, _, hm, _⟩
  · cases h0
  · cases hv; exact hm

/-- A row of bytes of the call's own, or a marked one, that append may write into. -/
structure Wr (w : World) (base g n cap : Nat) (l : List UInt8) : Prop where
  ge : base ≤ g
  len : l.length = n
  cap_le : n ≤ cap
  max : cap ≤ maxLen
  row : ∃ cur lo hi, w.heap[g]? = some (.cells cur 5 (lo, hi)) ∧ cur.size = cap ∧ (cap ≤ lo ∨ hi = 0) ∧ ∀ i, i < n → cur[i]? = some (.int .u8 ((fn l i).toNat : Int))
theorem Wr.owns {w : World} {base g n cap : Nat} {l : List UInt8} (h : w.ownsRow base 5 1 (.slice (some ⟨g, 0, none⟩) n cap) n (bv l)) : Wr w base g n cap l := by
  have hl : l.length = n := by have := h.1; rw [bv_length] at this; omega
  rcases h.2 with ⟨h0, _⟩ | ⟨g', cap', cur, hv, hb, hg, hc, hm, hs, ht⟩
  · cases h0
  · cases hv
    refine ⟨hb, hl, hc, hm, cur, 0, 0, hg, by omega, .inr rfl, fun i hi => ?_⟩
    have := bv_at l i (by omega)
    rw [← ht, List.getElem?_take, if_pos (by omega)] at this
    rw [← this, Array.getElem?_toList]
theorem Wr.converted (w : World) (l : List UInt8) (m : Nat) (hm : l.length = m) (hmm : m ≤ maxLen) : Wr (Lib.bytesWorld w 5 ⟨l.toArray⟩) w.heap.size w.heap.size m (grownCap w m 0 5) l := by
  subst hm
  have hsz : (Lib.bytesCells w 5 ⟨l.toArray⟩).size = grownCap w l.length 0 5 := by
    have hge := grownCap_ge w l.length 0 5
    have e : (⟨l.toArray⟩ : ByteArray).size = l.length := rfl
    simp [Lib.bytesCells, e]
    omega
  refine ⟨Nat.le_refl _, rfl, grownCap_ge _ _ _ _, grownCap_le_maxLen _ _ _ _ hmm, _, _, _, Lib.bytesWorld_at_new w 5 ⟨l.toArray⟩, hsz, .inl (by omega), fun i hi => ?_⟩
  have h1 := Lib.bytesWorld_cell w 5 ⟨l.toArray⟩ i hi
  rw [cell_of_row _ _ _ _ _ _ (Lib.bytesWorld_at_new w 5 ⟨l.toArray⟩)] at h1
  exact h1
theorem Wr.src {w : World} {base g n cap : Nat} {l : List UInt8} (h : Wr w base g n cap l) : Src w (some ⟨g, 0, none⟩) n cap l := by
  obtain ⟨cur, lo, hi, hg, hs, hf, hc⟩ := h.row
  refine Src.mk_bytes h.len h.cap_le (fun i hi => ?_)
  rw [Nat.zero_add, cell_of_row _ _ _ _ _ _ hg]
  exact hc i hi
theorem Wr.lt {w : World} {base g n cap : Nat} {l : List UInt8} (h : Wr w base g n cap l) : g < w.heap.size := by
  obtain ⟨cur, lo, hi, hg, _⟩ := h.row
  exact (Array.getElem?_eq_some_iff.1 hg).1
theorem run_append_wr {P : Program} (w : World) (t ty : TypeId) (i : TypeInfo) (z : Value) (ht : P.underlying t = some (.slice 5)) (hi : P.info? 5 = some i) (hz : i.zero = some z) (hz1 : i.size = 1) (hz2 : i.bytes = 1) (hzs : z.cells.size = 1)
    (base g n cap : Nat) (k : List UInt8) (b : UInt8) (x : Value) (h : Wr w base g n cap k) (hx : _root_.Go.Src P 1 t x 1 (bv [b]) w) (hb : n + 1 ≤ 140737488355328) (hbase : base ≤ w.heap.size) :
    ∃ g' cap' w', (Builtin.append_ #[t, t] ty #[.slice (some ⟨g, 0, none⟩) n cap, x]).run P w = .ok (.slice (some ⟨g', 0, none⟩) (n + 1) cap') w' ∧ Wr w' base g' (n + 1) cap' (k ++ [b]) ∧ Below base w w' := by
  obtain ⟨cur, lo, hi', hg, hs, hf, hc⟩ := h.row
  have hx' : _root_.Go.Src P i.size t x 1 (bv [b]) w := by rw [hz1]; exact hx
  have hkl := h.len
  rcases Nat.lt_or_ge cap (n + 1) with hr | hr
  · have hold : (Builtin.firstCells i.size n (.slice (some ⟨g, 0, none⟩) n cap)).run P w.drew = .ok (bv k).toArray w.drew := by
      rw [hz1]
      exact run_firstCells_some w.drew 1 n ⟨g, 0, none⟩ n cap (bv k) (by rw [bv_length, hkl]; omega) (h.src.cells _ rfl)
    have hfit : Builtin.nextslicecap (n + 1) cap * i.bytes ≤ 281474976710656 := by
      rw [hz2]
      exact growslice_fits_wide hr (by omega)
    have hrun := run_append_grow_src w t t ty 5 i z ht hi hz (some ⟨g, 0, none⟩) n cap (bv k) hold x 1 (bv [b]) hx' hr (by omega) hfit
    have hge := grownCap_ge w (n + 1) cap 5
    have hh : (w.drew.alloc (.cells ((bv k ++ bv [b]).toArray ++ Builtin.zeroCells z.cells (grownCap w (n + 1) cap 5 - (n + 1))) 5)).heap[w.heap.size]? = some (.cells ((bv k ++ bv [b]).toArray ++ Builtin.zeroCells z.cells (grownCap w (n + 1) cap 5 - (n + 1))) 5) := heap_alloc_new w.drew _
    refine ⟨_, _, _, hrun, ⟨hbase, by simp; omega, hge, grownCap_le_maxLen _ _ _ _ (by unfold maxLen; omega), _, 0, 0, hh, ?_, .inr rfl, fun j hj => ?_⟩, (Below.refl _ _).drew.alloc hbase _⟩
    · simp only [Array.size_append, List.size_toArray, size_zeroCells, hzs, List.length_append, bv_length, hkl, List.length_cons, List.length_nil]
      omega
    · rw [Array.getElem?_append_left (by simp [bv_length]; omega), List.getElem?_toArray, ← bv_append]
      exact bv_at _ j (by simp; omega)
  · have hrun := run_append_room_src w t t ty 5 i ht hi g 0 n cap x 1 (bv [b]) hx' hr
      (fun j hj => by
        have hj0 : j = 0 := by rw [bv_length] at hj; simp at hj; omega
        subst hj0
        rw [hz1, cell_of_row _ _ _ _ _ _ hg]
        simp
        omega)
      (fun j hj => by
        have hj0 : j = 0 := by rw [bv_length] at hj; simp at hj; omega
        subst hj0
        simp [World.frozen?, hg, hz1]
        omega)
    rw [hz1] at hrun
    have e : w.setCells g (0 + n * 1) (bv [b]) = w.setRow g (cur.setIfInBounds n (.int .u8 (b.toNat : Int))) := by
      rw [Nat.zero_add, Nat.mul_one]
      exact setCell_eq_setRow w g n cur 5 (lo, hi') (.int .u8 (b.toNat : Int)) hg
    rw [e] at hrun
    refine ⟨g, cap, _, hrun, ⟨h.ge, by simp; omega, hr, h.max, _, lo, hi', setRow_heap w g cur _ 5 (lo, hi') hg, by simpa using hs, hf, fun j hj => ?_⟩, below_setRow (Below.refl _ _) h.ge _⟩
    rw [Array.getElem?_setIfInBounds]
    by_cases hjn : n = j
    · subst hjn
      rw [if_pos rfl, if_pos (by omega)]
      congr 3
      unfold fn
      rw [List.getD_eq_getElem?_getD, List.getElem?_append_right (by omega), hkl]
      simp
    · rw [if_neg hjn, hc j (by omega), fn_left _ _ _ (by omega)]
theorem wpList_append_wr {P : Program} {w : World} {ops : Array Oper} {rest : List Oper} {o : Oper} {a : Act} {Q : Exit → Act → World → Prop} (hgd : o.guard = none) (s x : Operand) (t : TypeId)
    (ho : o.op = .call { callee := .builtin .append, args := #[s, x], argTypes := #[t, t] })
    (i : TypeInfo) (z : Value) (ht : P.underlying t = some (.slice 5)) (hi : P.info? 5 = some i) (hz : i.zero = some z) (hz1 : i.size = 1) (hz2 : i.bytes = 1) (hzs : z.cells.size = 1)
    (base g n cap : Nat) (k : List UInt8) (b : UInt8) (v : Value) (hs : a.eval s = .slice (some ⟨g, 0, none⟩) n cap) (h : Wr w base g n cap k) (hv : a.eval x = v) (hx : _root_.Go.Src P 1 t v 1 (bv [b]) w) (hb : n + 1 ≤ 140737488355328) (hbase : base ≤ w.heap.size)
    (hK : ∀ g' cap' w', Wr w' base g' (n + 1) cap' (k ++ [b]) → Below base w w' → wpList P ops Q rest (a.put o.dst (.slice (some ⟨g', 0, none⟩) (n + 1) cap')) w') : wpList P ops Q (o :: rest) a w := by
  refine wpList_plain hgd fun K hK' => ?_
  obtain ⟨g', cap', w', hrun, h1, h2⟩ := run_append_wr w t o.type i z ht hi hz hz1 hz2 hzs base g n cap k b v h hx hb hbase
  unfold Oper.wp
  simp [execOp, ho, resolve, invoke, builtin, hs, hv, hrun, Result.andThen]
  exact hK' _ _ (hK g' cap' w' h1 h2)
theorem Wr.alloc {w : World} {base g n cap : Nat} {l : List UInt8} (h : Wr w base g n cap l) (o : Obj) : Wr (w.alloc o) base g n cap l := by
  obtain ⟨cur, lo, hi, hg, hs, hf, hc⟩ := h.row
  exact ⟨h.ge, h.len, h.cap_le, h.max, cur, lo, hi, (_root_.Go.heap_alloc_old w o h.lt).trans hg, hs, hf, hc⟩
end Go.Proofs.YtogphpejdnhnjaaGreatDoor
