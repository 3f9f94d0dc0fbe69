/- Byte slices: those that are read, those that a call owns; laws of append; no walk. -/
/- Bytes that a call made; a row of one byte; no walk. -/
/- Less, beginnings, what is next, over plain lists of bytes; no walk. -/
/- Maps by texts, of any program, whatever their elements: as rising lists of a name and a value; look-up, store, delete, how many; no walk. -/
/- Slices of records of any kind, of any program: what they hold, read or owned; append of one record; a slice of records among the arguments opened; no walk. -/
/- Stage 4 of the document over plain lists: files by name, raw writes, a cut, a crash; no walk. -/
/- Stage 4 over plain lists: what follows; no walk. -/
/- Frames by blocks; a map of files as it lies, and the plain list that it stands for; no walk. -/
/- A disk of the program's as it lies in memory; no walk. -/
import Derived.Test.YthnebhddakfadaaGreatDoorRows
import Derived.WalkKit
import Derived.WalkSpells
import Derived.WalkLawsBesides
import Derived.ProofKit
import Derived.Laws.BytesArg
import Derived.Laws.BitsAllLaws
import Derived.Laws.AppendOwnNone
import Derived.Deep.AppendLies
import Derived.Deep.AppendSrc
import Derived.Deep.Upon
import Derived.Deep.DeepAppendWide
import Derived.Deep.RegionLaw
import Derived.Lib.AppendStr
import Derived.Lib.ConvBytes
import Derived.Laws.CopyOwn
import Derived.Deep.MidRow
import Derived.Deep.RegionHeld3
import Derived.Lib.LazyBuf
import Derived.Deep.OwnRows
import Derived.Maps.Own
import Derived.Maps.OwnSet
import Derived.Maps.Keyed
import Derived.Maps.Views
import Derived.Deep.Slices
namespace Go.Proofs.YthnebhddakfadaaGreatDoor
open Go.RowKit

theorem own : ownKnob Tryz.prog.godebug = none := by kernel_rfl
theorem info5 : (Tryz.prog.info? 5).map (fun i => (i.zero, i.size, i.bytes)) = some (some (.int .u8 0), 1, 1) := by kernel_rfl
theorem keep {p : Prop} (h : p) : Hid p := h
def fn (l : List UInt8) (i : Nat) : UInt8 := l.getD i 0
def Bytes (w : World) (b off n : Nat) (f : Nat → UInt8) : Prop := ∀ i, i < n → w.cell? ⟨b, off + i, none⟩ = some (.int .u8 ((f i).toNat : Int))
theorem wrap_small (x : Int) (h1 : -4611686018427387904 ≤ x) (h2 : x ≤ 4611686018427387904) : IntKind.i64.wrap x = x := by
  rw [IntKind.wrap_i64]
  omega

def bv (l : List UInt8) : List Value := l.map fun b => Value.int .u8 (b.toNat : Int)
theorem bv_append (a b : List UInt8) : bv (a ++ b) = bv a ++ bv b := by simp [bv]
theorem bv_length (a : List UInt8) : (bv a).length = a.length := by simp [bv]
theorem bv_one (a : List UInt8) : ∀ u ∈ bv a, u.oneCell' = true := by
  intro u hu
  obtain ⟨b, _, rfl⟩ := List.mem_map.1 hu
  rfl
theorem strOfNums_bytes (l : List UInt8) : strOfNums (l.map fun b => (b.toNat : Int)) = ⟨l.toArray⟩ := by
  unfold strOfNums
  congr 2
  rw [List.map_map]
  conv => rhs; rw [← List.map_id l]
  apply List.map_congr_left
  intro a _
  simp
/-- The slice (ao, m, c) holds the bytes l. -/
structure Src (w : World) (ao : Option Addr) (m c : Nat) (l : List UInt8) : Prop where
  len : l.length = m
  cap : m ≤ c
  nil : ao = none → m = 0 ∧ c = 0
  cells : ∀ ad, ao = some ad → ∀ j u, (bv l)[j]? = some u → w.cell? (ad.add j) = some u

theorem bv_at (l : List UInt8) (i : Nat) (h : i < l.length) : (bv l)[i]? = some (.int .u8 ((fn l i).toNat : Int)) := by
  simp [bv, fn, List.getD, h]
theorem Src.form {w : World} {ao : Option Addr} {m c : Nat} {l : List UInt8} (h : Src w ao m c l) (hm : 0 < m) : ∃ b off, ao = some ⟨b, off, none⟩ ∧ b < w.heap.size ∧ Bytes w b off m (fn l) := by
  cases ao with
  | none => have := (h.nil rfl).1; omega
  | some ad =>
    obtain ⟨b, off, spot⟩ := ad
    have h0 := h.cells _ rfl 0 _ (bv_at l 0 (by rw [h.len]; exact hm))
    have hspot : spot = none := by simpa [Addr.add] using World.cell?_spot h0
    subst hspot
    refine ⟨b, off, rfl, World.block_lt_of_cell? w _ h0, fun i hi => ?_⟩
    have := h.cells _ rfl i _ (bv_at l i (by rw [h.len]; exact hi))
    rwa [Addr.add_mid] at this
theorem Src.mk_bytes {w : World} {b off m c : Nat} {l : List UInt8} (hl : l.length = m) (hc : m ≤ c) (h : Bytes w b off m (fn l)) : Src w (some ⟨b, off, none⟩) m c l :=
  ⟨hl, hc, (fun h => by cases h), fun ad had j u hu => by
    cases had
    have hj : j < l.length := by
      have := (List.getElem?_eq_some_iff.1 hu).1
      rwa [bv_length] at this
    rw [bv_at l j hj] at hu
    cases hu
    rw [Addr.add_mid]
    exact h j (by omega)⟩
theorem Src.empty {w : World} {ao : Option Addr} {c : Nat} (h : ao = none → c = 0) : Src w ao 0 c [] :=
  ⟨rfl, Nat.zero_le _, fun e => ⟨rfl, h e⟩, fun _ _ j u hu => by simp [bv] at hu⟩
theorem Src.below {w w' : World} {ao : Option Addr} {m c : Nat} {l : List UInt8} (h : Src w ao m c l) (hb : Below w.heap.size w w') : Src w' ao m c l :=
  ⟨h.len, h.cap, h.nil, fun ad had j u hu => by
    have := h.cells ad had j u hu
    rw [hb.cell (World.block_lt_of_cell? w _ this)]
    exact this⟩
theorem Src.below' {w w' : World} {B : Nat} {ao : Option Addr} {m c : Nat} {l : List UInt8} (h : Src w ao m c l) (hB : ∀ a, ao = some a → 0 < m → a.block < B) (hb : Below B w w') : Src w' ao m c l :=
  ⟨h.len, h.cap, h.nil, fun ad had j u hu => by
    have := h.cells ad had j u hu
    have hm : 0 < m := by
      rcases Nat.eq_zero_or_pos m with h0 | h0
      · have hl : l = [] := List.length_eq_zero_iff.1 (by rw [h.len, h0])
        subst hl; simp [bv] at hu
      · exact h0
    have hblk : (ad.add j).block = ad.block := by unfold Addr.add; split <;> rfl
    rw [hb.cell (by rw [hblk]; exact hB ad had hm)]
    exact this⟩
theorem Src.owns {w : World} {base n cap g : Nat} {l : List UInt8} (h : w.ownsRow base 5 1 (.slice (some ⟨g, 0, none⟩) n cap) n (bv l)) : Src w (some ⟨g, 0, none⟩) n cap l :=
  ⟨by have := h.1; rw [bv_length] at this; omega, by
    rcases h.2 with ⟨h0, _⟩ | ⟨g', cap', cur, hv, _, _, hc, _⟩
    · cases h0
    · cases hv; exact hc, (fun e => by cases e), fun ad had j u hu => by cases had; exact h.cells rfl j u hu⟩

/-- append(v, x...), v nil or the call's own, x a slice of bytes that is read. -/
theorem wpList_append_src {P : Program} {w : World} {ops : Array Oper} {rest : List Oper} {o : Oper} {a : Act} {Q : Exit → Act → World → Prop} (hgd : o.guard = none) (s x : Operand) (t : TypeId)
    (ho : o.op = .call { callee := .builtin .append, args := #[s, x], argTypes := #[t, t] })
    (base : Nat) (i : TypeInfo) (z : Value) (ht : P.underlying t = some (.slice 5)) (hi : P.info? 5 = some i) (hz : i.zero = some z)
    (hsize : i.size = 1) (hby : i.bytes = 1) (hzs : z.cells.size = 1)
    (v : Value) (n : Nat) (k : List UInt8) (hs : a.eval s = v) (hown : w.ownsRow base 5 1 v n (bv k))
    (ao : Option Addr) (m c : Nat) (l : List UInt8) (hx : a.eval x = .slice ao m c) (hsrc : Src w ao m c l)
    (hbytes : n + m ≤ 140737488355328) (hbase : base ≤ w.heap.size)
    (h : ∀ v' w', w'.ownsRow base 5 1 v' (n + m) (bv (k ++ l)) → w.grownBy w' v.ownBlock → wpList P ops Q rest (a.put o.dst v') w') : wpList P ops Q (o :: rest) a w := by
  cases ao with
  | none =>
    obtain ⟨rfl, rfl⟩ := hsrc.nil rfl
    have hl : l = [] := List.length_eq_zero_iff.1 hsrc.len
    subst hl
    refine wpList_append_own_none hgd s x t ho base 5 i 1 ht hi v n (bv k) hs hown hx ?_
    exact h v w (by simpa using hown) (World.grownBy.refl _ _)
  | some ad =>
    refine wpList_append_own w hgd s x t ho base 5 i z 1 1 ht hi hz hsize hby hzs (by omega) v n (bv k) hs hown ad m c (bv l) hx (by rw [bv_length, hsrc.len]; omega) (hsrc.cells ad rfl) (bv_one l) (by unfold maxLen; omega) (by omega) hbase ?_
    intro v' w' h1 h2 _
    exact h v' w' (by rw [bv_append]; exact h1) h2

theorem Src.go {P : Program} {w : World} {tx : TypeId} (htx : P.underlying tx = some (.slice 5)) {ao : Option Addr} {m c : Nat} {l : List UInt8} (h : Src w ao m c l) : _root_.Go.Src P 1 tx (.slice ao m c) m (bv l) w := by
  cases ao with
  | none =>
    obtain ⟨rfl, rfl⟩ := h.nil rfl
    have hl : l = [] := List.length_eq_zero_iff.1 h.len
    subst hl
    exact _root_.Go.Src.ofNil w htx 0
  | some ad => exact _root_.Go.Src.ofSlice w htx ad m c (bv l) (by rw [bv_length, h.len]; omega) (h.cells ad rfl) (bv_one l)
/-- The same where a guard stands ahead of it, and says yes. -/
theorem wpList_append_own_string_if {P : Program} {w : World} {ops : Array Oper} {rest : List Oper} {o : Oper} {a : Act} {Q : Exit → Act → World → Prop} (hw : Region.wanted o (yielded ops a.tmps) = true) (sl x : Operand) (t u : TypeId)
    (ho : o.op = .call { callee := .builtin .append, args := #[sl, x], argTypes := #[t, u] })
    (base : Nat) (i : TypeInfo) (ht : P.underlying t = some (.slice 5)) (hu : P.underlying u = some .string) (hi : P.info? 5 = some i) (hz : i.zero = some (.int .u8 0))
    (hsize : i.size = 1) (hby : i.bytes = 1)
    (v : Value) (n : Nat) (k l : List UInt8) (m : Nat) (hs : a.eval sl = v) (hown : w.ownsRow base 5 1 v n (bv k)) (hx : a.eval x = .string ⟨l.toArray⟩) (hl : l.length = m)
    (hb : n + m ≤ 140737488355328) (hbase : base ≤ w.heap.size)
    (h : ∀ v' w', w'.ownsRow base 5 1 v' (n + m) (bv (k ++ l)) → w.grownBy w' v.ownBlock → wpList P ops Q rest (a.put o.dst v') w') : wpList P ops Q (o :: rest) a w := by
  subst hl
  refine BigFrame.wpList_want hw fun K hK => ?_
  have hsz : (⟨l.toArray⟩ : ByteArray).size = l.length := rfl
  obtain ⟨v', w', hrun, h1, h2, _⟩ := Lib.run_append_own_string (P := P) w base t u o.type 5 i ht hu hi hz hsize hby v n (bv k) hown ⟨l.toArray⟩ (by rw [hsz]; unfold maxLen; omega) (by rw [hsz]; omega) hbase
  unfold Oper.wp
  simp [execOp, ho, resolve, invoke, builtin, hs, hx, hrun, Result.andThen]
  exact hK _ _ (h v' w' (by rw [bv_append]; exact h1) h2)
theorem Src.converted (w : World) (l : List UInt8) (m : Nat) (hm : l.length = m) : Src (Lib.bytesWorld w 5 ⟨l.toArray⟩) (some ⟨w.heap.size, 0, none⟩) m (grownCap w m 0 5) l := by
  subst hm
  refine Src.mk_bytes rfl (grownCap_ge _ _ _ _) (fun i hi => ?_)
  have := Lib.bytesWorld_cell w 5 ⟨l.toArray⟩ i hi
  rw [Nat.zero_add, this]
  rfl
theorem Src.of_own {w : World} {base n : Nat} {v : Value} {l : List UInt8} (h : w.ownsRow base 5 1 v n (bv l)) : ∃ ao c, v = .slice ao n c ∧ Src w ao n c l ∧ c ≤ maxLen := by
  have hl : l.length = n := by have := h.1; rw [bv_length] at this; omega
  rcases h.2 with ⟨rfl, h0⟩ | ⟨g, cap, cur, rfl, _, _, _, hm, _⟩
  · subst h0
    have : l = [] := List.length_eq_zero_iff.1 hl
    subst this
    exact ⟨none, 0, rfl, Src.empty (fun _ => rfl), Nat.zero_le _⟩
  · exact ⟨_, _, rfl, Src.owns h, hm⟩
theorem conv_str (L : List UInt8) (m : Nat) (hm : L.length = m) (u : World) : (convert 9 25 (.string ⟨L.toArray⟩)).run Tryz.prog u = .ok (.slice (some ⟨u.heap.size, 0, none⟩) m (grownCap u m 0 5)) (Lib.bytesWorld u 5 ⟨L.toArray⟩) := by
  subst hm
  exact Lib.run_convert_string_bytes (P := Tryz.prog) u 9 25 5 ⟨L.toArray⟩ Tryz.underlying9 Tryz.underlying25 Tryz.underlying5
theorem below_bytesWorld (w : World) (s : ByteArray) : Below w.heap.size w (Lib.bytesWorld w 5 s) :=
  ⟨rfl, rfl, rfl, by rw [Lib.bytesWorld_size]; omega, fun k hk => Lib.bytesWorld_at_old w 5 s k hk⟩
theorem alloc_size (w : World) (o : Obj) : (w.alloc o).heap.size = w.heap.size + 1 := by show (w.heap.push o).size = _; simp
theorem le_alloc {w : World} {B : Nat} (h : B ≤ w.heap.size) (o : Obj) : B ≤ (w.alloc o).heap.size := by rw [alloc_size]; omega
/-- A row of bytes of the call's own, or a marked one, that append may write into. -/
structure Wr (w : World) (base g n cap : Nat) (l : List UInt8) : Prop where
  ge : base ≤ g
  len : l.length = n
  cap_le : n ≤ cap
  max : cap ≤ maxLen
  row : ∃ cur lo hi, w.heap[g]? = some (.cells cur 5 (lo, hi)) ∧ cur.size = cap ∧ (cap ≤ lo ∨ hi = 0) ∧ ∀ i, i < n → cur[i]? = some (.int .u8 ((fn l i).toNat : Int))
theorem Wr.owns {w : World} {base g n cap : Nat} {l : List UInt8} (h : w.ownsRow base 5 1 (.slice (some ⟨g, 0, none⟩) n cap) n (bv l)) : Wr w base g n cap l := by
  have hl : l.length = n := by have := h.1; rw [bv_length] at this; omega
  rcases h.2 with ⟨h0, _⟩ | ⟨g', cap', cur, hv, hb, hg, hc, hm, hs, ht⟩
  · cases h0
  · cases hv
    refine ⟨hb, hl, hc, hm, cur, 0, 0, hg, by omega, .inr rfl, fun i hi => ?_⟩
    have := bv_at l i (by omega)
    rw [← ht, List.getElem?_take, if_pos (by omega)] at this
    rw [← this, Array.getElem?_toList]
theorem Wr.converted (w : World) (l : List UInt8) (m : Nat) (hm : l.length = m) (hmm : m ≤ maxLen) : Wr (Lib.bytesWorld w 5 ⟨l.toArray⟩) w.heap.size w.heap.size m (grownCap w m 0 5) l := by
  subst hm
  have hsz : (Lib.bytesCells w 5 ⟨l.toArray⟩).size = grownCap w l.length 0 5 := by
    have hge := grownCap_ge w l.length 0 5
    have e : (⟨l.toArray⟩ : ByteArray).size = l.length := rfl
    simp [Lib.bytesCells, e]
    omega
  refine ⟨Nat.le_refl _, rfl, grownCap_ge _ _ _ _, grownCap_le_maxLen _ _ _ _ hmm, _, _, _, Lib.bytesWorld_at_new w 5 ⟨l.toArray⟩, hsz, .inl (by omega), fun i hi => ?_⟩
  have h1 := Lib.bytesWorld_cell w 5 ⟨l.toArray⟩ i hi
  rw [cell_of_row _ _ _ _ _ _ (Lib.bytesWorld_at_new w 5 ⟨l.toArray⟩)] at h1
  exact h1
theorem Wr.src {w : World} {base g n cap : Nat} {l : List UInt8} (h : Wr w base g n cap l) : Src w (some ⟨g, 0, none⟩) n cap l := by
  obtain ⟨cur, lo, hi, hg, hs, hf, hc⟩ := h.row
  refine Src.mk_bytes h.len h.cap_le (fun i hi => ?_)
  rw [Nat.zero_add, cell_of_row _ _ _ _ _ _ hg]
  exact hc i hi
theorem Wr.lt {w : World} {base g n cap : Nat} {l : List UInt8} (h : Wr w base g n cap l) : g < w.heap.size := by
  obtain ⟨cur, lo, hi, hg, _⟩ := h.row
  exact (Array.getElem?_eq_some_iff.1 hg).1
theorem Wr.alloc {w : World} {base g n cap : Nat} {l : List UInt8} (h : Wr w base g n cap l) (o : Obj) : Wr (w.alloc o) base g n cap l := by
  obtain ⟨cur, lo, hi, hg, hs, hf, hc⟩ := h.row
  exact ⟨h.ge, h.len, h.cap_le, h.max, cur, lo, hi, (_root_.Go.heap_alloc_old w o h.lt).trans hg, hs, hf, hc⟩
end Go.Proofs.YthnebhddakfadaaGreatDoor
namespace Go.Proofs.YthnebhddakfadaaGreatDoor
open Go.RowKit

/-- v: n bytes l in memory that a call made since w; nothing of w is turned. -/
def New (w w' : World) (v : Value) (n : Nat) (l : List UInt8) : Prop := w'.ownsRow w.heap.size 5 1 v n (bv l) ∧ Below w.heap.size w w'
theorem New.src {w w' : World} {v : Value} {n : Nat} {l : List UInt8} (h : New w w' v n l) : ∃ ao c, v = .slice ao n c ∧ Src w' ao n c l ∧ c ≤ maxLen := Src.of_own h.1
theorem New.len {w w' : World} {v : Value} {n : Nat} {l : List UInt8} (h : New w w' v n l) : l.length = n := by have := h.1.1; rw [bv_length] at this; omega
theorem New.after {w w1 w2 : World} {v : Value} {n : Nat} {l : List UInt8} (hb : Below w.heap.size w w1) (h : New w1 w2 v n l) : New w w2 v n l := by
  refine ⟨⟨h.1.1, ?_⟩, hb.trans (h.2.mono hb.size)⟩
  rcases h.1.2 with h0 | ⟨g, cap, cur, e, hg, r⟩
  · exact .inl h0
  · exact .inr ⟨g, cap, cur, e, Nat.le_trans hb.size hg, r⟩
theorem src_nil (w : World) : Src w none 0 0 [] := Src.empty (fun _ => rfl)
theorem Src.built (w : World) (b : UInt8) : Src (w.alloc (.cells #[.int .u8 (b.toNat : Int)] 5)) (some ⟨w.heap.size, 0, none⟩) 1 1 [b] :=
  Src.mk_bytes rfl (Nat.le_refl _) (fun i hi => by
    obtain rfl : i = 0 := by omega
    rw [cell_of_row _ _ _ _ _ _ (heap_alloc_new w _)]
    rfl)
theorem Src.builtI (w : World) (x : Int) (b : UInt8) (h : x = (b.toNat : Int)) : Src (w.alloc (.cells #[.int .u8 x] 5)) (some ⟨w.heap.size, 0, none⟩) 1 1 [b] := by subst h; exact Src.built w b

theorem conv_src {w : World} {ao : Option Addr} {m c : Nat} {l : List UInt8} (h : Src w ao m c l) : (convert 25 9 (.slice ao m c)).run Tryz.prog w = .ok (.string ⟨l.toArray⟩) w := by
  rcases Nat.eq_zero_or_pos m with h0 | h0
  · subst h0
    have hl : l = [] := List.length_eq_zero_iff.1 h.len
    subst hl
    rw [run_convert_bytes_string w 25 9 5 _ 0 c Tryz.underlying25 Tryz.underlying5 Tryz.underlying9]
    cases ao <;> simp [Conv.bytesToString, loadCells]
    all_goals rfl
  · obtain ⟨b, off, e, _, hby⟩ := h.form h0
    cases e
    have hl := h.len
    have := run_convert_bytes_arg (P := Tryz.prog) w 25 5 Tryz.underlying25 Tryz.underlying5 b off m c (l.map fun b => (b.toNat : Int)) (by simpa using h.len) (fun i hi => by
      rw [hby i hi]
      have : i < l.length := by omega
      simp [fn, List.getD, this]) 9 Tryz.underlying9
    rwa [strOfNums_bytes] at this
theorem list_beq (l l2 : List UInt8) : (l == l2) = decide (l = l2) := by
  by_cases h : l = l2
  · subst h; simp
  · rw [decide_eq_false h, beq_eq_false_iff_ne]; exact h
end Go.Proofs.YthnebhddakfadaaGreatDoor
namespace Go.Proofs.YthnebhddakfadaaGreatDoor

/-- The first byte in which they are not alike is less in the first. -/
def less : List UInt8 → List UInt8 → Bool
  | _, [] => false
  | [], _ :: _ => true
  | a :: x, b :: y => decide (a < b) || (a == b && less x y)

theorem less_cons {a b : UInt8} {x y : List UInt8} : less (a :: x) (b :: y) = true ↔ a.toNat < b.toNat ∨ a = b ∧ less x y = true := by
  simp [less, UInt8.lt_iff_toNat_lt]
theorem less_irrefl : ∀ x : List UInt8, less x x = false
  | [] => rfl
  | a :: x => by
    rw [Bool.eq_false_iff]
    intro h
    rcases less_cons.1 h with h | ⟨_, h⟩
    · omega
    · rw [less_irrefl x] at h; cases h
theorem less_trans : ∀ {x y z : List UInt8}, less x y = true → less y z = true → less x z = true
  | _, [], _, h, _ => by simp [less] at h
  | _, _ :: _, [], _, h => by simp [less] at h
  | [], _ :: _, _ :: _, _, _ => rfl
  | a :: x, b :: y, c :: z, h1, h2 => by
    rcases less_cons.1 h1 with g1 | ⟨rfl, g1⟩
    · rcases less_cons.1 h2 with g2 | ⟨rfl, _⟩
      · exact less_cons.2 (.inl (by omega))
      · exact less_cons.2 (.inl g1)
    · rcases less_cons.1 h2 with g2 | ⟨rfl, g2⟩
      · exact less_cons.2 (.inl g2)
      · exact less_cons.2 (.inr ⟨rfl, less_trans g1 g2⟩)
theorem less_asymm {x y : List UInt8} (h : less x y = true) : less y x = false := by
  rw [Bool.eq_false_iff]
  intro h2
  have := less_trans h h2
  rw [less_irrefl] at this
  cases this
theorem less_total : ∀ {x y : List UInt8}, less x y = false → less y x = false → x = y
  | [], [], _, _ => rfl
  | [], _ :: _, h, _ => by simp [less] at h
  | _ :: _, [], _, h => by simp [less] at h
  | a :: x, b :: y, h1, h2 => by
    rw [Bool.eq_false_iff] at h1 h2
    have n1 : ¬ a.toNat < b.toNat := fun h => h1 (less_cons.2 (.inl h))
    have n2 : ¬ b.toNat < a.toNat := fun h => h2 (less_cons.2 (.inl h))
    have e : a = b := UInt8.toNat_inj.1 (by omega)
    subst e
    rw [less_total (x := x) (y := y) (by rw [Bool.eq_false_iff]; exact fun h => h1 (less_cons.2 (.inr ⟨rfl, h⟩))) (by rw [Bool.eq_false_iff]; exact fun h => h2 (less_cons.2 (.inr ⟨rfl, h⟩)))]
/-- What is next to all that begin with a prefix; nothing, if there is none. -/
def next : List UInt8 → List UInt8
  | [] => []
  | c :: t => if next t = [] then (if c = 255 then [] else [c + 1]) else c :: next t

end Go.Proofs.YthnebhddakfadaaGreatDoor
namespace Go.Proofs.YthnebhddakfadaaGreatDoor
open Go.RowKit

/-- An element reads as itself. -/
def asIs (v : Value) : Option (DataW Value × List MemPlace) := some (.held v, [])
abbrev Named := List UInt8 × Value
def told (l : List Named) : List (Lit × DataW Value) := l.map fun x => (.string x.1, .held x.2)
def Up : List Named → Prop
  | [] => True
  | x :: t => (∀ y ∈ t, less x.1 y.1 = true) ∧ Up t
def lay : List Named → List UInt8 → Value → List Named
  | [], n, v => [(n, v)]
  | x :: t, n, v => if less x.1 n then x :: lay t n v else if x.1 = n then (n, v) :: t else (n, v) :: x :: t
def strike : List Named → List UInt8 → List Named
  | [], _ => []
  | x :: t, n => if x.1 = n then strike t n else x :: strike t n
def seek : List Named → List UInt8 → Option Value
  | [], _ => none
  | x :: t, n => if x.1 = n then some x.2 else seek t n

theorem before_less : ∀ a b : List UInt8, bytesBefore a b = less a b
  | _, [] => by cases ‹List UInt8› <;> rfl
  | [], _ :: _ => rfl
  | a :: x, b :: y => by
    have ih := before_less x y
    simp only [bytesBefore, less, ih]
theorem lay_up {l : List Named} (n : List UInt8) (v : Value) (h : Up l) : Up (lay l n v) ∧ ∀ y ∈ lay l n v, y.1 = n ∨ y ∈ l := by
  induction l with
  | nil => exact ⟨⟨fun _ h => (by cases h), trivial⟩, fun y hy => by simp [lay] at hy; exact .inl (by rw [hy])⟩
  | cons x t ih =>
    obtain ⟨h1, h2⟩ := h
    obtain ⟨i1, i2⟩ := ih h2
    simp only [lay]
    split
    · rename_i hx
      refine ⟨⟨fun y hy => ?_, i1⟩, fun y hy => ?_⟩
      · rcases i2 y hy with e | e
        · rw [e]; exact hx
        · exact h1 y e
      · rcases List.mem_cons.1 hy with rfl | hy
        · exact .inr (by simp)
        · rcases i2 y hy with e | e
          · exact .inl e
          · exact .inr (by simp [e])
    · split
      · rename_i hx he
        refine ⟨⟨fun y hy => by rw [← he]; exact h1 y hy, h2⟩, fun y hy => ?_⟩
        rcases List.mem_cons.1 hy with rfl | hy
        · exact .inl rfl
        · exact .inr (by simp [hy])
      · rename_i hx he
        have hlt : less n x.1 = true := by
          cases hh : less n x.1 with
          | true => rfl
          | false => exact absurd (less_total (by simpa using hx) hh) he
        refine ⟨⟨fun y hy => ?_, h1, h2⟩, fun y hy => ?_⟩
        · rcases List.mem_cons.1 hy with rfl | hy
          · exact hlt
          · exact less_trans hlt (h1 y hy)
        · rcases List.mem_cons.1 hy with rfl | hy
          · exact .inl rfl
          · exact .inr hy
theorem strike_mem {l : List Named} {n : List UInt8} {y : Named} (h : y ∈ strike l n) : y ∈ l ∧ y.1 ≠ n := by
  induction l with
  | nil => cases h
  | cons x t ih =>
    simp only [strike] at h
    split at h
    · exact ⟨by simp [(ih h).1], (ih h).2⟩
    · rename_i hx
      rcases List.mem_cons.1 h with rfl | h
      · exact ⟨by simp, hx⟩
      · exact ⟨by simp [(ih h).1], (ih h).2⟩
theorem strike_up {l : List Named} (n : List UInt8) (h : Up l) : Up (strike l n) := by
  induction l with
  | nil => trivial
  | cons x t ih =>
    simp only [strike]
    split
    · exact ih h.2
    · exact ⟨fun y hy => h.1 y (strike_mem hy).1, ih h.2⟩
theorem told_strike (l : List Named) (n : List UInt8) : told (strike l n) = (told l).filter fun p => !p.1.sameKey (.string n) := by
  induction l with
  | nil => rfl
  | cons x t ih =>
    simp only [strike]
    split
    · rename_i hx
      rw [ih]
      simp [told, Lit.sameKey, hx]
    · rename_i hx
      have : ((x.1 == n) = false) := by simpa using hx
      simp only [told, List.map_cons, List.filter_cons, Lit.sameKey, this] at ih ⊢
      rw [ih]
      rfl
theorem strike_all {l : List Named} {n : List UInt8} (h : ∀ y ∈ l, y.1 ≠ n) : strike l n = l := by
  induction l with
  | nil => rfl
  | cons x t ih =>
    simp only [strike]
    rw [if_neg (h x (by simp)), ih (fun y hy => h y (by simp [hy]))]
theorem insert_first {l : List Named} {n : List UInt8} {v : Value} (h : ∀ y ∈ l, less n y.1 = true) : DataW.insert (.string n, .held v) (told l) = told ((n, v) :: l) := by
  cases l with
  | nil => rfl
  | cons x t =>
    have hb : (Lit.string n).before (Lit.string x.1) = true := by
      show bytesBefore n x.1 = true
      rw [before_less]
      exact h x (by simp)
    exact if_pos hb
theorem told_lay {l : List Named} (n : List UInt8) (v : Value) (h : Up l) : told (lay l n v) = DataW.insert (.string n, .held v) ((told l).filter fun p => !p.1.sameKey (.string n)) := by
  rw [← told_strike]
  induction l with
  | nil => rfl
  | cons x t ih =>
    simp only [lay, strike]
    split
    · rename_i hx
      have hne : ¬ x.1 = n := fun e => by rw [e, less_irrefl] at hx; cases hx
      rw [if_neg hne]
      have hb : less n x.1 = false := less_asymm hx
      show (Lit.string x.1, DataW.held x.2) :: told (lay t n v) = DataW.insert _ ((Lit.string x.1, DataW.held x.2) :: told (strike t n))
      rw [ih h.2]
      have hc : ¬ (Lit.string n).before (Lit.string x.1) = true := by
        show ¬ bytesBefore n x.1 = true
        rw [before_less, hb]
        simp
      exact (if_neg hc).symm
    · rename_i hx
      split
      · rename_i he
        have hall : ∀ y ∈ t, y.1 ≠ n := fun y hy e => by
          have := h.1 y hy
          rw [e, he, less_irrefl] at this
          cases this
        rw [strike_all hall]
        exact (insert_first (fun y hy => by rw [← he]; exact h.1 y hy)).symm
      · rename_i he
        have hlt : less n x.1 = true := by
          cases hh : less n x.1 with
          | true => rfl
          | false => exact absurd (less_total (by simpa using hx) hh) he
        have hall : ∀ y ∈ t, y.1 ≠ n := fun y hy e => by
          have := less_trans hlt (h.1 y hy)
          rw [e, less_irrefl] at this
          cases this
        rw [strike_all hall]
        exact (insert_first (l := x :: t) (fun y hy => by
          rcases List.mem_cons.1 hy with rfl | hy
          · exact hlt
          · exact less_trans hlt (h.1 y hy))).symm
theorem told_seek (l : List Named) (n : List UInt8) (z : Value) : (DataW.map (told l)).atKey (.string n) (.held z) = .held ((seek l n).getD z) := by
  induction l with
  | nil => rfl
  | cons x t ih =>
    simp only [seek, DataW.atKey, told, List.map_cons, List.find?_cons, Lit.sameKey] at ih ⊢
    by_cases hx : x.1 = n
    · simp [hx]
    · have : ((x.1 == n) = false) := by simpa using hx
      rw [this, if_neg hx]
      exact ih
theorem told_has (l : List Named) (n : List UInt8) : Maps.has (.map (told l)) (.string n) = (seek l n).isSome := by
  induction l with
  | nil => rfl
  | cons x t ih =>
    simp only [seek, Maps.has, told, List.map_cons, List.any_cons, Lit.sameKey] at ih ⊢
    by_cases hx : x.1 = n
    · simp [hx]
    · have : ((x.1 == n) = false) := by simpa using hx
      rw [this, if_neg hx, Bool.false_or]
      exact ih

/-- The map at b holds just these. -/
def MapIs (P : Program) (k : TypeId) (w : World) (b : Nat) (l : List Named) : Prop := Up l ∧ w.ownsMap P k asIs b l.length (.map (told l))
theorem owns_exact {P : Program} {k : TypeId} {w : World} {b n : Nat} {l : List Named} (h : w.ownsMap P k asIs b n (.map (told l))) : w.ownsMap P k asIs b l.length (.map (told l)) := by
  obtain ⟨es, clock, hb, F, _, hD⟩ := h
  refine ⟨es, clock, hb, F, ?_, hD⟩
  have e := DataW.map.inj hD
  have := congrArg List.length e
  rw [length_sorted] at this
  simp [told] at this
  omega
theorem MapIs.made (P : Program) (k : TypeId) (w : World) : MapIs P k (w.alloc (.map #[] 0)) w.heap.size [] := ⟨trivial, World.ownsMap_made w P k asIs⟩
theorem MapIs.lt {P : Program} {k : TypeId} {w : World} {b : Nat} {l : List Named} (h : MapIs P k w b l) : b < w.heap.size := h.2.lt
theorem MapIs.kept {P : Program} {k : TypeId} {w w' : World} {b : Nat} {l : List Named} {row : Option Nat} (h : MapIs P k w b l) (hg : w.grownBy w' row) (hne : some b ≠ row) : MapIs P k w' b l := ⟨h.1, h.2.kept hg hne⟩
theorem key_of {P : Program} {k : TypeId} (hk : P.underlying k = some .string) (n : List UInt8) (hn : n.length ≤ maxLen) : keyOf P k (.string ⟨n.toArray⟩) = some (.string n) := by
  unfold keyOf mapKey
  rw [hk]
  show (if n.toArray.size ≤ maxLen then some (Lit.string n.toArray.toList) else none) = _
  rw [if_pos (by simpa using hn)]
/-- m[n], whether it is there or not. -/
theorem MapIs.look {P : Program} {t k e : TypeId} {w : World} {b : Nat} {l : List Named} (h : MapIs P k w b l) (hk : P.underlying k = some .string) (ht : P.underlying t = some (.map k e)) {z : Value} (hz : (zeroValue e).run P w = .ok z w) (n : List UInt8) (hn : n.length ≤ maxLen) :
    (Instr.lookup t (.map (some b)) (.string ⟨n.toArray⟩) false).run P w = .ok ((seek l n).getD z) w := by
  obtain ⟨v, ps, hr, hv⟩ := h.2.lookup (Maps.string_keyed hk) ht hz (show asIs z = some (.held z, []) from rfl) (key_of hk n hn)
  rw [told_seek] at hv
  have : v = (seek l n).getD z := by
    have h1 : DataW.held v = DataW.held ((seek l n).getD z) := congrArg Prod.fst (Option.some.inj hv)
    exact DataW.held.inj h1
  rw [hr, this]
theorem MapIs.look_ok {P : Program} {t k e : TypeId} {w : World} {b : Nat} {l : List Named} (h : MapIs P k w b l) (hk : P.underlying k = some .string) (ht : P.underlying t = some (.map k e)) {z : Value} (hz : (zeroValue e).run P w = .ok z w) (n : List UInt8) (hn : n.length ≤ maxLen) :
    (Instr.lookup t (.map (some b)) (.string ⟨n.toArray⟩) true).run P w = .ok (.tuple #[(seek l n).getD z, .bool (seek l n).isSome]) w := by
  obtain ⟨v, ps, hr, hv⟩ := h.2.look_ok (Maps.string_keyed hk) ht hz (show asIs z = some (.held z, []) from rfl) (key_of hk n hn)
  rw [told_seek] at hv
  have : v = (seek l n).getD z := by
    have h1 : DataW.held v = DataW.held ((seek l n).getD z) := congrArg Prod.fst (Option.some.inj hv)
    exact DataW.held.inj h1
  rw [hr, this, told_has]
/-- m[n] = v. -/
theorem MapIs.store {P : Program} {t k e : TypeId} {w : World} {b : Nat} {l : List Named} (h : MapIs P k w b l) (hk : P.underlying k = some .string) (ht : P.underlying t = some (.map k e)) (n : List UInt8) (hn : n.length ≤ maxLen) (hl : l.length < maxLen) (v : Value) :
    ∃ w', (Instr.mapUpdate t (.map (some b)) (.string ⟨n.toArray⟩) v).run P w = .ok () w' ∧ MapIs P k w' b (lay l n v) ∧ w.grownBy w' (some b) := by
  obtain ⟨w', hr, ho, hg⟩ := h.2.update (Maps.string_keyed hk) ht hl (key_of hk n hn) (show asIs v = some (.held v, []) from rfl)
  refine ⟨w', hr, ⟨(lay_up n v h.1).1, ?_⟩, hg⟩
  have e : (DataW.map (told l)).put (.string n) (.held v) = .map (told (lay l n v)) := by rw [told_lay n v h.1]; rfl
  rw [e] at ho
  exact owns_exact ho
/-- delete(m, n). -/
theorem MapIs.gone {P : Program} {t k e : TypeId} {w : World} {b : Nat} {l : List Named} (h : MapIs P k w b l) (hk : P.underlying k = some .string) (ht : P.underlying t = some (.map k e)) (n : List UInt8) (hn : n.length ≤ maxLen) (ty : TypeId) :
    ∃ w', (Builtin.delete_ #[t, k] ty #[.map (some b), .string ⟨n.toArray⟩]).run P w = .ok (.tuple #[]) w' ∧ MapIs P k w' b (strike l n) ∧ w.mapTurned w' b := by
  obtain ⟨w', hr, ho, hg⟩ := h.2.drop (Maps.string_keyed hk) ht (key_of hk n hn) ty
  refine ⟨w', hr, ⟨strike_up n h.1, ?_⟩, hg⟩
  have e : (DataW.map (told l)).del (.string n) = .map (told (strike l n)) := by rw [told_strike]; rfl
  rw [e] at ho
  exact owns_exact ho
theorem told_size (l : List Named) : Maps.size (.map (told l)) = l.length := by simp [Maps.size, told]
end Go.Proofs.YthnebhddakfadaaGreatDoor
namespace Go.Proofs.YthnebhddakfadaaGreatDoor
open Go.RowKit Go.Deep

/-- How records of a kind lie in memory: their cells, and what else is to be read where they point. -/
structure Kind (α : Type) where
  size : Nat
  vals : α → List Value
  held : World → α → Prop
/-- A kind as it must be. -/
structure Kind.Ok {α : Type} (k : Kind α) : Prop where
  pos : 0 < k.size
  len : ∀ e, (k.vals e).length = k.size
  one : ∀ e, ∀ u ∈ k.vals e, u.oneCell' = true
  below : ∀ {w w' : World} {e : α}, k.held w e → Below w.heap.size w w' → k.held w' e

def rv {α : Type} (k : Kind α) : List α → List Value
  | [] => []
  | e :: t => k.vals e ++ rv k t
section
variable {α : Type} {k : Kind α}
theorem rv_append (a b : List α) : rv k (a ++ b) = rv k a ++ rv k b := by
  induction a with
  | nil => rfl
  | cons e t ih => simp only [List.cons_append, rv, ih, List.append_assoc]
theorem rv_length (K : k.Ok) (es : List α) : (rv k es).length = es.length * k.size := by
  induction es with
  | nil => simp [rv]
  | cons e t ih => rw [rv, List.length_append, K.len, ih, List.length_cons, Nat.succ_mul]; omega
theorem rv_one (K : k.Ok) (es : List α) : ∀ u ∈ rv k es, u.oneCell' = true := by
  induction es with
  | nil => intro u h; cases h
  | cons e t ih =>
    intro u h
    rcases List.mem_append.1 h with h | h
    · exact K.one e u h
    · exact ih u h
theorem rv_at (K : k.Ok) : ∀ {es : List α} {i : Nat} {e : α} (j : Nat), es[i]? = some e → j < k.size → (rv k es)[i * k.size + j]? = (k.vals e)[j]?
  | [], _, _, _, h, _ => by simp at h
  | a :: t, 0, e, j, h, hj => by
    simp only [List.getElem?_cons_zero, Option.some.injEq] at h
    subst h
    rw [Nat.zero_mul, Nat.zero_add]
    simp only [rv]
    rw [List.getElem?_append_left (by rw [K.len]; exact hj)]
  | a :: t, i + 1, e, j, h, hj => by
    simp only [List.getElem?_cons_succ] at h
    have ih := rv_at K j h hj
    simp only [rv]
    rw [List.getElem?_append_right (by rw [K.len, Nat.succ_mul]; omega), K.len, ← ih]
    congr 1
    rw [Nat.succ_mul]
    omega
theorem rv_get (K : k.Ok) : ∀ {es : List α} {j : Nat} {u : Value}, (rv k es)[j]? = some u → ∃ i q e, j = i * k.size + q ∧ q < k.size ∧ es[i]? = some e ∧ (k.vals e)[q]? = some u
  | [], j, u, h => by simp [rv] at h
  | e :: t, j, u, h => by
    simp only [rv] at h
    rcases Nat.lt_or_ge j k.size with hj | hj
    · rw [List.getElem?_append_left (by rw [K.len]; exact hj)] at h
      exact ⟨0, j, e, by rw [Nat.zero_mul, Nat.zero_add], hj, rfl, h⟩
    · rw [List.getElem?_append_right (by rw [K.len]; exact hj), K.len] at h
      obtain ⟨i, q, a, h1, h2, h3, h4⟩ := rv_get K h
      exact ⟨i + 1, q, a, by rw [Nat.succ_mul]; omega, h2, by simpa using h3, h4⟩

/-- The slice (ao, n, c) holds these records. -/
structure RSrc (k : Kind α) (w : World) (ao : Option Addr) (n c : Nat) (es : List α) : Prop where
  len : es.length = n
  cap : n ≤ c
  nil : ao = none → n = 0 ∧ c = 0
  cells : ∀ ad, ao = some ad → ∀ j u, (rv k es)[j]? = some u → w.cell? (ad.add j) = some u
  held : ∀ e ∈ es, k.held w e
theorem RSrc.empty {w : World} {ao : Option Addr} {c : Nat} (h : ao = none → c = 0) : RSrc k w ao 0 c [] :=
  ⟨rfl, Nat.zero_le _, fun e => ⟨rfl, h e⟩, fun _ _ j u hu => by simp [rv] at hu, fun _ h => by cases h⟩
theorem RSrc.below (K : k.Ok) {w w' : World} {ao : Option Addr} {n c : Nat} {es : List α} (h : RSrc k w ao n c es) (hb : Below w.heap.size w w') : RSrc k w' ao n c es :=
  ⟨h.len, h.cap, h.nil, fun ad had j u hu => by
    have := h.cells ad had j u hu
    rw [hb.cell (World.block_lt_of_cell? w _ this)]
    exact this, fun e he => K.below (h.held e he) hb⟩
/-- The cells of the i-th record. -/
theorem RSrc.form (K : k.Ok) {w : World} {ao : Option Addr} {n c : Nat} {es : List α} (h : RSrc k w ao n c es) (hn : 0 < n) : ∃ b off, ao = some ⟨b, off, none⟩ ∧ b < w.heap.size ∧
    ∀ i e, es[i]? = some e → ∀ j u, (k.vals e)[j]? = some u → w.cell? ⟨b, off + (i * k.size + j), none⟩ = some u := by
  cases ao with
  | none => have := (h.nil rfl).1; omega
  | some ad =>
    obtain ⟨b, off, spot⟩ := ad
    obtain ⟨e0, h0⟩ : ∃ e, es[0]? = some e := ⟨es[0]'(by rw [h.len]; exact hn), List.getElem?_eq_getElem _⟩
    obtain ⟨u0, hu0⟩ : ∃ u, (k.vals e0)[0]? = some u := ⟨(k.vals e0)[0]'(by rw [K.len]; exact K.pos), List.getElem?_eq_getElem _⟩
    have c0 := h.cells _ rfl (0 * k.size + 0) _ ((rv_at K 0 h0 K.pos).trans hu0)
    have hspot : spot = none := by simpa [Addr.add] using World.cell?_spot c0
    subst hspot
    rw [Addr.add_mid] at c0
    have hlt : b < w.heap.size := World.block_lt_of_cell? w _ c0
    refine ⟨b, off, rfl, hlt, fun i e he j u hu => ?_⟩
    have hj : j < k.size := by
      have := (List.getElem?_eq_some_iff.1 hu).1
      rwa [K.len] at this
    have := h.cells _ rfl (i * k.size + j) _ ((rv_at K j he hj).trans hu)
    rwa [Addr.add_mid] at this
theorem RSrc.own (K : k.Ok) {w : World} {base n t : Nat} {v : Value} {es : List α} (h : w.ownsRow base t k.size v n (rv k es)) (hh : ∀ e ∈ es, k.held w e) : ∃ ao c, v = .slice ao n c ∧ RSrc k w ao n c es ∧ c ≤ maxLen := by
  have hl : es.length = n := by
    have := h.1
    rw [rv_length K] at this
    exact Nat.eq_of_mul_eq_mul_right K.pos this
  rcases h.2 with ⟨rfl, h0⟩ | ⟨g, cap, cur, rfl, _, _, hc, hm, _⟩
  · subst h0
    have : es = [] := List.length_eq_zero_iff.1 hl
    subst this
    exact ⟨none, 0, rfl, RSrc.empty (fun _ => rfl), Nat.zero_le _⟩
  · exact ⟨_, _, rfl, ⟨hl, hc, (fun e => by cases e), fun ad had j u hu => by cases had; exact h.cells rfl j u hu, hh⟩, hm⟩
/-- One record, laid as a row of its own. -/
theorem rec_cells (w : World) (t : TypeId) (e : α) (j : Nat) (u : Value) (h : (k.vals e)[j]? = some u) : (w.alloc (.cells (k.vals e).toArray t)).cell? ((⟨w.heap.size, 0, none⟩ : Addr).add j) = some u := by
  rw [Addr.add_mid, Nat.zero_add, cell_of_row _ _ _ _ _ _ (heap_alloc_new w _)]
  simpa using h
/-- append(v, f), v nil or the call's own row of records, f laid as a row of its own. -/
theorem wpList_append_rec (K : k.Ok) {P : Program} {w : World} {ops : Array Oper} {rest : List Oper} {o : Oper} {a : Act} {Q : Exit → Act → World → Prop} (hgd : o.guard = none) (s x : Operand) (t tF : TypeId)
    (ho : o.op = .call { callee := .builtin .append, args := #[s, x], argTypes := #[t, t] })
    (base : Nat) (i : TypeInfo) (z : Value) (bytes : Nat) (ht : P.underlying t = some (.slice tF)) (hi : P.info? tF = some i) (hz : i.zero = some z)
    (hsize : i.size = k.size) (hby : i.bytes = bytes) (hzs : z.cells.size = k.size)
    (v : Value) (n : Nat) (es : List α) (hs : a.eval s = v) (hown : w.ownsRow base tF k.size v n (rv k es))
    (ad : Addr) (c : Nat) (e : α) (hx : a.eval x = .slice (some ad) 1 c) (hcells : ∀ j u, (k.vals e)[j]? = some u → w.cell? (ad.add j) = some u)
    (hb : n + 1 ≤ maxLen) (hbytes : (n + 1) * bytes ≤ 140737488355328) (hbase : base ≤ w.heap.size)
    (h : ∀ v' w', w'.ownsRow base tF k.size v' (n + 1) (rv k (es ++ [e])) → w.grownBy w' v.ownBlock → wpList P ops Q rest (a.put o.dst v') w') : wpList P ops Q (o :: rest) a w := by
  refine wpList_append_own w hgd s x t ho base tF i z k.size bytes ht hi hz hsize hby hzs K.pos v n (rv k es) hs hown ad 1 c (k.vals e) hx (by rw [K.len, Nat.one_mul]) hcells (K.one e) hb hbytes hbase ?_
  intro v' w' h1 h2 _
  refine h v' w' ?_ h2
  rw [rv_append]
  simpa [rv] using h1
theorem mapM_at {w : World} {a : Addr} : ∀ (l : List Nat) {us : List Value}, (l.mapM fun i => w.cell? (a.add i)) = some us → ∀ (j q : Nat) (u : Value), l[j]? = some q → us[j]? = some u → w.cell? (a.add q) = some u
  | [], us, h, j, q, u, hq, _ => by simp at hq
  | i :: t, us, h, j, q, u, hq, hu => by
    rw [List.mapM_cons] at h
    cases hc : w.cell? (a.add i) with
    | none => rw [hc] at h; cases h
    | some v =>
      rw [hc] at h
      cases hm : (t.mapM fun i => w.cell? (a.add i)) with
      | none => simp only [hm] at h; cases h
      | some vs =>
        simp only [hm] at h
        have hus : us = v :: vs := (Option.some.inj h).symm
        subst hus
        cases j with
        | zero =>
          simp only [List.getElem?_cons_zero, Option.some.injEq] at hq hu
          subst hq hu
          exact hc
        | succ j =>
          simp only [List.getElem?_cons_succ] at hq hu
          exact mapM_at t hm j q u hq hu
theorem vals_at {w : World} {a : Addr} {us : List Value} {m : Nat} (h : w.cells? 0 a m = some us) (hl : us.length = m) (j : Nat) (u : Value) (hu : us[j]? = some u) : w.cell? (a.add j) = some u := by
  unfold World.cells? at h
  rw [if_pos (Nat.zero_le _)] at h
  have hj : j < m := by rw [← hl]; exact (List.getElem?_eq_some_iff.1 hu).1
  exact mapM_at _ h j j u (by simp [hj]) hu
/-- A slice of records among the arguments: each in its place, and what its datum says. -/
theorem open_recs (K : k.Ok) {H : Type} {enc : TypeId × Value → H} {P : Program} {W : World} {n : Nat} {tFs tF : TypeId} {v : Value} {x : DataW H × List MemPlace} {Q : α → DataW H → Prop} (hFs : P.underlying tFs = some (.slice tF)) (cF : P.cellsOf tF = k.size)
    (one : ∀ (m : Nat) (cs : List Value) (y : DataW H × List MemPlace), DataW.trod enc P W 0 (fun _ => true) true m tF cs = some y → ∃ e, cs = k.vals e ∧ k.held W e ∧ Q e y.1)
    (h : DataW.trod enc P W 0 (fun _ => true) true n tFs [v] = some x) :
    ∃ ao m c es, v = .slice ao m c ∧ RSrc k W ao m c es ∧ c ≤ maxLen ∧ ((m = 0 ∧ x.1 = .nil) ∨ ∃ ds spare, x.1 = .slice ds spare ∧ ds.length = m ∧ ds.length + spare.length = c ∧ ∀ (i : Nat) e d, es[i]? = some e → ds[i]? = some d → Q e d) := by
  rcases open_slice hFs h with ⟨hcs, hx⟩ | ⟨a, len, cap, m, q, D, Pl, hcs, _, hl, hm, hmm, hx, hall⟩
  · simp only [List.cons.injEq, and_true] at hcs
    exact ⟨none, 0, 0, [], hcs, RSrc.empty (fun _ => rfl), Nat.zero_le _, .inl ⟨rfl, by rw [hx]⟩⟩
  · simp only [List.cons.injEq, and_true] at hcs
    simp only [if_true] at hmm
    subst hmm
    rw [cF] at hall
    have pick : ∃ E : Nat → Option α, ∀ i, i < len → ∃ e, E i = some e ∧ W.cells? 0 (a.add (i * k.size)) k.size = some (k.vals e) ∧ k.held W e ∧ Q e (D i) := by
      have each : ∀ i, ∃ o : Option α, i < len → ∃ e, o = some e ∧ W.cells? 0 (a.add (i * k.size)) k.size = some (k.vals e) ∧ k.held W e ∧ Q e (D i) := by
        intro i
        by_cases hi : i < len
        · obtain ⟨cs', h1, h2⟩ := hall i (by omega)
          obtain ⟨e, h3, h4, h5⟩ := one _ _ _ h2
          exact ⟨some e, fun _ => ⟨e, rfl, by rw [h1, h3], h4, h5⟩⟩
        · exact ⟨none, fun h => absurd h hi⟩
      exact ⟨fun i => (each i).choose, fun i => (each i).choose_spec⟩
    obtain ⟨E, hE⟩ := pick
    have list : ∀ p, p ≤ len → ∃ es : List α, es.length = p ∧ ∀ i e, es[i]? = some e → E i = some e := by
      intro p
      induction p with
      | zero => intro _; exact ⟨[], rfl, fun i e he => by simp at he⟩
      | succ p ih =>
        intro hp
        obtain ⟨es, h1, h2⟩ := ih (by omega)
        obtain ⟨e, he, _⟩ := hE p (by omega)
        refine ⟨es ++ [e], by simp [h1], fun i e' hi => ?_⟩
        rcases Nat.lt_or_ge i es.length with hlt | hge
        · rw [List.getElem?_append_left hlt] at hi
          exact h2 i e' hi
        · rw [List.getElem?_append_right hge] at hi
          have h0 : i - es.length = 0 := by
            have := (List.getElem?_eq_some_iff.1 hi).1
            simp at this
            omega
          rw [h0] at hi
          simp only [List.getElem?_cons_zero, Option.some.injEq] at hi
          subst hi
          rw [show i = p by omega]
          exact he
    obtain ⟨es, hes, hat⟩ := list len (Nat.le_refl _)
    have fact : ∀ i e, es[i]? = some e → W.cells? 0 (a.add (i * k.size)) k.size = some (k.vals e) ∧ k.held W e ∧ Q e (D i) := fun i e he => by
      have hi : i < len := by rw [← hes]; exact (List.getElem?_eq_some_iff.1 he).1
      obtain ⟨e', h1, h2⟩ := hE i hi
      rw [hat i e he, Option.some.injEq] at h1
      subst h1
      exact h2
    refine ⟨some a, len, m, es, hcs, ⟨hes, hl, (fun h => by cases h), fun ad had j u hu => ?_, fun e he => ?_⟩, hm, .inr ⟨_, _, by rw [hx], by simp, by simp; omega, fun i e d he hd => ?_⟩⟩
    · cases had
      obtain ⟨i, p, e, rfl, hp, he, hv⟩ := rv_get K hu
      have := vals_at (fact i e he).1 (K.len e) p u hv
      rwa [add_add] at this
    · obtain ⟨i, hi⟩ := List.getElem?_of_mem he
      exact (fact i e hi).2.1
    · have hi : i < len := by rw [← hes]; exact (List.getElem?_eq_some_iff.1 he).1
      rw [List.getElem?_map, List.getElem?_range hi] at hd
      cases hd
      exact (fact i e he).2.2
end
end Go.Proofs.YthnebhddakfadaaGreatDoor
namespace Go.Proofs.YthnebhddakfadaaGreatDoor.Dk
structure File where
  name : List UInt8
  safe : Nat
  bytes : List UInt8

/-- May a name be? -/
def named (s : List UInt8) : Bool := decide (1 ≤ s.length) && decide (s.length ≤ 100) && s.all (fun b => !(b == 0))
/-- What a file costs; what all cost. -/
def cost (f : File) : Nat := 16 + f.name.length + f.bytes.length
def used : List File → Nat
  | [] => 0
  | f :: t => cost f + used t
/-- A file by its name. -/
def look : List File → List UInt8 → Option File
  | [], _ => none
  | f :: t, n => if f.name = n then some f else look t n
/-- A file in its place, or in another one's. -/
def put : List File → File → List File
  | [], f => [f]
  | g :: t, f => if less g.name f.name then g :: put t f else if g.name = f.name then f :: t else f :: g :: t
/-- All but one. -/
def drop : List File → List UInt8 → List File
  | [], _ => []
  | g :: t, n => if g.name = n then drop t n else g :: drop t n
/-- Rising by name. -/
def Rising : List File → Prop
  | [] => True
  | f :: t => (∀ g ∈ t, less f.name g.name = true) ∧ Rising t

structure Disk where
  cap : Nat
  files : List File
  done : Nat
  left : Option Nat
  dark : Bool

/-- A raw write is to be done: false where it is the cut. -/
def tick (d : Disk) : Bool × Disk :=
  match d.left with
  | none => (true, { d with done := d.done + 1 })
  | some 0 => (false, { d with dark := true, left := none })
  | some (k + 1) => (true, { d with done := d.done + 1, left := some k })
/-- It is done with these files, or it is the cut. -/
def write (d : Disk) (l : List File) : Nat × Disk := if (tick d).1 then (0, { (tick d).2 with files := l }) else (5, (tick d).2)
/-- An error, or the files that a raw write would leave. -/
def act (d : Disk) : Nat ⊕ List File → Nat × Disk
  | .inl e => (e, d)
  | .inr l => write d l
/-- Ahead of all else: what may not be; the power. -/
def guard (dark ok : Bool) (r : Nat ⊕ List File) : Nat ⊕ List File := if ok then (if dark then .inl 5 else r) else .inl 1
def planAppend (c : Nat) (l : List File) (n b : List UInt8) : Nat ⊕ List File :=
  match look l n with
  | some f => if c < used l + b.length then .inl 4 else .inr (put l { f with bytes := f.bytes ++ b })
  | none => if c < used l + (b.length + 16 + n.length) then .inl 4 else .inr (put l ⟨n, 0, b⟩)
def planSync (l : List File) (n : List UInt8) : Nat ⊕ List File :=
  match look l n with
  | some f => .inr (put l { f with safe := f.bytes.length })
  | none => .inl 3
/-- How much more room a rename wants. -/
def wants (l : List File) (a b : List UInt8) : Int :=
  match look l b with
  | some g => if a = b then (b.length : Int) - a.length else (b.length : Int) - a.length - cost g
  | none => (b.length : Int) - a.length
def planRename (c : Nat) (l : List File) (a b : List UInt8) : Nat ⊕ List File :=
  match look l a with
  | some f => if (c : Int) - used l < wants l a b then .inl 4 else .inr (put (drop l a) { f with name := b })
  | none => .inl 3
def planRemove (l : List File) (n : List UInt8) : Nat ⊕ List File :=
  match look l n with
  | some _ => .inr (drop l n)
  | none => .inl 3
/-- The four raw writes. -/
def plan (c : Nat) (l : List File) (dark : Bool) (k : Nat) (a b t : List UInt8) : Nat ⊕ List File :=
  match k with
  | 0 => guard dark (named a && decide (t.length ≤ 4096)) (planAppend c l a t)
  | 1 => guard dark (named a) (planSync l a)
  | 2 => guard dark (named a && named b) (planRename c l a b)
  | _ => guard dark (named a) (planRemove l a)
def raw (d : Disk) (k : Nat) (a b t : List UInt8) : Nat × Disk := act d (plan d.cap d.files d.dark k a b t)
/-- What a crash leaves of a file. -/
def kept (f : File) (p : Nat) : File := ⟨f.name, f.safe + p % (f.bytes.length - f.safe + 1), f.bytes.take (f.safe + p % (f.bytes.length - f.safe + 1))⟩
def keptAll : List File → List Nat → List File
  | [], _ => []
  | f :: t, [] => kept f 0 :: keptAll t []
  | f :: t, p :: ps => kept f p :: keptAll t ps
def crash (d : Disk) (ps : List Nat) : Disk := { d with files := keptAll d.files ps, left := none, dark := false }

/-- What holds of every disk. -/
structure Good (d : Disk) : Prop where
  rising : Rising d.files
  names : ∀ f ∈ d.files, named f.name = true
  safes : ∀ f ∈ d.files, f.safe ≤ f.bytes.length
  room : used d.files ≤ d.cap
  lit : d.dark = true → d.left = none

theorem look_some {l : List File} {n : List UInt8} {f : File} (h : look l n = some f) : f ∈ l ∧ f.name = n := by
  induction l with
  | nil => simp [look] at h
  | cons g t ih =>
    simp only [look] at h
    split at h
    · rename_i hg
      cases h
      exact ⟨by simp, hg⟩
    · exact ⟨by simp [(ih h).1], (ih h).2⟩
theorem look_none {l : List File} {n : List UInt8} (h : look l n = none) : ∀ f ∈ l, f.name ≠ n := by
  induction l with
  | nil => simp
  | cons g t ih =>
    simp only [look] at h
    split at h
    · cases h
    · rename_i hg
      intro f hf
      rcases List.mem_cons.1 hf with rfl | hf
      · exact hg
      · exact ih h f hf
theorem look_mem {l : List File} {f : File} (hr : Rising l) (h : f ∈ l) : look l f.name = some f := by
  induction l with
  | nil => simp at h
  | cons g t ih =>
    simp only [look]
    rcases List.mem_cons.1 h with rfl | h
    · rw [if_pos rfl]
    · have := hr.1 f h
      rw [if_neg (fun e => by rw [e, less_irrefl] at this; cases this)]
      exact ih hr.2 h
theorem put_mem {l : List File} {f g : File} (h : g ∈ put l f) : g = f ∨ (g ∈ l ∧ (Rising l → g.name ≠ f.name)) := by
  induction l with
  | nil => simp [put] at h; exact .inl h
  | cons k t ih =>
    simp only [put] at h
    split at h
    · rename_i hk
      rcases List.mem_cons.1 h with rfl | h
      · exact .inr ⟨by simp, fun _ e => by rw [e, less_irrefl] at hk; cases hk⟩
      · rcases ih h with rfl | ⟨h1, h2⟩
        · exact .inl rfl
        · exact .inr ⟨by simp [h1], fun hr => h2 hr.2⟩
    · split at h
      · rename_i hk he
        rcases List.mem_cons.1 h with rfl | h
        · exact .inl rfl
        · refine .inr ⟨by simp [h], fun hr e => ?_⟩
          have := hr.1 g h
          rw [he, e, less_irrefl] at this
          cases this
      · rename_i hk he
        rcases List.mem_cons.1 h with rfl | h
        · exact .inl rfl
        · refine .inr ⟨h, fun hr e => ?_⟩
          rcases List.mem_cons.1 h with rfl | h
          · exact he e
          · have h1 := hr.1 g h
            rw [e] at h1
            exact hk h1
theorem put_self (l : List File) (f : File) : f ∈ put l f := by
  induction l with
  | nil => simp [put]
  | cons k t ih =>
    simp only [put]
    split
    · simp [ih]
    · split <;> simp
theorem put_keeps {l : List File} {f g : File} (h : g ∈ l) (hn : g.name ≠ f.name) : g ∈ put l f := by
  induction l with
  | nil => simp at h
  | cons k t ih =>
    simp only [put]
    split
    · rcases List.mem_cons.1 h with rfl | h
      · simp
      · simp [ih h]
    · split
      · rename_i he
        rcases List.mem_cons.1 h with rfl | h
        · exact absurd he hn
        · simp [h]
      · rw [List.mem_cons]
        exact .inr h
theorem put_rising {l : List File} (f : File) (hr : Rising l) : Rising (put l f) := by
  induction l with
  | nil => exact ⟨by simp, trivial⟩
  | cons k t ih =>
    simp only [put]
    split
    · rename_i hk
      refine ⟨fun g hg => ?_, ih hr.2⟩
      rcases put_mem hg with rfl | ⟨h1, _⟩
      · exact hk
      · exact hr.1 g h1
    · split
      · rename_i hk he
        refine ⟨fun g hg => ?_, hr.2⟩
        rw [← he]
        exact hr.1 g hg
      · rename_i hk he
        have hlt : less f.name k.name = true := by
          cases hx : less f.name k.name with
          | true => rfl
          | false => exact absurd (less_total (by simpa using hk) hx) he
        refine ⟨fun g hg => ?_, hr⟩
        rcases List.mem_cons.1 hg with rfl | hg
        · exact hlt
        · exact less_trans hlt (hr.1 g hg)
theorem drop_mem {l : List File} {n : List UInt8} {g : File} : g ∈ drop l n ↔ g ∈ l ∧ g.name ≠ n := by
  induction l with
  | nil => simp [drop]
  | cons k t ih =>
    simp only [drop]
    split
    · rename_i hk
      rw [ih, List.mem_cons]
      constructor
      · rintro ⟨h1, h2⟩
        exact ⟨.inr h1, h2⟩
      · rintro ⟨rfl | h1, h2⟩
        · exact absurd hk h2
        · exact ⟨h1, h2⟩
    · rename_i hk
      rw [List.mem_cons, List.mem_cons, ih]
      constructor
      · rintro (rfl | ⟨h1, h2⟩)
        · exact ⟨.inl rfl, hk⟩
        · exact ⟨.inr h1, h2⟩
      · rintro ⟨rfl | h1, h2⟩
        · exact .inl rfl
        · exact .inr ⟨h1, h2⟩
theorem drop_rising {l : List File} (n : List UInt8) (hr : Rising l) : Rising (drop l n) := by
  induction l with
  | nil => trivial
  | cons k t ih =>
    simp only [drop]
    split
    · exact ih hr.2
    · exact ⟨fun g hg => hr.1 g (drop_mem.1 hg).1, ih hr.2⟩
/-- What all cost, one file in another's place. -/
theorem used_put_new {l : List File} {f : File} (h : look l f.name = none) : used (put l f) = used l + cost f := by
  induction l with
  | nil => simp [put, used]
  | cons k t ih =>
    simp only [look] at h
    split at h
    · cases h
    · rename_i hk
      simp only [put]
      split
      · simp only [used, ih h]; omega
      · simp only [used]
        omega
theorem used_put_old {l : List File} {f g : File} (hr : Rising l) (h : look l f.name = some g) : used (put l f) + cost g = used l + cost f := by
  induction l with
  | nil => simp [look] at h
  | cons k t ih =>
    simp only [look] at h
    split at h
    · rename_i hk
      cases h
      have : ¬ less g.name f.name = true := by rw [hk, less_irrefl]; simp
      simp only [put]
      rw [if_neg this, if_pos hk]
      simp only [used]
      omega
    · rename_i hk
      have hm := (look_some h).1
      have hn := (look_some h).2
      have hlt := hr.1 g hm
      rw [hn] at hlt
      simp only [put, hlt, if_true, used]
      have := ih hr.2 h
      omega
theorem drop_none {l : List File} {n : List UInt8} (h : ∀ f ∈ l, f.name ≠ n) : drop l n = l := by
  induction l with
  | nil => rfl
  | cons k t ih =>
    simp only [drop]
    rw [if_neg (h k (by simp)), ih (fun f hf => h f (by simp [hf]))]
theorem used_drop {l : List File} {n : List UInt8} {g : File} (hr : Rising l) (h : look l n = some g) : used (drop l n) + cost g = used l := by
  induction l with
  | nil => simp [look] at h
  | cons k t ih =>
    simp only [look] at h
    simp only [drop]
    split at h
    · rename_i hk
      cases h
      rw [if_pos hk, drop_none, used]
      · omega
      · intro f hf e
        have := hr.1 f hf
        rw [e, hk, less_irrefl] at this
        cases this
    · rename_i hk
      rw [if_neg hk]
      simp only [used]
      have := ih hr.2 h
      omega
theorem look_drop {l : List File} {a b : List UInt8} (h : a ≠ b) : look (drop l a) b = look l b := by
  induction l with
  | nil => rfl
  | cons k t ih =>
    simp only [drop, look]
    split
    · rename_i hk
      rw [if_neg (by rw [hk]; exact h), ih]
    · simp only [look]
      split
      · rfl
      · exact ih
theorem look_dropped (l : List File) (a : List UInt8) : look (drop l a) a = none := by
  induction l with
  | nil => rfl
  | cons k t ih =>
    simp only [drop]
    split
    · exact ih
    · rename_i hk
      simp only [look]
      rw [if_neg hk, ih]
theorem put_length (l : List File) (f : File) : (put l f).length ≤ l.length + 1 := by
  induction l with
  | nil => simp [put]
  | cons k t ih =>
    simp only [put]
    split
    · simp; omega
    · split <;> simp
theorem drop_length (l : List File) (n : List UInt8) : (drop l n).length ≤ l.length := by
  induction l with
  | nil => simp [drop]
  | cons k t ih =>
    simp only [drop]
    split <;> simp <;> omega
theorem drop_less {l : List File} {n : List UInt8} {g : File} (h : look l n = some g) : (drop l n).length + 1 ≤ l.length := by
  induction l with
  | nil => simp [look] at h
  | cons k t ih =>
    simp only [look] at h
    simp only [drop]
    split at h
    · rename_i hk
      rw [if_pos hk]
      have := drop_length t n
      simp; omega
    · rename_i hk
      rw [if_neg hk]
      have := ih h
      simp; omega
end Go.Proofs.YthnebhddakfadaaGreatDoor.Dk
namespace Go.Proofs.YthnebhddakfadaaGreatDoor.Dk
theorem tick_files (d : Disk) : (tick d).2.files = d.files ∧ (tick d).2.cap = d.cap := by
  unfold tick
  split <;> exact ⟨rfl, rfl⟩
theorem guard_inr {dark ok : Bool} {r : Nat ⊕ List File} {l : List File} (h : guard dark ok r = .inr l) : ok = true ∧ dark = false ∧ r = .inr l := by
  unfold guard at h
  cases ok <;> cases dark <;> simp at h
  exact ⟨rfl, rfl, h⟩
/-- What the files of a raw write are like. -/
structure Fine (c : Nat) (l m : List File) (a b : List UInt8) : Prop where
  rising : Rising m
  names : ∀ f ∈ m, named f.name = true
  safes : ∀ f ∈ m, f.safe ≤ f.bytes.length
  room : used m ≤ c
  keeps : ∀ g ∈ l, g.name ≠ a → g.name ≠ b → g ∈ m
  count : m.length ≤ l.length + 1
theorem plan_fine {c : Nat} {l m : List File} {dark : Bool} {k : Nat} {a b t : List UInt8} (hr : Rising l) (hn : ∀ f ∈ l, named f.name = true) (hs : ∀ f ∈ l, f.safe ≤ f.bytes.length) (hu : used l ≤ c)
    (h : plan c l dark k a b t = .inr m) : Fine c l m a b := by
  unfold plan at h
  split at h
  · obtain ⟨ok, _, h⟩ := guard_inr h
    have ha : named a = true := by simp at ok; exact ok.1
    unfold planAppend at h
    split at h
    · rename_i f hf
      have hfm := look_some hf
      split at h
      · cases h
      · rename_i hc
        cases h
        refine ⟨put_rising _ hr, fun g hg => ?_, fun g hg => ?_, ?_, fun g hg h1 _ => ?_, put_length _ _⟩
        · rcases put_mem hg with rfl | ⟨h1, _⟩
          · exact hn f hfm.1
          · exact hn g h1
        · rcases put_mem hg with rfl | ⟨h1, _⟩
          · have := hs f hfm.1
            simp; omega
          · exact hs g h1
        · have := used_put_old (f := { f with bytes := f.bytes ++ t }) (g := f) hr (by simpa [hfm.2] using hf)
          simp [cost] at this
          omega
        · exact put_keeps hg (by simpa [hfm.2] using h1)
    · rename_i hf
      split at h
      · cases h
      · rename_i hc
        cases h
        refine ⟨put_rising _ hr, fun g hg => ?_, fun g hg => ?_, ?_, fun g hg h1 _ => ?_, put_length _ _⟩
        · rcases put_mem hg with rfl | ⟨h1, _⟩
          · exact ha
          · exact hn g h1
        · rcases put_mem hg with rfl | ⟨h1, _⟩
          · simp
          · exact hs g h1
        · have := used_put_new (f := ⟨a, 0, t⟩) hf
          simp [cost] at this
          omega
        · exact put_keeps hg h1
  · obtain ⟨ok, _, h⟩ := guard_inr h
    unfold planSync at h
    split at h
    · rename_i f hf
      have hfm := look_some hf
      cases h
      refine ⟨put_rising _ hr, fun g hg => ?_, fun g hg => ?_, ?_, fun g hg h1 _ => ?_, put_length _ _⟩
      · rcases put_mem hg with rfl | ⟨h1, _⟩
        · exact hn f hfm.1
        · exact hn g h1
      · rcases put_mem hg with rfl | ⟨h1, _⟩
        · exact Nat.le_refl _
        · exact hs g h1
      · have := used_put_old (f := { f with safe := f.bytes.length }) (g := f) hr (by simpa [hfm.2] using hf)
        simp [cost] at this
        omega
      · exact put_keeps hg (by simpa [hfm.2] using h1)
    · cases h
  · obtain ⟨ok, _, h⟩ := guard_inr h
    have hb : named b = true := by simp at ok; exact ok.2
    unfold planRename at h
    split at h
    · rename_i f hf
      have hfm := look_some hf
      split at h
      · cases h
      · rename_i hc
        cases h
        refine ⟨put_rising _ (drop_rising _ hr), fun g hg => ?_, fun g hg => ?_, ?_, fun g hg h1 h2 => ?_, ?_⟩
        · rcases put_mem hg with rfl | ⟨h1, _⟩
          · exact hb
          · exact hn g (drop_mem.1 h1).1
        · rcases put_mem hg with rfl | ⟨h1, _⟩
          · exact hs f hfm.1
          · exact hs g (drop_mem.1 h1).1
        · have hd := used_drop hr hf
          have hfa : f.name.length = a.length := by rw [hfm.2]
          by_cases hab : a = b
          · subst hab
            have := used_put_new (l := drop l a) (f := { f with name := a }) (look_dropped l a)
            simp [cost] at this hd
            omega
          · have hlk := look_drop (l := l) hab
            unfold wants at hc
            cases hg : look l b with
            | none =>
              rw [hg] at hc hlk
              have := used_put_new (l := drop l a) (f := { f with name := b }) hlk
              simp [cost] at this hd hc
              omega
            | some g =>
              rw [hg] at hc hlk
              have := used_put_old (l := drop l a) (f := { f with name := b }) (drop_rising _ hr) hlk
              simp only [if_neg hab] at hc
              simp [cost] at this hd hc
              omega
        · exact put_keeps (drop_mem.2 ⟨hg, h1⟩) h2
        · have h1 := put_length (drop l a) { f with name := b }
          have h2 := drop_less hf
          omega
    · cases h
  · obtain ⟨ok, _, h⟩ := guard_inr h
    unfold planRemove at h
    split at h
    · rename_i f hf
      cases h
      refine ⟨drop_rising _ hr, fun g hg => hn g (drop_mem.1 hg).1, fun g hg => hs g (drop_mem.1 hg).1, ?_, fun g hg h1 _ => drop_mem.2 ⟨hg, h1⟩, ?_⟩
      · have := used_drop hr hf
        omega
      · have := drop_length l a
        omega
    · cases h
theorem plan_dark {c : Nat} {l m : List File} {dark : Bool} {k : Nat} {a b t : List UInt8} (h : plan c l dark k a b t = .inr m) : dark = false := by
  unfold plan at h
  split at h <;> exact (guard_inr h).2.1

/-- A raw write: its error, and the disk as it was; or done; or the cut. -/
theorem raw_cases (d : Disk) (k : Nat) (a b t : List UInt8) : (∃ e, plan d.cap d.files d.dark k a b t = .inl e ∧ raw d k a b t = (e, d)) ∨
    (∃ m, plan d.cap d.files d.dark k a b t = .inr m ∧ raw d k a b t = write d m) := by
  unfold raw
  cases h : plan d.cap d.files d.dark k a b t with
  | inl e => exact .inl ⟨e, rfl, rfl⟩
  | inr m => exact .inr ⟨m, rfl, rfl⟩
theorem raw_good {d : Disk} (k : Nat) (a b t : List UInt8) (g : Good d) : Good (raw d k a b t).2 := by
  rcases raw_cases d k a b t with ⟨e, _, h⟩ | ⟨m, hp, h⟩
  · rw [h]; exact g
  · rw [h]
    have hf := plan_fine g.rising g.names g.safes g.room hp
    have hd := plan_dark hp
    unfold write tick
    cases hl : d.left with
    | none => exact ⟨hf.rising, hf.names, hf.safes, hf.room, fun _ => rfl⟩
    | some j =>
      cases j with
      | zero => exact ⟨g.rising, g.names, g.safes, g.room, fun _ => rfl⟩
      | succ j => exact ⟨hf.rising, hf.names, hf.safes, hf.room, fun h => by simp [hd] at h⟩
/-- A renamed file has its bytes, and what is sure of them (DiskMoves). -/
theorem rename_moves {d : Disk} {a b t : List UInt8} (g : Good d) (h : (raw d 2 a b t).1 = 0) :
    ∃ f, look d.files a = some f ∧ look (raw d 2 a b t).2.files b = some { f with name := b } ∧ ((look (raw d 2 a b t).2.files a).isSome = true ↔ a = b) := by
  rcases raw_cases d 2 a b t with ⟨e, hp, hx⟩ | ⟨m, hp, hx⟩
  · rw [hx] at h
    simp only [plan] at hp
    unfold guard at hp
    split at hp
    · split at hp
      · cases hp; cases h
      · unfold planRename at hp
        split at hp
        · split at hp <;> cases hp
          cases h
        · cases hp; cases h
    · cases hp; cases h
  · have hf := plan_fine g.rising g.names g.safes g.room hp
    simp only [plan] at hp
    obtain ⟨_, _, hp⟩ := guard_inr hp
    unfold planRename at hp
    split at hp
    · rename_i f hl
      split at hp
      · cases hp
      · cases hp
        rw [hx] at h ⊢
        unfold write at h ⊢
        split at h
        · rename_i ht
          rw [if_pos ht]
          refine ⟨f, hl, look_mem hf.rising (f := { f with name := b }) (put_self _ _), ?_⟩
          simp only []
          constructor
          · intro hs
            by_cases hab : a = b
            · exact hab
            · exfalso
              cases hk : look (put (drop d.files a) { f with name := b }) a with
              | none => rw [hk] at hs; cases hs
              | some q =>
                obtain ⟨q1, q2⟩ := look_some hk
                rcases put_mem q1 with rfl | ⟨q3, _⟩
                · exact hab q2.symm
                · exact (drop_mem.1 q3).2 q2
          · rintro rfl
            rw [look_mem hf.rising (f := { f with name := a }) (put_self _ _)]
            rfl
        · cases h
    · cases hp
/-- Where a raw write is not done, no file has turned. -/
theorem raw_refused {d : Disk} {k : Nat} {a b t : List UInt8} (h : (raw d k a b t).1 ≠ 0) : (raw d k a b t).2.files = d.files := by
  rcases raw_cases d k a b t with ⟨e, _, hx⟩ | ⟨m, _, hx⟩
  · rw [hx]
  · rw [hx] at h ⊢
    unfold write at h ⊢
    split
    · rename_i ht; rw [if_pos ht] at h; simp at h
    · exact (tick_files d).1

theorem kept_le {f : File} (p : Nat) (h : f.safe ≤ f.bytes.length) : f.safe + p % (f.bytes.length - f.safe + 1) ≤ f.bytes.length := by
  have := Nat.mod_lt p (show 0 < f.bytes.length - f.safe + 1 by omega)
  omega
theorem keptAll_length : ∀ (l : List File) (ps : List Nat), (keptAll l ps).length = l.length
  | [], ps => by cases ps <;> rfl
  | f :: t, [] => by simp [keptAll, keptAll_length t []]
  | f :: t, p :: ps => by simp [keptAll, keptAll_length t ps]
/-- What a pick is, where there are fewer. -/
def pick (ps : List Nat) (i : Nat) : Nat := ps.getD i 0
theorem keptAll_at : ∀ (l : List File) (ps : List Nat) (i : Nat), (keptAll l ps)[i]? = (l[i]?).map fun f => kept f (pick ps i)
  | [], ps, i => by cases ps <;> simp [keptAll]
  | f :: t, [], i => by
    cases i with
    | zero => simp [keptAll, pick]
    | succ i => simp [keptAll, keptAll_at t [] i, pick]
  | f :: t, p :: ps, i => by
    cases i with
    | zero => simp [keptAll, pick]
    | succ i => simp [keptAll, keptAll_at t ps i, pick]
theorem keptAll_mem {l : List File} {ps : List Nat} {g : File} (h : g ∈ keptAll l ps) : ∃ f ∈ l, ∃ p, g = kept f p := by
  obtain ⟨i, hi⟩ := List.getElem?_of_mem h
  rw [keptAll_at] at hi
  cases hf : l[i]? with
  | none => rw [hf] at hi; cases hi
  | some f =>
    rw [hf] at hi
    exact ⟨f, List.mem_of_getElem? hf, _, (Option.some.inj hi).symm⟩
theorem keptAll_rising : ∀ {l : List File} (ps : List Nat), Rising l → Rising (keptAll l ps)
  | [], ps, _ => by cases ps <;> trivial
  | f :: t, [], h => by
    refine ⟨fun g hg => ?_, keptAll_rising [] h.2⟩
    obtain ⟨k, hk, p, rfl⟩ := keptAll_mem hg
    exact h.1 k hk
  | f :: t, p :: ps, h => by
    refine ⟨fun g hg => ?_, keptAll_rising ps h.2⟩
    obtain ⟨k, hk, p, rfl⟩ := keptAll_mem hg
    exact h.1 k hk
theorem kept_cost {f : File} (p : Nat) (h : f.safe ≤ f.bytes.length) : cost (kept f p) ≤ cost f := by
  have := kept_le p h
  simp [cost, kept]
  omega
theorem keptAll_used : ∀ {l : List File} (ps : List Nat), (∀ f ∈ l, f.safe ≤ f.bytes.length) → used (keptAll l ps) ≤ used l
  | [], ps, _ => by cases ps <;> exact Nat.le_refl _
  | f :: t, [], h => by
    have h1 := keptAll_used (l := t) [] (fun g hg => h g (by simp [hg]))
    have h2 := kept_cost 0 (h f (by simp))
    simp only [keptAll, used]
    omega
  | f :: t, p :: ps, h => by
    have h1 := keptAll_used (l := t) ps (fun g hg => h g (by simp [hg]))
    have h2 := kept_cost p (h f (by simp))
    simp only [keptAll, used]
    omega
theorem crash_good {d : Disk} (ps : List Nat) (g : Good d) : Good (crash d ps) := by
  refine ⟨keptAll_rising ps g.rising, fun f hf => ?_, fun f hf => ?_, Nat.le_trans (keptAll_used ps g.safes) g.room, fun h => by cases h⟩
  · obtain ⟨k, hk, p, rfl⟩ := keptAll_mem hf
    exact g.names k hk
  · obtain ⟨k, hk, p, rfl⟩ := keptAll_mem hf
    have := kept_le p (g.safes k hk)
    simp [kept]
    omega
theorem new_good (c : Nat) : Good ⟨c, [], 0, none, false⟩ := ⟨trivial, fun _ h => (by cases h), fun _ h => (by cases h), Nat.zero_le _, fun _ => rfl⟩

theorem put_less {A : List File} {f : File} (h : ∀ g ∈ A, less g.name f.name = true) : put A f = A ++ [f] := by
  induction A with
  | nil => rfl
  | cons a t ih =>
    simp only [put, List.cons_append]
    rw [if_pos (h a (by simp)), ih (fun g hg => h g (by simp [hg]))]
theorem put_snoc_ge {A : List File} {f k : File} (h : ∀ g ∈ A, less g.name f.name = true) (hk : less k.name f.name = false) : put (A ++ [k]) f = A ++ [f] ++ (if k.name = f.name then [] else [k]) := by
  induction A with
  | nil =>
    simp only [List.nil_append, put, hk]
    by_cases e : k.name = f.name <;> simp [e]
  | cons a t ih =>
    simp only [put, List.cons_append]
    rw [if_pos (h a (by simp)), ih (fun g hg => h g (by simp [hg]))]
theorem put_snoc_done {A : List File} {f k : File} (hr : Rising (A ++ [k])) (h : ∃ g ∈ A, less g.name f.name = false) : put (A ++ [k]) f = put A f ++ [k] ∧ k.name ≠ f.name := by
  induction A with
  | nil => obtain ⟨g, hg, _⟩ := h; cases hg
  | cons a t ih =>
    have hak : less a.name k.name = true := hr.1 k (by simp)
    by_cases ha : less a.name f.name = true
    · obtain ⟨g, hg, h2⟩ := h
      rcases List.mem_cons.1 hg with rfl | hg
      · rw [ha] at h2; cases h2
      · obtain ⟨i1, i2⟩ := ih hr.2 ⟨g, hg, h2⟩
        refine ⟨?_, i2⟩
        simp only [put, List.cons_append]
        rw [if_pos ha, if_pos ha, i1]
        simp
    · have hlt : less f.name k.name = true := by
        by_cases e : a.name = f.name
        · rw [← e]; exact hak
        · have : less f.name a.name = true := by
            cases hx : less f.name a.name with
            | true => rfl
            | false => exact absurd (less_total (by simpa using ha) hx) e
          exact less_trans this hak
      refine ⟨?_, fun e => by rw [e, less_irrefl] at hlt; cases hlt⟩
      simp only [put, List.cons_append]
      rw [if_neg ha, if_neg ha]
      split <;> simp
theorem rising_take {l : List File} (h : Rising l) (n : Nat) : Rising (l.take n) := by
  induction l generalizing n with
  | nil => simp [Rising]
  | cons a t ih =>
    cases n with
    | zero => simp [Rising]
    | succ n => exact ⟨fun g hg => h.1 g (List.mem_of_mem_take hg), ih h.2 n⟩
theorem used_snoc (A : List File) (k : File) : used (A ++ [k]) = used A + cost k := by
  induction A with
  | nil => simp [used]
  | cons a t ih => simp only [used, List.cons_append, ih]; omega
theorem look_snoc (A : List File) (k : File) (n : List UInt8) (h : look A n = none) : look (A ++ [k]) n = if k.name = n then some k else none := by
  induction A with
  | nil => rfl
  | cons a t ih =>
    simp only [look] at h
    simp only [look, List.cons_append]
    split at h
    · cases h
    · rename_i hn; rw [if_neg hn]; exact ih h
theorem look_take_some {l : List File} {i : Nat} {f : File} {n : List UInt8} (hl : l[i]? = some f) (h : look (l.take i) n = none) (hn : f.name = n) : look l n = some f := by
  induction l generalizing i with
  | nil => simp at hl
  | cons a t ih =>
    cases i with
    | zero =>
      simp only [List.getElem?_cons_zero, Option.some.injEq] at hl
      subst hl
      simp [look, hn]
    | succ i =>
      simp only [List.take_succ_cons, look] at h
      simp only [look]
      split at h
      · cases h
      · rename_i ha
        rw [if_neg ha]
        exact ih (by simpa using hl) h
/-- Which names a raw write names, and whether its bytes may be. -/
def okay (k : Nat) (a b t : List UInt8) : Bool :=
  match k with
  | 0 => named a && decide (t.length ≤ 4096)
  | 1 => named a
  | 2 => named a && named b
  | _ => named a
def planOf (c : Nat) (l : List File) (k : Nat) (a b t : List UInt8) : Nat ⊕ List File :=
  match k with
  | 0 => planAppend c l a t
  | 1 => planSync l a
  | 2 => planRename c l a b
  | _ => planRemove l a
theorem plan_eq (c : Nat) (l : List File) (dark : Bool) (k : Nat) (a b t : List UInt8) : plan c l dark k a b t = guard dark (okay k a b t) (planOf c l k a b t) := by
  match k with
  | 0 => rfl
  | 1 => rfl
  | 2 => rfl
  | _ + 3 => rfl
theorem raw_arg {d : Disk} {k : Nat} {a b t : List UInt8} (h : okay k a b t = false) : raw d k a b t = (1, d) := by simp [raw, plan_eq, guard, h, act]
theorem raw_dark {d : Disk} {k : Nat} {a b t : List UInt8} (h : okay k a b t = true) (hd : d.dark = true) : raw d k a b t = (5, d) := by simp [raw, plan_eq, guard, h, hd, act]
theorem raw_own {d : Disk} {k : Nat} {a b t : List UInt8} {e : Nat} (h : okay k a b t = true) (hd : d.dark = false) (hp : planOf d.cap d.files k a b t = .inl e) : raw d k a b t = (e, d) := by simp [raw, plan_eq, guard, h, hd, hp, act]
theorem raw_do {d : Disk} {k : Nat} {a b t : List UInt8} {l : List File} (h : okay k a b t = true) (hd : d.dark = false) (hp : planOf d.cap d.files k a b t = .inr l) : raw d k a b t = write d l := by simp [raw, plan_eq, guard, h, hd, hp, act]
theorem write_cut {d : Disk} {l : List File} (h : (tick d).1 = false) : write d l = (5, (tick d).2) := by simp [write, h]
theorem write_go {d : Disk} {l : List File} (h : (tick d).1 = true) : write d l = (0, { (tick d).2 with files := l }) := by simp [write, h]
theorem wants_over {l : List File} {a b nm : List UInt8} {sf : Nat} {fb : List UInt8} (h : look l b = some ⟨nm, sf, fb⟩) (hne : ¬ b = a) : wants l a b = (b.length : Int) - a.length - (16 + (b.length : Int) + (fb.length : Int)) := by
  have hn : nm = b := (look_some h).2
  subst hn
  have hne' : ¬ a = nm := fun e => hne e.symm
  simp only [wants, h, hne', if_false, cost]
  omega
theorem wants_new {l : List File} {a b : List UInt8} (h : look l b = none) : wants l a b = (b.length : Int) - a.length := by simp only [wants, h]
theorem wants_same {l : List File} {a : List UInt8} : wants l a a = 0 := by
  unfold wants
  split
  · rw [if_pos rfl]; omega
  · omega
theorem rename_full {c : Nat} {l : List File} {a b nm t : List UInt8} {sf : Nat} {fb : List UInt8} (h : look l a = some ⟨nm, sf, fb⟩) (hw : (c : Int) - used l < wants l a b) : planOf c l 2 a b t = .inl 4 := by
  simp only [planOf, planRename, h]
  rw [if_pos hw]
theorem rename_room {c : Nat} {l : List File} {a b nm t : List UInt8} {sf : Nat} {fb : List UInt8} (h : look l a = some ⟨nm, sf, fb⟩) (hw : ¬ (c : Int) - used l < wants l a b) : planOf c l 2 a b t = .inr (put (drop l a) ⟨b, sf, fb⟩) := by
  simp only [planOf, planRename, h]
  rw [if_neg hw]
end Go.Proofs.YthnebhddakfadaaGreatDoor.Dk
namespace Go.Proofs.YthnebhddakfadaaGreatDoor
open Go.RowKit
open Dk (File Disk)

/-- But for the blocks of U, and new ones, w' is as w was. -/
structure Kept (U : Nat → Prop) (w w' : World) : Prop where
  os : w'.os = w.os
  tape : w'.tape = w.tape
  output : w'.output = w.output
  size : w.heap.size ≤ w'.heap.size
  block : ∀ k, k < w.heap.size → ¬ U k → w'.heap[k]? = w.heap[k]?
theorem Kept.refl (U : Nat → Prop) (w : World) : Kept U w w := ⟨rfl, rfl, rfl, Nat.le_refl _, fun _ _ _ => rfl⟩
theorem Kept.trans {U : Nat → Prop} {a b c : World} (h : Kept U a b) (k : Kept U b c) : Kept U a c :=
  ⟨k.os.trans h.os, k.tape.trans h.tape, k.output.trans h.output, Nat.le_trans h.size k.size, fun i hi hu => (k.block i (Nat.lt_of_lt_of_le hi h.size) hu).trans (h.block i hi hu)⟩
theorem Kept.trans' {U V : Nat → Prop} {a b c : World} (h : Kept U a b) (k : Kept V b c) (hv : ∀ g, g < a.heap.size → V g → U g) : Kept U a c :=
  ⟨k.os.trans h.os, k.tape.trans h.tape, k.output.trans h.output, Nat.le_trans h.size k.size, fun i hi hu => (k.block i (Nat.lt_of_lt_of_le hi h.size) (fun e => hu (hv i hi e))).trans (h.block i hi hu)⟩
theorem Kept.wide {U V : Nat → Prop} {a b : World} (h : Kept U a b) (hv : ∀ g, g < a.heap.size → U g → V g) : Kept V a b :=
  ⟨h.os, h.tape, h.output, h.size, fun i hi hu => h.block i hi (fun e => hu (hv i hi e))⟩
theorem Kept.of_below {U : Nat → Prop} {w w' : World} (h : Below w.heap.size w w') : Kept U w w' := ⟨h.os, h.tape, h.output, h.size, fun k hk _ => h.block k hk⟩
theorem Kept.below {U : Nat → Prop} {w w' : World} {B : Nat} (h : Kept U w w') (hB : B ≤ w.heap.size) (hU : ∀ g, U g → B ≤ g) : Below B w w' :=
  ⟨h.os, h.tape, h.output, h.size, fun k hk => h.block k (by omega) (fun e => by have := hU k e; omega)⟩
theorem Kept.drew {U : Nat → Prop} {a w : World} (h : Kept U a w) : Kept U a w.drew := ⟨h.os, h.tape, h.output, h.size, h.block⟩
theorem Kept.alloc {U : Nat → Prop} {a w : World} (h : Kept U a w) (o : Obj) : Kept U a (w.alloc o) := h.trans (Kept.of_below ((Below.refl _ w).alloc (Nat.le_refl _) o))
theorem Kept.setCell {U : Nat → Prop} {a w : World} (h : Kept U a w) {p : Addr} (hp : U p.block ∨ a.heap.size ≤ p.block) (u : Value) : Kept U a (w.setCell p u) :=
  ⟨h.os, h.tape, h.output, by simp only [World.setCell, Array.size_modify]; exact h.size, fun k hk hu => by
    rw [Below.heap_setCell w p u k (fun e => by rcases hp with hp | hp; exact hu (e ▸ hp); omega)]
    exact h.block k hk hu⟩
theorem Kept.grown {U : Nat → Prop} {a w w' : World} {row : Option Nat} (h : Kept U a w) (hg : w.grownBy w' row) (hr : ∀ k, row = some k → U k ∨ a.heap.size ≤ k) : Kept U a w' :=
  ⟨hg.os.trans h.os, hg.tape.trans h.tape, hg.output.trans h.output, Nat.le_trans h.size hg.size, fun k hk hu => by
    rw [hg.block k (Nat.lt_of_lt_of_le hk h.size) (fun e => by rcases hr k e.symm with h1 | h1; exact hu h1; omega)]
    exact h.block k hk hu⟩
theorem Kept.cell {U : Nat → Prop} {w w' : World} (h : Kept U w w') {p : Addr} (hp : p.block < w.heap.size) (hu : ¬ U p.block) : w'.cell? p = w.cell? p := World.cell?_of_block (w := w) (h.block p.block hp hu)

/-- It holds in w, whatever becomes of the blocks of U. -/
def Steady (U : Nat → Prop) (w : World) (A : World → Prop) : Prop := ∀ w', Kept U w w' → A w'
theorem Steady.here {U : Nat → Prop} {w : World} {A : World → Prop} (h : Steady U w A) : A w := h w (Kept.refl U w)
theorem Steady.next {U : Nat → Prop} {w w' : World} {A : World → Prop} (h : Steady U w A) (k : Kept U w w') : Steady U w' A := fun w'' k' => h w'' (k.trans k')
theorem Steady.next' {U V : Nat → Prop} {w w' : World} {A : World → Prop} (h : Steady U w A) (k : Kept U w w') (hv : ∀ g, g < w.heap.size → V g → U g) : Steady V w' A := fun w'' k' => h w'' (k.trans' k' hv)
theorem Steady.below {U : Nat → Prop} {w w' : World} {A : World → Prop} (h : Steady U w A) (k : Below w.heap.size w w') : Steady U w' A := h.next (Kept.of_below k)
theorem own_steady {U : Nat → Prop} {w : World} {B t k n : Nat} {v : Value} {xs : List Value} (h : w.ownsRow B t k v n xs) (hU : ∀ g, U g → g < B) : Steady U w fun w' => w'.ownsRow B t k v n xs := by
  intro w' hk
  rcases h.2 with h0 | ⟨g, cap, cur, hv, hb, hg, r⟩
  · exact ⟨h.1, .inl h0⟩
  · refine ⟨h.1, .inr ⟨g, cap, cur, hv, hb, ?_, r⟩⟩
    have hlt : g < w.heap.size := (Array.getElem?_eq_some_iff.1 hg).1
    rw [hk.block g hlt (fun e => by have := hU g e; omega)]
    exact hg
theorem own_block {w w' : World} {B t k n : Nat} {v : Value} {xs : List Value} (h : w.ownsRow B t k v n xs) (hk : ∀ g, v.ownBlock = some g → w'.heap[g]? = w.heap[g]?) : w'.ownsRow B t k v n xs := by
  rcases h.2 with h0 | ⟨g, cap, cur, rfl, hb, hg, r⟩
  · exact ⟨h.1, .inl h0⟩
  · exact ⟨h.1, .inr ⟨g, cap, cur, rfl, hb, (hk g rfl).trans hg, r⟩⟩
theorem own_base {w : World} {B B' t k n : Nat} {v : Value} {xs : List Value} (h : w.ownsRow B t k v n xs) (hb : ∀ g, v.ownBlock = some g → B' ≤ g) : w.ownsRow B' t k v n xs := by
  rcases h.2 with h0 | ⟨g, cap, cur, rfl, _, r⟩
  · exact ⟨h.1, .inl h0⟩
  · exact ⟨h.1, .inr ⟨g, cap, cur, rfl, hb g rfl, r⟩⟩

/-- A file as the map holds it. -/
def filev (s : Int) (v : Value) : Value := .agg #[.int .i64 s, v]
def arr : Value → Option Nat
  | .agg cs => (cs.getD 1 (.bool false)).ownBlock
  | _ => none
def Fits (w : World) (v : Value) (f : File) : Prop := ∃ sv, v = filev f.safe sv ∧ w.ownsRow 0 5 1 sv f.bytes.length (bv f.bytes)
theorem Fits.same {w w' : World} {v : Value} {f : File} (h : Fits w v f) (hb : ∀ g, arr v = some g → w'.heap[g]? = w.heap[g]?) : Fits w' v f := by
  obtain ⟨sv, rfl, ho⟩ := h
  exact ⟨sv, rfl, own_block ho hb⟩
/-- Entry by entry; those of the names in E aside. -/
def Rel (w : World) (E : List UInt8 → Prop) : List Named → List File → Prop
  | [], [] => True
  | x :: l, f :: fs => x.1 = f.name ∧ (¬ E f.name → Fits w x.2 f) ∧ Rel w E l fs
  | _, _ => False
def Nobody (_ : List UInt8) : Prop := False
theorem Rel.length {w : World} {E : List UInt8 → Prop} : ∀ {l : List Named} {fs : List File}, Rel w E l fs → l.length = fs.length
  | [], [], _ => rfl
  | _ :: l, _ :: fs, h => by simp [Rel.length h.2.2]
  | [], _ :: _, h => h.elim
  | _ :: _, [], h => h.elim
theorem Rel.names {w : World} {E : List UInt8 → Prop} : ∀ {l : List Named} {fs : List File}, Rel w E l fs → l.map (·.1) = fs.map (·.name)
  | [], [], _ => rfl
  | _ :: l, _ :: fs, h => by simp [Rel.names h.2.2, h.1]
  | [], _ :: _, h => h.elim
  | _ :: _, [], h => h.elim
theorem Rel.turn {w w' : World} {E E' : List UInt8 → Prop} (hE : ∀ n, E n → E' n) : ∀ {l : List Named} {fs : List File}, Rel w E l fs → (∀ x ∈ l, ¬ E' x.1 → ∀ g, arr x.2 = some g → w'.heap[g]? = w.heap[g]?) → Rel w' E' l fs
  | [], [], _, _ => trivial
  | x :: l, f :: fs, h, hb => ⟨h.1, fun he => (h.2.1 (fun e => he (hE _ e))).same (hb x (by simp) (by rw [h.1]; exact he)), Rel.turn hE h.2.2 (fun y hy => hb y (by simp [hy]))⟩
  | [], _ :: _, h, _ => h.elim
  | _ :: _, [], h, _ => h.elim
theorem Rel.none {w : World} {E : List UInt8 → Prop} {n : List UInt8} : ∀ {l : List Named} {fs : List File}, Rel w E l fs → Dk.look fs n = none → seek l n = none
  | [], [], _, _ => rfl
  | x :: l, f :: fs, h, hl => by
    simp only [Dk.look] at hl
    split at hl
    · cases hl
    · rename_i hn
      simp only [seek]
      rw [if_neg (by rw [h.1]; exact hn)]
      exact Rel.none h.2.2 hl
  | [], _ :: _, h, _ => h.elim
  | _ :: _, [], h, _ => h.elim
theorem Rel.some {w : World} {E : List UInt8 → Prop} {n : List UInt8} {f : File} : ∀ {l : List Named} {fs : List File}, Rel w E l fs → Dk.look fs n = some f → ∃ v, seek l n = some v ∧ (n, v) ∈ l ∧ (¬ E n → Fits w v f)
  | [], [], _, hl => by cases hl
  | x :: l, g :: fs, h, hl => by
    simp only [Dk.look] at hl
    split at hl
    · rename_i hn
      cases hl
      have hx : x.1 = n := h.1.trans hn
      refine ⟨x.2, by simp only [seek]; rw [if_pos hx], by rw [← hx]; simp, fun he => h.2.1 (by rw [hn]; exact he)⟩
    · rename_i hn
      obtain ⟨v, h1, h2, h3⟩ := Rel.some h.2.2 hl
      refine ⟨v, ?_, by simp [h2], h3⟩
      simp only [seek]
      rw [if_neg (by rw [h.1]; exact hn)]
      exact h1
  | [], _ :: _, h, _ => h.elim
  | _ :: _, [], h, _ => h.elim
theorem Rel.lay {w : World} {v : Value} {f : File} (hf : Fits w v f) : ∀ {l : List Named} {fs : List File}, Up l → Rel w (fun n => n = f.name) l fs → Rel w Nobody (lay l f.name v) (Dk.put fs f)
  | [], [], _, _ => ⟨rfl, fun _ => hf, trivial⟩
  | x :: l, g :: fs, hu, h => by
    have rest : (∀ y ∈ l, less f.name y.1 = true) → Rel w Nobody l fs := fun hlt => by
      have go : ∀ {l : List Named} {fs : List File}, (∀ y ∈ l, less f.name y.1 = true) → Rel w (fun n => n = f.name) l fs → Rel w Nobody l fs := by
        intro l
        induction l with
        | nil => intro fs _ h; cases fs <;> exact h
        | cons y t ih =>
          intro fs hl h
          cases fs with
          | nil => exact h
          | cons k ks => exact ⟨h.1, fun _ => h.2.1 (fun e => by have := hl y (by simp); rw [h.1, e, less_irrefl] at this; cases this), ih (fun z hz => hl z (by simp [hz])) h.2.2⟩
      exact go hlt h.2.2
    simp only [Go.Proofs.YthnebhddakfadaaGreatDoor.lay, Dk.put]
    rw [h.1]
    split
    · rename_i hlt
      exact ⟨h.1, fun _ => h.2.1 (fun e => by rw [e, less_irrefl] at hlt; cases hlt), Rel.lay hf hu.2 h.2.2⟩
    · rename_i hlt
      split
      · rename_i he
        exact ⟨rfl, fun _ => hf, rest (fun y hy => by rw [← he, ← h.1]; exact hu.1 y hy)⟩
      · rename_i he
        have hfg : less f.name g.name = true := by
          cases hx : less f.name g.name with
          | true => rfl
          | false => exact absurd (less_total (by simpa using hlt) hx) he
        exact ⟨rfl, fun _ => hf, h.1, fun _ => h.2.1 he, rest (fun y hy => less_trans hfg (by rw [← h.1]; exact hu.1 y hy))⟩
  | [], _ :: _, _, h => h.elim
  | _ :: _, [], _, h => h.elim
theorem Rel.strike {w : World} {E : List UInt8 → Prop} (n : List UInt8) : ∀ {l : List Named} {fs : List File}, Rel w E l fs → Rel w E (strike l n) (Dk.drop fs n)
  | [], [], _ => trivial
  | x :: l, g :: fs, h => by
    simp only [Go.Proofs.YthnebhddakfadaaGreatDoor.strike, Dk.drop]
    rw [h.1]
    split
    · exact Rel.strike n h.2.2
    · exact ⟨h.1, h.2.1, Rel.strike n h.2.2⟩
  | [], _ :: _, h => h.elim
  | _ :: _, [], h => h.elim
theorem lay_mem {l : List Named} {n : List UInt8} {v : Value} (hu : Up l) {y : Named} (h : y ∈ lay l n v) : y = (n, v) ∨ (y ∈ l ∧ y.1 ≠ n) := by
  induction l with
  | nil => simp [lay] at h; exact .inl h
  | cons x t ih =>
    simp only [lay] at h
    split at h
    · rename_i hx
      rcases List.mem_cons.1 h with rfl | h
      · exact .inr ⟨by simp, fun e => by rw [e, less_irrefl] at hx; cases hx⟩
      · rcases ih hu.2 h with rfl | ⟨h1, h2⟩
        · exact .inl rfl
        · exact .inr ⟨by simp [h1], h2⟩
    · split at h
      · rename_i hx he
        rcases List.mem_cons.1 h with rfl | h
        · exact .inl rfl
        · exact .inr ⟨by simp [h], fun e => by have := hu.1 y h; rw [he, e, less_irrefl] at this; cases this⟩
      · rename_i hx he
        have hlt : less n x.1 = true := by
          cases hh : less n x.1 with
          | true => rfl
          | false => exact absurd (less_total (by simpa using hx) hh) he
        rcases List.mem_cons.1 h with rfl | h
        · exact .inl rfl
        · refine .inr ⟨h, fun e => ?_⟩
          rcases List.mem_cons.1 h with rfl | h
          · exact he e
          · have := less_trans hlt (hu.1 y h)
            rw [e, less_irrefl] at this
            cases this

/-- Where the map and the files' bytes lie. -/
structure Foot (S : Nat → Prop) (m : Nat) (l : List Named) : Prop where
  mine : S m
  arrs : ∀ x ∈ l, ∀ g, arr x.2 = some g → S g ∧ g ≠ m
  apart : ∀ x ∈ l, ∀ y ∈ l, x.1 ≠ y.1 → ∀ g, arr x.2 = some g → arr y.2 ≠ some g
theorem Foot.lay {S S' : Nat → Prop} {m : Nat} {l : List Named} (h : Foot S m l) (hu : Up l) {n : List UInt8} {v : Value} (hs : ∀ g, S g → S' g) (hv : ∀ g, arr v = some g → S' g ∧ g ≠ m ∧ ∀ y ∈ l, y.1 ≠ n → arr y.2 ≠ some g) : Foot S' m (lay l n v) := by
  refine ⟨hs _ h.mine, fun x hx g hg => ?_, fun x hx y hy hne g hg => ?_⟩
  · rcases lay_mem hu hx with rfl | ⟨h1, h2⟩
    · exact ⟨(hv g hg).1, (hv g hg).2.1⟩
    · exact ⟨hs _ (h.arrs x h1 g hg).1, (h.arrs x h1 g hg).2⟩
  · rcases lay_mem hu hx with rfl | ⟨h1, h2⟩
    · rcases lay_mem hu hy with rfl | ⟨h3, h4⟩
      · exact absurd rfl hne
      · exact (hv g hg).2.2 y h3 h4
    · rcases lay_mem hu hy with rfl | ⟨h3, h4⟩
      · intro e
        exact (hv g e).2.2 x h1 h2 hg
      · exact h.apart x h1 y h3 hne g hg
theorem Foot.strike {S : Nat → Prop} {m : Nat} {l : List Named} (h : Foot S m l) (n : List UInt8) : Foot S m (strike l n) :=
  ⟨h.mine, fun x hx => h.arrs x (strike_mem hx).1, fun x hx y hy => h.apart x (strike_mem hx).1 y (strike_mem hy).1⟩
theorem Foot.wide {S S' : Nat → Prop} {m : Nat} {l : List Named} (h : Foot S m l) (hs : ∀ g, S g → S' g) : Foot S' m l :=
  ⟨hs _ h.mine, fun x hx g hg => ⟨hs _ (h.arrs x hx g hg).1, (h.arrs x hx g hg).2⟩, h.apart⟩
theorem MapIs.same {P : Program} {k : TypeId} {w w' : World} {b : Nat} {l : List Named} (h : MapIs P k w b l) (hb : w'.heap[b]? = w.heap[b]?) : MapIs P k w' b l := by
  obtain ⟨hu, es, clock, h1, h2⟩ := h
  exact ⟨hu, es, clock, hb.trans h1, h2⟩
end Go.Proofs.YthnebhddakfadaaGreatDoor
namespace Go.Proofs.YthnebhddakfadaaGreatDoor
open Go.RowKit
open Dk (File Disk)

def leftOf : Option Nat → Int
  | none => -1
  | some k => (k : Int)
/-- The five cells of a disk. -/
def Box (w : World) (b m : Nat) (free left : Int) (off : Bool) (ops : Int) : Prop :=
  w.heap[b]? = some (.cells #[.map (some m), .int .i64 free, .int .i64 left, .bool off, .int .i64 ops] 92 (0, 0))
section
variable {w : World} {b m : Nat} {free left : Int} {off : Bool} {ops : Int}
theorem Box.c0 (h : Box w b m free left off ops) : w.cell? ⟨b, 0, none⟩ = some (.map (some m)) := cell_of_row _ _ _ _ _ _ h
theorem Box.c1 (h : Box w b m free left off ops) : w.cell? ⟨b, 1, none⟩ = some (.int .i64 free) := cell_of_row _ _ _ _ _ _ h
theorem Box.c2 (h : Box w b m free left off ops) : w.cell? ⟨b, 2, none⟩ = some (.int .i64 left) := cell_of_row _ _ _ _ _ _ h
theorem Box.c3 (h : Box w b m free left off ops) : w.cell? ⟨b, 3, none⟩ = some (.bool off) := cell_of_row _ _ _ _ _ _ h
theorem Box.c4 (h : Box w b m free left off ops) : w.cell? ⟨b, 4, none⟩ = some (.int .i64 ops) := cell_of_row _ _ _ _ _ _ h
theorem Box.warm (h : Box w b m free left off ops) (i : Nat) : w.frozen? ⟨b, i, none⟩ = false := by unfold Box at h; simp [World.frozen?, h]
theorem Box.lt (h : Box w b m free left off ops) : b < w.heap.size := (Array.getElem?_eq_some_iff.1 h).1
theorem Box.same {w' : World} (h : Box w b m free left off ops) (hb : w'.heap[b]? = w.heap[b]?) : Box w' b m free left off ops := hb.trans h
theorem set_row {c : Array Value} {t : TypeId} (h : w.heap[b]? = some (.cells c t (0, 0))) (i : Nat) (v : Value) : (w.setCell ⟨b, i, none⟩ v).heap[b]? = some (.cells (c.setIfInBounds i v) t (0, 0)) := by
  rw [setCell_eq_setRow w b i c t (0, 0) v h]; exact setRow_heap w b c _ t (0, 0) h
theorem Box.set1 (h : Box w b m free left off ops) (x : Int) : Box (w.setCell ⟨b, 1, none⟩ (.int .i64 x)) b m x left off ops := set_row h 1 _
theorem Box.set2 (h : Box w b m free left off ops) (x : Int) : Box (w.setCell ⟨b, 2, none⟩ (.int .i64 x)) b m free x off ops := set_row h 2 _
theorem Box.set3 (h : Box w b m free left off ops) (x : Bool) : Box (w.setCell ⟨b, 3, none⟩ (.bool x)) b m free left x ops := set_row h 3 _
theorem Box.set4 (h : Box w b m free left off ops) (x : Int) : Box (w.setCell ⟨b, 4, none⟩ (.int .i64 x)) b m free left off x := set_row h 4 _
end
/-- The disk d of the program's at block b; its map and its files' bytes lie in the blocks of S. -/
structure MemAt (S : Nat → Prop) (w : World) (b m : Nat) (l : List Named) (left : Int) (d : Disk) : Prop where
  good : Dk.Good d
  capb : d.cap ≤ 1099511627776
  box : Box w b m ((d.cap : Int) - (Dk.used d.files : Int)) left d.dark (d.done : Int)
  map : MapIs Tryz.prog 9 w m l
  rel : Rel w Nobody l d.files
  foot : Foot S m l
  out : ¬ S b
  lt : ∀ g, S g → g < w.heap.size
  lefts : d.dark = false → left = leftOf d.left
  range : -1 ≤ left ∧ left < 9223372036854775808
def Mem (S : Nat → Prop) (w : World) (b : Nat) (d : Disk) : Prop := ∃ m l left, MemAt S w b m l left d
/-- The blocks of S, and those that are new. -/
def more (S : Nat → Prop) (w w' : World) (g : Nat) : Prop := S g ∨ (w.heap.size ≤ g ∧ g < w'.heap.size)
/-- What a call on the disk at b may turn. -/
def mine (S : Nat → Prop) (b : Nat) (g : Nat) : Prop := S g ∨ g = b
theorem MemAt.kept {S U : Nat → Prop} {w w' : World} {b m : Nat} {l : List Named} {left : Int} {d : Disk} (h : MemAt S w b m l left d) (hk : Kept U w w') (hs : ∀ g, S g → ¬ U g) (hb : ¬ U b) : MemAt S w' b m l left d :=
  ⟨h.good, h.capb, h.box.same (hk.block b h.box.lt hb), h.map.same (hk.block m (h.lt m h.foot.mine) (hs m h.foot.mine)),
    h.rel.turn (fun _ e => e) (fun x hx _ g hg => hk.block g (h.lt g (h.foot.arrs x hx g hg).1) (hs g (h.foot.arrs x hx g hg).1)), h.foot, h.out, fun g hg => Nat.lt_of_lt_of_le (h.lt g hg) hk.size, h.lefts, h.range⟩
theorem MemAt.below {S : Nat → Prop} {w w' : World} {b m : Nat} {l : List Named} {left : Int} {d : Disk} (h : MemAt S w b m l left d) (hk : Below w.heap.size w w') : MemAt S w' b m l left d :=
  h.kept (U := fun _ => False) (Kept.of_below hk) (fun _ _ e => e) (fun e => e)
theorem Mem.kept {S U : Nat → Prop} {w w' : World} {b : Nat} {d : Disk} (h : Mem S w b d) (hk : Kept U w w') (hs : ∀ g, S g → ¬ U g) (hb : ¬ U b) : Mem S w' b d := by
  obtain ⟨m, l, left, h⟩ := h
  exact ⟨m, l, left, h.kept hk hs hb⟩
theorem Mem.below {S : Nat → Prop} {w w' : World} {b : Nat} {d : Disk} (h : Mem S w b d) (hk : Below w.heap.size w w') : Mem S w' b d := by
  obtain ⟨m, l, left, h⟩ := h
  exact ⟨m, l, left, h.below hk⟩
theorem Mem.lt {S : Nat → Prop} {w : World} {b : Nat} {d : Disk} (h : Mem S w b d) : (∀ g, S g → g < w.heap.size) ∧ b < w.heap.size ∧ ¬ S b := by
  obtain ⟨m, l, left, h⟩ := h
  exact ⟨h.lt, h.box.lt, h.out⟩
theorem Mem.good {S : Nat → Prop} {w : World} {b : Nat} {d : Disk} (h : Mem S w b d) : Dk.Good d := by
  obtain ⟨m, l, left, h⟩ := h
  exact h.good
/-- A wider footprint, of old blocks. -/
theorem MemAt.wide {S S' : Nat → Prop} {w : World} {b m : Nat} {l : List Named} {left : Int} {d : Disk} (h : MemAt S w b m l left d) (hs : ∀ g, S g → S' g) (hb : ¬ S' b) (hl : ∀ g, S' g → g < w.heap.size) : MemAt S' w b m l left d :=
  ⟨h.good, h.capb, h.box, h.map, h.rel, h.foot.wide hs, hb, hl, h.lefts, h.range⟩
end Go.Proofs.YthnebhddakfadaaGreatDoor
