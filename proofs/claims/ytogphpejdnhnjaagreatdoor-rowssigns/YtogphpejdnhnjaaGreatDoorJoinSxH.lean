/- Blocks one behind the other; the sum of bytes out of its whole blocks and its ending; no walk. -/
/- sha.Sum of any slice of bytes: its contract. -/
/- append behind a slice whose room is full; no walk. -/
/- The walk of sha.pad. -/
/- The walk of sha.keyBlock. -/
/- sha.Mac of any key and bytes: its contract. -/
import Derived.Test.YtogphpejdnhnjaaGreatDoorJoinSxL
import Derived.Deep.AppendSrc
import Derived.Deep.Upon
import Derived.Deep.DeepAppendWide
import Derived.Lib.LazyBuf
namespace Go.Proofs.YtogphpejdnhnjaaGreatDoor.Sha

theorem sch_congr (f g : Nat → UInt8) (h : ∀ i, i < 64 → f i = g i) (n : Nat) : sch f n = sch g n := by
  induction n with
  | zero =>
    unfold sch
    apply List.map_congr_left
    intro i hi
    have hi' : i < 16 := List.mem_range.1 hi
    unfold w16
    rw [h (4 * i) (by omega), h (4 * i + 1) (by omega), h (4 * i + 2) (by omega), h (4 * i + 3) (by omega)]
  | succ n ih => unfold sch; rw [ih]
theorem rnds_congr (f g : Nat → UInt8) (h : ∀ i, i < 64 → f i = g i) (n : Nat) (s : St) : rnds f n s = rnds g n s := by
  induction n with
  | zero => rfl
  | succ n ih =>
    unfold rnds
    rw [ih]
    unfold wd
    rw [sch_congr f g h]
theorem tk_congr (s : St) (f g : Nat → UInt8) (h : ∀ i, i < 64 → f i = g i) : tk s f = tk s g := by
  unfold tk
  rw [rnds_congr f g h]
theorem blk_congr (f g : Nat → UInt8) (n : Nat) (s : St) (h : ∀ i, i < 64 * n → f i = g i) : blk f n s = blk g n s := by
  induction n with
  | zero => rfl
  | succ n ih =>
    unfold blk
    rw [ih (fun i hi => h i (by omega))]
    exact tk_congr _ _ _ (fun i hi => h _ (by omega))
theorem blk_add (g : Nat → UInt8) (a b : Nat) (s : St) : blk g (a + b) s = blk (fun i => g (64 * a + i)) b (blk g a s) := by
  induction b with
  | zero => rfl
  | succ b ih =>
    rw [← Nat.add_assoc]
    unfold blk
    rw [ih]
    apply tk_congr
    intro i _
    show g _ = g _
    congr 1
    omega
theorem padded_length (l : List UInt8) : (padded l).length = l.length + 1 + nz l.length + 8 := by
  unfold padded
  simp [be64]
  omega
theorem fn_left (a b : List UInt8) (i : Nat) (h : i < a.length) : fn (a ++ b) i = fn a i := by
  unfold fn
  rw [List.getD_eq_getElem?_getD, List.getElem?_append_left h, ← List.getD_eq_getElem?_getD]
theorem fn_right (a b : List UInt8) (i : Nat) : fn (a ++ b) (a.length + i) = fn b i := by
  unfold fn
  rw [List.getD_eq_getElem?_getD, List.getElem?_append_right (by omega), ← List.getD_eq_getElem?_getD]
  congr 1
  omega
theorem fn_take (l : List UInt8) (n i : Nat) (h : i < n) : fn (l.take n) i = fn l i := by
  unfold fn
  rw [List.getD_eq_getElem?_getD, List.getElem?_take, if_pos h, ← List.getD_eq_getElem?_getD]
/-- The sum, as the program makes it: whole blocks, and then the ending. -/
theorem sum_parts (l : List UInt8) (m r whole : Nat) (hm : l.length = m) (hr : m % 64 = r) (hw : m - r = whole) :
    (blk (fn (tail1 (l.drop whole) (nz r) ++ be64 (m * 8))) ((r + 1 + nz r + 8) / 64) (blk (fn l) (whole / 64) st0)).bytes = sum l := by
  unfold sum
  rw [padded_length, hm]
  have hz : nz m = nz r := by unfold nz; omega
  have z1 := (nz_of r).1
  have e0 : (m + 1 + nz m + 8) / 64 = whole / 64 + (r + 1 + nz r + 8) / 64 := by rw [hz]; omega
  have ep : padded l = l.take whole ++ (tail1 (l.drop whole) (nz r) ++ be64 (m * 8)) := by
    unfold padded tail1
    rw [hm, hz]
    simp only [← List.append_assoc]
    rw [List.take_append_drop]
  have ht : (l.take whole).length = whole := by rw [List.length_take]; omega
  have hwd : 64 * (whole / 64) = whole := by omega
  rw [e0, blk_add, ep]
  congr 1
  have e1 : blk (fn (l.take whole ++ (tail1 (l.drop whole) (nz r) ++ be64 (m * 8)))) (whole / 64) st0 = blk (fn l) (whole / 64) st0 := by
    apply blk_congr
    intro i hi
    rw [fn_left _ _ _ (by omega), fn_take _ _ _ (by omega)]
  rw [e1]
  apply blk_congr
  intro i _
  rw [hwd]
  have := fn_right (l.take whole) (tail1 (l.drop whole) (nz r) ++ be64 (m * 8)) i
  rw [ht] at this
  exact this.symm
theorem bytes32 (s : St) : s.bytes.length = 32 := rfl
theorem sum_length (l : List UInt8) : (sum l).length = 32 := bytes32 _
end Go.Proofs.YtogphpejdnhnjaaGreatDoor.Sha
namespace Go.Proofs.YtogphpejdnhnjaaGreatDoor.Sha
open Go.RowKit

theorem elem22 : Tryz.prog.underlying 47 = some (.slice (Tryz.prog.elem 47)) := by kernel_rfl
theorem size22 (w : World) : (sizeOf (Tryz.prog.elem 47)).run Tryz.prog w = .ok 1 w := by kernel_rfl
theorem slice_h (a : Option Addr) (len cap h : Nat) (hh : h ≤ cap) (w : World) :
    (Instr.slice 47 (.slice a len cap) none (some (.int .i64 (h : Int))) none).run Tryz.prog w = .ok (.slice a h cap) w := by
  rw [run_slice_h w 47 a len cap elem22 .i64 (h : Int) (by omega) (by omega), size22]
  have e : a.map (fun x => x.add (0 * 1)) = a := by cases a <;> rfl
  simp only [Result.andThen, sliced, Int.toNat_natCast, e, ite_self, Nat.sub_zero]
theorem slice_l (a : Option Addr) (len cap l : Nat) (hl : l ≤ len) (w : World) :
    (Instr.slice 47 (.slice a len cap) (some (.int .i64 (l : Int))) none none).run Tryz.prog w = .ok (.slice (if cap = l then a else a.map (fun x => x.add l)) (len - l) (cap - l)) w := by
  rw [run_slice_l w 47 a len cap elem22 .i64 (l : Int) (by omega) (by omega), size22]
  simp only [Result.andThen, sliced, Int.toNat_natCast, Nat.mul_one]
theorem Src.drop {w : World} {ao : Option Addr} {m c : Nat} {l : List UInt8} (h : Src w ao m c l) (k : Nat) (hk : k ≤ m) :
    Src w (if c = k then ao else ao.map (fun x => x.add k)) (m - k) (c - k) (l.drop k) := by
  have hlen : (l.drop k).length = m - k := by rw [List.length_drop, h.len]
  rcases Nat.eq_zero_or_pos (m - k) with h0 | h0
  · rw [h0]
    have hl : l.drop k = [] := List.length_eq_zero_iff.1 (by omega)
    rw [hl]
    refine Src.empty (fun e => ?_)
    by_cases hc : c = k
    · omega
    · rw [if_neg hc] at e
      cases ao with
      | none => have := (h.nil rfl).2; omega
      | some a => cases e
  · obtain ⟨b, off, rfl, _, hby⟩ := h.form (by omega)
    have hc := h.cap
    rw [if_neg (by omega)]
    have e : (some (⟨b, off, none⟩ : Addr)).map (fun x => x.add k) = some ⟨b, off + k, none⟩ := by
      simp only [Option.map_some, Addr.add_mid]
    rw [e]
    refine Src.mk_bytes hlen (by omega) (fun i hi => ?_)
    rw [Nat.add_assoc, hby (k + i) (by omega)]
    unfold fn
    rw [List.getD_eq_getElem?_getD, List.getD_eq_getElem?_getD, List.getElem?_drop]
theorem Tab.below {w w' : World} (h : Tab w) (hb : Below w.heap.size w w') : Tab w' := fun i hi => by
  rw [hb.cell (World.block_lt_of_cell? w _ (h i hi))]; exact h i hi
theorem Fst.below {w w' : World} (h : Fst w) (hb : Below w.heap.size w w') : Fst w' := fun i hi => by
  rw [hb.cell (World.block_lt_of_cell? w _ (h i hi))]; exact h i hi

/-- THE CONTRACT OF sha.Sum. -/
theorem sum_any (ao : Option Addr) (m c : Nat) (l : List UInt8) (w : World) (hm : m ≤ 140737488355328) (hc : c ≤ maxLen) (hT : Tab w) (hF : Fst w) (hs : Src w ao m c l) :
    Calls Tryz.prog 30 #[.slice ao m c] w fun e w' => e = .returned (.string ⟨(sum l).toArray⟩) ∧ Below w.heap.size w w' := by
  have hcap := hs.cap
  have hr : m - (m - m % 64) = m % 64 := by omega
  have hsrc := hs.drop (m - m % 64) (by omega)
  have hs2 := slice_l ao m c (m - m % 64) (by omega)
  rw [hr] at hsrc hs2
  have := sum_core ao _ m c (m % 64) (m - m % 64) (c - (m - m % 64)) (l.drop (m - m % 64)) (blk (fn l) ((m - m % 64) / 64) st0) w hm rfl rfl hT hF (slice_h ao m c (m - m % 64) (by omega)) hs2 ?_ hsrc
  · rw [sum_parts l m (m % 64) (m - m % 64) hs.len rfl rfl] at this
    exact this
  · intro w' hb'
    rcases Nat.eq_zero_or_pos (m - m % 64) with h0 | h0
    · rw [h0]
      exact takeAll_zero st0 ao c w'
    · obtain ⟨b, off, rfl, hblt, hby⟩ := hs.form (by omega)
      refine takeAll_any st0 b off (m - m % 64) c (fn l) w' (by omega) (by omega) hc ?_ (hT.below hb') (by have := hb'.size; omega)
      intro i hi
      rw [hb'.cell (p := ⟨b, off + i, none⟩) hblt]
      exact hby i (by omega)
end Go.Proofs.YtogphpejdnhnjaaGreatDoor.Sha
namespace Go.Proofs.YtogphpejdnhnjaaGreatDoor.Sha
open Go.RowKit

theorem run_append_full {P : Program} (w : World) (t tx ty : TypeId) (i : TypeInfo) (z : Value) (ht : P.underlying t = some (.slice 5)) (hi : P.info? 5 = some i) (hz : i.zero = some z) (hz1 : i.size = 1) (hz2 : i.bytes = 1)
    (ad : Addr) (n m : Nat) (k l : List UInt8) (x : Value) (hk : Src w (some ad) n n k) (hx : _root_.Go.Src P 1 tx x m (bv l) w) (hb : n + m ≤ 140737488355328) :
    ∃ ao c w', (Builtin.append_ #[t, tx] ty #[.slice (some ad) n n, x]).run P w = .ok (.slice ao (n + m) c) w' ∧ Src w' ao (n + m) c (k ++ l) ∧ c ≤ maxLen ∧ Below w.heap.size w w' := by
  have hll : l.length = m := by have := hx.newsLen; rw [bv_length] at this; omega
  have hx' : _root_.Go.Src P i.size tx x m (bv l) w := by rw [hz1]; exact hx
  rcases Nat.eq_zero_or_pos m with h0 | h0
  · subst h0
    have hl : l = [] := List.length_eq_zero_iff.1 hll
    subst hl
    have := run_append_nothing w t tx ty 5 i ht hi (some ad) n n (Nat.le_refl _) x hx'
    refine ⟨some ad, n, w, this, by simpa using hk, ?_, Below.refl _ _⟩
    unfold maxLen
    omega
  · have hold : (Builtin.firstCells i.size n (.slice (some ad) n n)).run P w.drew = .ok (bv k).toArray w.drew := by
      rw [hz1]
      exact run_firstCells_some w.drew 1 n ad n n (bv k) (by rw [bv_length, hk.len]; omega) (hk.cells ad rfl)
    have hfit : Builtin.nextslicecap (n + m) n * i.bytes ≤ 281474976710656 := by
      rw [hz2]
      exact growslice_fits_wide (by omega) (by omega)
    have hrun := run_append_grow_src w t tx ty 5 i z ht hi hz (some ad) n n (bv k) hold x m (bv l) hx' (by omega) (by omega) hfit
    refine ⟨_, _, _, hrun, ?_, grownCap_le_maxLen _ _ _ _ (by unfold maxLen; omega), (Below.refl _ _).drew.alloc (Nat.le_refl _) _⟩
    refine ⟨by rw [List.length_append, hk.len, hll], grownCap_ge _ _ _ _, (fun h => by cases h), fun a2 ha j u hu => ?_⟩
    cases ha
    have hh : (w.drew.alloc (.cells ((bv k ++ bv l).toArray ++ Builtin.zeroCells z.cells (grownCap w (n + m) n 5 - (n + m))) 5)).heap[w.heap.size]? = some (.cells ((bv k ++ bv l).toArray ++ Builtin.zeroCells z.cells (grownCap w (n + m) n 5 - (n + m))) 5) := heap_alloc_new w.drew _
    rw [Addr.add_mid, Nat.zero_add, cell_of_row _ w.heap.size _ _ _ _ hh]
    rw [bv_append] at hu
    rw [Array.getElem?_append_left (by
      have := (List.getElem?_eq_some_iff.1 hu).1
      rw [List.size_toArray]; exact this)]
    simpa using hu
theorem wpList_append_full {P : Program} {w : World} {ops : Array Oper} {rest : List Oper} {o : Oper} {a : Act} {Q : Exit → Act → World → Prop} (hgd : o.guard = none) (s x : Operand) (t tx : TypeId)
    (ho : o.op = .call { callee := .builtin .append, args := #[s, x], argTypes := #[t, tx] })
    (i : TypeInfo) (z : Value) (ht : P.underlying t = some (.slice 5)) (hi : P.info? 5 = some i) (hz : i.zero = some z) (hz1 : i.size = 1) (hz2 : i.bytes = 1)
    (ad : Addr) (n m : Nat) (k l : List UInt8) (v : Value) (hs : a.eval s = .slice (some ad) n n) (hk : Src w (some ad) n n k) (hv : a.eval x = v) (hx : _root_.Go.Src P 1 tx v m (bv l) w) (hb : n + m ≤ 140737488355328)
    (h : ∀ ao c w', Src w' ao (n + m) c (k ++ l) → c ≤ maxLen → Below w.heap.size w w' → wpList P ops Q rest (a.put o.dst (.slice ao (n + m) c)) w') : wpList P ops Q (o :: rest) a w := by
  refine wpList_plain hgd fun K hK => ?_
  obtain ⟨ao, c, w', hrun, h1, h2, h3⟩ := run_append_full w t tx o.type i z ht hi hz hz1 hz2 ad n m k l v hk hx hb
  unfold Oper.wp
  simp [execOp, ho, resolve, invoke, builtin, hs, hv, hrun, Result.andThen]
  exact hK _ _ (h ao c w' h1 h2 h3)
theorem Src.go {P : Program} {w : World} {tx : TypeId} (htx : P.underlying tx = some (.slice 5)) {ao : Option Addr} {m c : Nat} {l : List UInt8} (h : Src w ao m c l) : _root_.Go.Src P 1 tx (.slice ao m c) m (bv l) w := by
  cases ao with
  | none =>
    obtain ⟨rfl, rfl⟩ := h.nil rfl
    have hl : l = [] := List.length_eq_zero_iff.1 h.len
    subst hl
    exact _root_.Go.Src.ofNil w htx 0
  | some ad => exact _root_.Go.Src.ofSlice w htx ad m c (bv l) (by rw [bv_length, h.len]; omega) (h.cells ad rfl) (bv_one l)
theorem src_string {P : Program} {w : World} {tx : TypeId} (htx : P.underlying tx = some .string) (l : List UInt8) (m : Nat) (hm : l.length = m) : _root_.Go.Src P 1 tx (.string ⟨l.toArray⟩) m (bv l) w := by
  have := _root_.Go.Src.ofString (P := P) w htx ⟨l.toArray⟩
  subst hm
  have e : (⟨l.toArray⟩ : ByteArray).size = l.length := rfl
  rw [e] at this
  exact this
theorem u8_xor (a b : UInt8) : bits .xor .u8 (a.toNat : Int) (b.toNat : Int) = ((a ^^^ b).toNat : Int) := by
  rw [u8_xor_nat _ _ a.toNat_lt b.toNat_lt, UInt8.toNat_xor]
end Go.Proofs.YtogphpejdnhnjaaGreatDoor.Sha
namespace Go.Proofs.YtogphpejdnhnjaaGreatDoor.Sha
open Go.RowKit
attribute [local go_sem] u8_xor

def rowB (k : Nat → UInt8) (j : Nat) : Value := .int .u8 ((k j).toNat : Int)
def xrow (k : Nat → UInt8) (x : UInt8) (n j : Nat) : UInt8 := if j < n then k j ^^^ x else k j
def padl (k : Nat → UInt8) (x : UInt8) : List UInt8 := (List.range 64).map fun j => k j ^^^ x
theorem sz64 : (Tryz.prog.info? 79).map (·.size) = some 64 := by kernel_rfl

set_option maxHeartbeats 1000000 in
set_option maxRecDepth 100000 in
theorem pad_any (k : Nat → UInt8) (x : UInt8) (w : World) :
    Calls Tryz.prog 31 #[.agg (rowL 64 (rowB k)), .int .u8 (x.toNat : Int)] w fun e w' => e = .returned (.slice (some ⟨w.heap.size, 0, none⟩) 64 64) ∧ Src w' (some ⟨w.heap.size, 0, none⟩) 64 64 (padl k x) ∧ Below w.heap.size w w' := by
  go_enter Tryz.func31, Tryz.ntmps31
  go_wp2
  go_loopw [6] (fun i wr => ∃ n : Nat, n ≤ 64 ∧ i = .int .i64 n ∧ Hid (wr.rowIs w.heap.size 79 64 (rowB (xrow k x n))) ∧ Hid (Below w.heap.size w wr)) (fun i _ => 64 - (intOf i).toNat)
  case atStart => exact ⟨0, by omega, rfl, ⟨_, heap_alloc_new w _, rowL_size _ _, fun i hi => by rw [rowL_at _ _ _ hi]; unfold rowB xrow; rw [if_neg (by omega)]⟩, (Below.refl _ _).alloc (Nat.le_refl _) _⟩
  case round =>
    obtain ⟨n, hn, rfl, hr, hb⟩ := hrel
    by_cases hlt : n < 64
    · have hc : wr.cell? ⟨w.heap.size, n, none⟩ = some (.int .u8 ((k n).toNat : Int)) := by rw [hr.out.cell hlt]; unfold rowB xrow; rw [if_neg (by omega)]
      have hf := hr.out.frozen n
      have hr' : Hid ((wr.setCell ⟨w.heap.size, n, none⟩ (.int .u8 ((k n ^^^ x).toNat : Int))).rowIs w.heap.size 79 64 (rowB (xrow k x (n + 1)))) := (hr.out.set n _).congr (fun j _ => by
        unfold rowB xrow
        by_cases e : j = n
        · subst e; rw [if_pos rfl, if_pos (by omega)]
        · rw [if_neg e]
          by_cases e2 : j < n
          · rw [if_pos e2, if_pos (by omega)]
          · rw [if_neg e2, if_neg (by omega)])
      have hb' : Hid (Below w.heap.size w (wr.setCell ⟨w.heap.size, n, none⟩ (.int .u8 ((k n ^^^ x).toNat : Int)))) := hb.out.setCell (Nat.le_refl _) _
      go_wp2
      go_roundw
      case rel => exact ⟨n + 1, by omega, by go_num, hr', hb'⟩
      case measure => simp [intOf]; omega
    · have hn2 : n = 64 := by omega
      subst hn2
      go_wp2
      go_ret
      refine ⟨rfl, Src.mk_bytes (by simp [padl]) (Nat.le_refl _) (fun i hi => ?_), hb.out⟩
      rw [Nat.zero_add, hr.out.cell hi]
      unfold rowB xrow fn padl
      rw [if_pos hi]
      simp [List.getD, hi]
end Go.Proofs.YtogphpejdnhnjaaGreatDoor.Sha
namespace Go.Proofs.YtogphpejdnhnjaaGreatDoor.Sha
open Go.RowKit

/-- A key's 64 bytes. -/
def kb (key : List UInt8) (j : Nat) : UInt8 := fn (if 64 < key.length then sum key else key) j
theorem kb_zero (l : List UInt8) (j : Nat) (h : l.length ≤ j) : fn l j = 0 := by
  unfold fn
  rw [List.getD_eq_getElem?_getD, List.getElem?_eq_none h]
  rfl
/-- The row behind the copy. -/
theorem row_copied {w : World} {b : Nat} {l : List UInt8} (h : w.rowIs b 79 64 (fun _ => .int .u8 0)) (k : Nat → UInt8) (hk : ∀ j, k j = fn l j) : (w.setCells b 0 (bv l)).rowIs b 79 64 (rowB k) :=
  (rowIs_setCells (bv l) 0 w _ h).congr (fun j _ => by
    unfold rowB
    rw [hk j, bv_length]
    by_cases hj : j < l.length
    · rw [if_pos ⟨Nat.zero_le _, by omega⟩, Nat.sub_zero, bv_at l j hj]; rfl
    · rw [if_neg (by omega), kb_zero l j (by omega)]; rfl)
def zl : List Value := List.replicate 64 (Value.int .u8 0)
def z64 : Array Value := zl.toArray
theorem row_spliced {w : World} {b : Nat} {l : List UInt8} (hl : l.length ≤ 64) (h : w.heap[b]? = some (.cells (splice zl 0 (bv l)).toArray 79 (0, 0))) (k : Nat → UInt8) (hk : ∀ j, k j = fn l j) : w.rowIs b 79 64 (rowB k) := by
  have hlen : (splice zl 0 (bv l)).length = 64 := by rw [length_splice _ _ _ (by rw [bv_length]; show 0 + l.length ≤ 64; omega)]; rfl
  refine ⟨_, h, by rw [List.size_toArray, hlen], fun i hi => ?_⟩
  rw [List.getElem?_toArray]
  unfold splice rowB zl
  rw [List.take_zero, List.nil_append, hk i]
  by_cases hj : i < l.length
  · rw [List.getElem?_append_left (by rw [bv_length]; exact hj), bv_at l i hj]
  · rw [List.getElem?_append_right (by rw [bv_length]; omega), kb_zero l i (by omega), bv_length, List.getElem?_drop, List.getElem?_replicate, if_pos (by omega)]
    rfl
theorem src_pos {w w' : World} {ao : Option Addr} {m c : Nat} {key : List UInt8} (hs : Src w ao m c key) (hb : Below w.heap.size w w') : 0 < (bv key).length → ∃ ad, ao = some ad ∧ ∀ j v, (bv key)[j]? = some v → w'.cell? (ad.add j) = some v := by
  intro h
  rw [bv_length, hs.len] at h
  obtain ⟨b, off, rfl, _, _⟩ := hs.form h
  exact ⟨_, rfl, (hs.below hb).cells _ rfl⟩
theorem sz5 : ∀ w, (Go.sizeOf 5).run Tryz.prog w = .ok 1 w := fun w => by kernel_rfl
theorem inf5 : (Tryz.prog.info? 5).map (·.size) = some 1 := by kernel_rfl


set_option maxHeartbeats 1000000 in
set_option maxRecDepth 100000 in
theorem keyBlock_long (ao : Option Addr) (m c : Nat) (key : List UInt8) (w : World) (h64 : 64 < m) (hm : m ≤ 140737488355328) (hc : c ≤ maxLen) (hT : Tab w) (hF : Fst w) (hs : Src w ao m c key) :
    Calls Tryz.prog 29 #[.slice ao m c] w fun e w' => e = .returned (.agg (rowL 64 (rowB (kb key)))) ∧ Below w.heap.size w w' := by
  go_enter Tryz.func29, Tryz.ntmps29
  go_wp2_with fail
  change Code.wp _ _ _ _ ((w.alloc (.cells z64 79)).alloc (.cells z64 79))
  obtain ⟨wx, hwx⟩ : ∃ wx, wx = (w.alloc (.cells z64 79)).alloc (.cells z64 79) := ⟨_, rfl⟩
  rw [← hwx]
  have hr1 : Hid (wx.rowIs (w.heap.size + 1) 79 64 (fun _ => .int .u8 0)) := by rw [hwx]; exact rowIs_rep (heap_alloc2_new w _ _) rfl
  have hr0 : Hid (wx.rowIs w.heap.size 79 64 (fun _ => .int .u8 0)) := by rw [hwx]; exact rowIs_rep (heap_alloc2_old w _ _) rfl
  have hbel : Hid (Below w.heap.size w wx) := by rw [hwx]; exact ((Below.refl _ _).alloc (Nat.le_refl _) _).alloc (by show _ ≤ (w.heap.push _).size; simp) _
  have hsx : w.heap.size + 2 = wx.heap.size := by rw [hwx]; simp
  clear hwx
  have KS := keep (sum_any ao m c key wx.drew hm hc ((hT.below hbel.out).below (Below.refl _ _).drew) ((hF.below hbel.out).below (Below.refl _ _).drew) ((hs.below hbel.out).below (Below.refl _ _).drew))
  obtain ⟨sm, hsm⟩ : ∃ sm, sum key = sm := ⟨_, rfl⟩
  rw [hsm] at KS
  have hsl : sm.length = 32 := by rw [← hsm]; exact sum_length key
  have hkb : Hid (∀ j, kb key j = fn sm j) := fun j => by unfold kb; rw [if_pos (by rw [hs.len]; exact h64), hsm]
  clear hsm hT hF
  have hbs : (⟨sm.toArray⟩ : ByteArray).size = 32 := hsl
  go_region_held3 (fun _ => True) (trivial) (first | (go_at_call 30; go_fit KS.out; rintro e w1 ⟨rfl, hb1⟩; have hb1' := keep hb1; clear hb1; have hr1' := keep (hr1.out.of_block (hb1'.out.block (w.heap.size + 1) (by show _ < wx.heap.size; omega)))) | (refine step_copy_string (by rfl) _ _ 47 9 (by rfl) 5 Tryz.underlying47 sz5 (w.heap.size + 1) 0 64 64 (by rfl) ⟨sm.toArray⟩ (by rfl) (by omega) (fun j hj => by rw [Nat.zero_add, hr1'.out.cell (by omega)]; rfl) (fun j hj => hr1'.out.frozen _) ?_))
  change Exit.then _ _ _ _ (w1.setCells (w.heap.size + 1) 0 (bv sm))
  have hy1 : Hid ((w1.setCells (w.heap.size + 1) 0 (bv sm)).rowIs (w.heap.size + 1) 79 64 (rowB (kb key))) := row_copied hr1'.out _ hkb.out
  have hy0 : Hid ((w1.setCells (w.heap.size + 1) 0 (bv sm)).rowIs w.heap.size 79 64 (fun _ => .int .u8 0)) := rowIs_setCells_other (by omega) _ _ _ (hr0.out.of_block (hb1'.out.block w.heap.size (by show _ < wx.heap.size; omega)))
  have hyb : Hid (Below w.heap.size w (w1.setCells (w.heap.size + 1) 0 (bv sm))) := below_setCells (by omega) _ _ _ (hbel.out.drew.trans (hb1'.out.mono hbel.out.size))
  generalize w1.setCells (w.heap.size + 1) 0 (bv sm) = wy at hy1 hy0 hyb ⊢
  clear hr1 hr0 hr1' hbel hb1' KS
  have hh2 : Hid _ := rowIs_heap hy1.out
  have hh0 : Hid _ := rowIs_heap hy0.out
  go_wp2_with (first
    | (refine wpList_load_row rfl 79 _ rfl (w.heap.size + 1) rfl 79 _ (0, 0) _ hh2.out Tryz.underlying79 rfl (by rw [rowL_size]; exact sz64) ?_)
    | (refine wpList_store_row rfl 79 _ _ rfl w.heap.size _ rfl rfl 79 _ hh0.out (by rw [rowL_size]; exact sz64) (by rw [rowL_size, rowL_size]) (rowL_one _ _ (fun _ => rfl)) ?_))
  refine bodyPost_ret (v := .agg (rowL 64 (rowB (kb key)))) ?_ rfl ⟨rfl, below_setRow hyb.out (Nat.le_refl _) _⟩
  exact results_cell_row Tryz.results29 _ _ w.heap.size 79 _ (0, 0) _ rfl (setRow_heap _ _ _ _ _ _ hh0.out) Tryz.underlying79 rfl (by rw [rowL_size]; exact sz64)

set_option maxHeartbeats 1000000 in
set_option maxRecDepth 100000 in
theorem keyBlock_short (ao : Option Addr) (m c : Nat) (key : List UInt8) (w : World) (h64 : m ≤ 64) (hs : Src w ao m c key) :
    Calls Tryz.prog 29 #[.slice ao m c] w fun e w' => e = .returned (.agg (rowL 64 (rowB (kb key)))) ∧ Below w.heap.size w w' := by
  have hll := hs.len
  have hkb : Hid (∀ j, kb key j = fn key j) := fun j => by unfold kb; rw [if_neg (by omega)]
  have HS := keep hs
  clear hs
  go_enter Tryz.func29, Tryz.ntmps29
  go_wp2_with (first
    | (refine wpList_copy_splice rfl _ _ 47 47 rfl 5 Tryz.underlying47 inf5 _ _ 64 64 m c rfl rfl (w.heap.size + 1) 0 zl 79 (heap_alloc2_new w _ _) (bv key) (by rw [bv_length]; show _ = min m 64; omega) (fun h => ⟨rfl, src_pos HS.out (((Below.refl _ _).alloc (Nat.le_refl _) _).alloc (by show _ ≤ (w.heap.push _).size; simp) _) h⟩) (by rw [bv_length]; show 0 + _ ≤ 64; omega) (bv_one key) (w.heap.size + 1) _ (Below.refl _ _) (Nat.le_refl _) ?_; intro wy hy hyb; have hy1 := keep (row_spliced (by omega) hy.out _ hkb.out); have hy0 : Hid (wy.rowIs w.heap.size 79 64 (fun _ => .int .u8 0)) := rowIs_rep ((hyb.block w.heap.size (by omega)).trans (heap_alloc2_old w _ _)) rfl; have hyb' : Hid (Below w.heap.size w wy) := (((Below.refl _ _).alloc (Nat.le_refl _) _).alloc (by show _ ≤ (w.heap.push _).size; simp) _).trans (hyb.mono (by omega)); have hh2 : Hid _ := rowIs_heap hy1.out; have hh0 : Hid _ := rowIs_heap hy0.out; clear hy hyb)
    | (refine wpList_load_row rfl 79 _ rfl (w.heap.size + 1) rfl 79 _ (0, 0) _ hh2.out Tryz.underlying79 rfl (by rw [rowL_size]; exact sz64) ?_)
    | (refine wpList_store_row rfl 79 _ _ rfl w.heap.size _ rfl rfl 79 _ hh0.out (by rw [rowL_size]; exact sz64) (by rw [rowL_size, rowL_size]) (rowL_one _ _ (fun _ => rfl)) ?_))
  refine bodyPost_ret (v := .agg (rowL 64 (rowB (kb key)))) ?_ rfl ⟨rfl, below_setRow hyb'.out (Nat.le_refl _) _⟩
  exact results_cell_row Tryz.results29 _ _ w.heap.size 79 _ (0, 0) _ rfl (setRow_heap _ _ _ _ _ _ hh0.out) Tryz.underlying79 rfl (by rw [rowL_size]; exact sz64)
theorem keyBlock_any (ao : Option Addr) (m c : Nat) (key : List UInt8) (w : World) (hm : m ≤ 140737488355328) (hc : c ≤ maxLen) (hT : Tab w) (hF : Fst w) (hs : Src w ao m c key) :
    Calls Tryz.prog 29 #[.slice ao m c] w fun e w' => e = .returned (.agg (rowL 64 (rowB (kb key)))) ∧ Below w.heap.size w w' := by
  rcases Nat.lt_or_ge 64 m with h | h
  · exact keyBlock_long ao m c key w h hm hc hT hF hs
  · exact keyBlock_short ao m c key w h hs
end Go.Proofs.YtogphpejdnhnjaaGreatDoor.Sha
namespace Go.Proofs.YtogphpejdnhnjaaGreatDoor.Sha
open Go.RowKit

def mac (key b : List UInt8) : List UInt8 := sum (padl (kb key) 92 ++ sum (padl (kb key) 54 ++ b))
theorem pad36 (k : Nat → UInt8) (w : World) : Calls Tryz.prog 31 #[.agg (rowL 64 (rowB k)), .int .u8 54] w fun e w' => e = .returned (.slice (some ⟨w.heap.size, 0, none⟩) 64 64) ∧ Src w' (some ⟨w.heap.size, 0, none⟩) 64 64 (padl k 54) ∧ Below w.heap.size w w' := pad_any k 54 w
theorem pad5c (k : Nat → UInt8) (w : World) : Calls Tryz.prog 31 #[.agg (rowL 64 (rowB k)), .int .u8 92] w fun e w' => e = .returned (.slice (some ⟨w.heap.size, 0, none⟩) 64 64) ∧ Src w' (some ⟨w.heap.size, 0, none⟩) 64 64 (padl k 92) ∧ Below w.heap.size w w' := pad_any k 92 w

set_option maxHeartbeats 1000000 in
set_option maxRecDepth 100000 in
theorem mac_any (ao : Option Addr) (m c : Nat) (key : List UInt8) (ao2 : Option Addr) (m2 c2 : Nat) (l : List UInt8) (w : World) (hm : m ≤ 140737488355328) (hc : c ≤ maxLen) (hm2 : m2 ≤ 140737488355200) (hT : Tab w) (hF : Fst w) (hs : Src w ao m c key) (hs2 : Src w ao2 m2 c2 l) :
    Calls Tryz.prog 14 #[.slice ao m c, .slice ao2 m2 c2] w fun e w' => e = .returned (.string ⟨(mac key l).toArray⟩) ∧ Below w.heap.size w w' := by
  obtain ⟨i0, hi, hz0, hz1, hz2⟩ := info_parts info5
  have h0lt := World.block_lt_of_cell? w _ (hT 0 (by omega))
  have HT := keep hT
  have HF := keep hF
  have HS2 := keep hs2
  clear hT hF hs2
  go_enter Tryz.func14, Tryz.ntmps14
  go_wp2_with fail
  refine (keyBlock_any ao m c key w hm hc HT.out HF.out hs).mono ?_
  rintro e w1 ⟨rfl, hb1⟩
  have hb1' := keep hb1
  clear hb1 hs
  go_wp2_with (first
    | (refine wpList_store_row rfl 79 _ _ rfl w1.heap.size _ rfl rfl 79 _ (heap_alloc_new w1 _) (by rw [rowL_size]; exact sz64) (by rw [rowL_size]; rfl) (rowL_one _ _ (fun _ => rfl)) ?_; rw [World.setRow_alloc_new]; have hK := keep (heap_alloc_new w1 (.cells (rowL 64 (rowB (kb key))) 79)); have hbx := keep (hb1'.out.alloc hb1'.out.size (.cells (rowL 64 (rowB (kb key))) 79)); have hBx : w1.heap.size < (w1.alloc (.cells (rowL 64 (rowB (kb key))) 79)).heap.size := (by simp); generalize w1.alloc (.cells (rowL 64 (rowB (kb key))) 79) = wx at hK hbx hBx ⊢; go_frame)
    | (refine wpList_load_row rfl 79 _ rfl w1.heap.size rfl 79 _ (0, 0) _ hK.out Tryz.underlying79 rfl (by rw [rowL_size]; exact sz64) ?_))
  refine (pad36 (kb key) wx).mono ?_
  rintro e w2 ⟨rfl, hp2, hb2⟩
  have hp2' := keep hp2
  have hb2' := keep (hbx.out.trans (hb2.mono hbx.out.size))
  have hK2 := keep ((hb2.block w1.heap.size hBx).trans hK.out)
  clear hp2 hb2 hK hb1'
  go_wp2_with (at_builtin; refine wpList_append_full rfl _ _ 47 47 rfl i0 _ Tryz.underlying47 hi hz0 hz1 hz2 _ 64 m2 _ l _ rfl hp2'.out rfl ((HS2.out.below hb2'.out).go Tryz.underlying47) (by omega) ?_; intro ao3 c3 w3 hs3 hc3 hb3)
  have hs3' := keep hs3
  have hb3' := keep (hb2'.out.trans (hb3.mono hb2'.out.size))
  have hsz2 : w1.heap.size < w2.heap.size := by
    rcases Nat.lt_or_ge w1.heap.size w2.heap.size with h | h
    · exact h
    · have := hK2.out; rw [Array.getElem?_eq_none h] at this; cases this
  have hK3 := keep ((hb3.block w1.heap.size hsz2).trans hK2.out)
  clear hs3 hb3 hK2
  refine (sum_any ao3 (64 + m2) c3 _ w3 (by omega) hc3 (HT.out.below hb3'.out) (HF.out.below hb3'.out) hs3'.out).mono ?_
  rintro e w4 ⟨rfl, hb4⟩
  have hb4' := keep (hb3'.out.trans (hb4.mono hb3'.out.size))
  have hsz3 : w1.heap.size < w3.heap.size := by
    rcases Nat.lt_or_ge w1.heap.size w3.heap.size with h | h
    · exact h
    · have := hK3.out; rw [Array.getElem?_eq_none h] at this; cases this
  have hK4 := keep ((hb4.block w1.heap.size hsz3).trans hK3.out)
  clear hb4 hK3 hs3' hp2'
  obtain ⟨inn, hinn⟩ : ∃ inn, sum (padl (kb key) 54 ++ l) = inn := ⟨_, rfl⟩
  rw [hinn]
  have hil : inn.length = 32 := by rw [← hinn]; exact sum_length _
  have hfin : Hid (mac key l = sum (padl (kb key) 92 ++ inn)) := by unfold mac; rw [hinn]; rfl
  clear hinn
  go_wp2_with (refine wpList_load_row rfl 79 _ rfl w1.heap.size rfl 79 _ (0, 0) _ hK4.out Tryz.underlying79 rfl (by rw [rowL_size]; exact sz64) ?_)
  refine (pad5c (kb key) w4).mono ?_
  rintro e w5 ⟨rfl, hp5, hb5⟩
  have hp5' := keep hp5
  have hb5' := keep (hb4'.out.trans (hb5.mono hb4'.out.size))
  clear hp5 hb5
  go_wp2_with (at_builtin; refine wpList_append_full rfl _ _ 47 9 rfl i0 _ Tryz.underlying47 hi hz0 hz1 hz2 _ 64 32 _ inn _ rfl hp5'.out rfl (src_string Tryz.underlying9 inn 32 hil) (by omega) ?_; intro ao6 c6 w6 hs6 hc6 hb6)
  have hb6' := keep (hb5'.out.trans (hb6.mono hb5'.out.size))
  refine (sum_any ao6 (64 + 32) c6 _ w6 (by omega) hc6 (HT.out.below hb6'.out) (HF.out.below hb6'.out) hs6).mono ?_
  rintro e w7 ⟨rfl, hb7⟩
  clear hs6
  go_wp2
  go_ret
  exact ⟨by rw [hfin.out]; rfl, hb6'.out.trans (hb7.mono hb6'.out.size)⟩
end Go.Proofs.YtogphpejdnhnjaaGreatDoor.Sha
