/- Notes and versions over plain lists; no walk. -/
/- Rows that a call owns; no walk. (The frames by blocks lie in disk's Ds.) -/
/- A note as it lies; no walk. -/
/- The walks of bytes.Compare and of key.Less. -/
/- The walks of isNum, isKey, cmp.Compare. -/
/- The walks of a note's order and meets. -/
/- The walks of a note's mayBe and spans. -/
/- An operation taken first; a region's answers joined; slots set; no walk. -/
import Derived.Test.YthnebhddakfadaaGreatDoorJoinMe
import Derived.Lib.BytesEntry
import Derived.Deep.RegionHeld3
namespace Go.Proofs.YthnebhddakfadaaGreatDoor.Ed
open Go.Proofs.YthnebhddakfadaaGreatDoor

/-- A table's note. -/
structure Nt where
  num : Int
  level : Int
  count : Int
  first : List UInt8
  last : List UInt8
def isNum (n : Int) : Bool := decide (0 ≤ n) && decide (n ≤ 1099511627776)
def isKey (b : List UInt8) : Bool := decide (1 ≤ b.length) && decide (b.length ≤ 64)
/-- -1, 0 or 1, as the one is less, the same or greater. -/
def cmpI (a b : Int) : Int := if a < b then -1 else if b < a then 1 else 0
/-- The order of notes: below 0, if the one goes ahead of the other. -/
def order (m n : Nt) : Int :=
  if m.level ≠ n.level then cmpI m.level n.level
  else if m.level = 0 then cmpI n.num m.num
  else if less m.first n.first = true then -1
  else if less n.first m.first = true then 1
  else 0
def mayBe (m : Nt) : Bool := isNum m.num && decide (0 ≤ m.level) && decide (m.level ≤ 3) && decide (1 ≤ m.count) && decide (m.count ≤ 64) && isKey m.first && isKey m.last && !less m.last m.first
/-- Are they of one level above 0, and not apart? -/
def meets (m n : Nt) : Bool := decide (m.level = n.level) && decide (0 < m.level) && !less m.last n.first
/-- Does it go ahead? -/
def ahead (m n : Nt) : Prop := order m n < 0
end Go.Proofs.YthnebhddakfadaaGreatDoor.Ed
namespace Go.Proofs.YthnebhddakfadaaGreatDoor
open Go.RowKit

theorem own_size {w : World} {B t k n : Nat} {v : Value} {xs : List Value} (h : w.ownsRow B t k v n xs) {g : Nat} (hg : v.ownBlock = some g) : g < w.heap.size := by
  rcases h.2 with ⟨rfl, _⟩ | ⟨g', cap, cur, rfl, _, hh, _⟩
  · cases hg
  · cases hg
    exact (Array.getElem?_eq_some_iff.1 hh).1
theorem own_tag {w : World} {B t k n : Nat} {v : Value} {xs : List Value} (h : w.ownsRow B t k v n xs) {g : Nat} (hg : v.ownBlock = some g) : ∃ cur, w.heap[g]? = some (.cells cur t (0, 0)) := by
  rcases h.2 with ⟨rfl, _⟩ | ⟨g', cap, cur, rfl, _, hh, _⟩
  · cases hg
  · cases hg
    exact ⟨cur, hh⟩
end Go.Proofs.YthnebhddakfadaaGreatDoor
namespace Go.Proofs.YthnebhddakfadaaGreatDoor
open Go.RowKit
open Ed (Nt)

/-- A note as it lies in memory: where its bytes are, besides. -/
structure MV where
  fp : Option Addr
  fc : Nat
  lp : Option Addr
  lc : Nat
  m : Nt
def metaKind : Kind MV where
  size := 5
  vals x := [.int .i64 x.m.num, .int .i64 x.m.level, .int .i64 x.m.count, .slice x.fp x.m.first.length x.fc, .slice x.lp x.m.last.length x.lc]
  held w x := Src w x.fp x.m.first.length x.fc x.m.first ∧ Src w x.lp x.m.last.length x.lc x.m.last
theorem metaKind_ok : metaKind.Ok :=
  ⟨by decide, fun _ => rfl, fun e u hu => by
    simp only [metaKind, List.mem_cons, List.not_mem_nil, or_false] at hu
    rcases hu with rfl | rfl | rfl | rfl | rfl <;> rfl, fun h hb => ⟨h.1.below hb, h.2.below hb⟩⟩
def mv (x : MV) : Value := .agg #[.int .i64 x.m.num, .int .i64 x.m.level, .int .i64 x.m.count, .slice x.fp x.m.first.length x.fc, .slice x.lp x.m.last.length x.lc]
theorem meta_cells {w : World} {b off n c : Nat} {es : List MV} (h : RSrc metaKind w (some ⟨b, off, none⟩) n c es) {i : Nat} {x : MV} (hx : es[i]? = some x) :
    w.cell? ⟨b, off + i * 5, none⟩ = some (.int .i64 x.m.num) ∧ w.cell? ⟨b, off + i * 5 + 1, none⟩ = some (.int .i64 x.m.level) ∧ w.cell? ⟨b, off + i * 5 + 2, none⟩ = some (.int .i64 x.m.count) ∧ w.cell? ⟨b, off + i * 5 + 3, none⟩ = some (.slice x.fp x.m.first.length x.fc) ∧ w.cell? ⟨b, off + i * 5 + 4, none⟩ = some (.slice x.lp x.m.last.length x.lc) := by
  have one : ∀ (j : Nat) (u : Value), (metaKind.vals x)[j]? = some u → w.cell? ⟨b, off + i * 5 + j, none⟩ = some u := fun j u hu => by
    have hj : j < 5 := (List.getElem?_eq_some_iff.1 hu).1
    have := h.cells _ rfl (i * metaKind.size + j) u ((rv_at metaKind_ok j hx hj).trans hu)
    rw [Addr.add_mid] at this
    rw [show off + i * 5 + j = off + (i * metaKind.size + j) by show _ = off + (i * 5 + j); omega]
    exact this
  exact ⟨one 0 _ rfl, one 1 _ rfl, one 2 _ rfl, one 3 _ rfl, one 4 _ rfl⟩
end Go.Proofs.YthnebhddakfadaaGreatDoor
namespace Go.Proofs.YthnebhddakfadaaGreatDoor
open Go.RowKit

theorem run_bytesOf {w : World} {ao : Option Addr} {m c : Nat} {l : List UInt8} (h : Src w ao m c l) : (Extern.Bytes.bytesOf (.slice ao m c)).run Tryz.prog w = .ok ⟨l.toArray⟩ w := by
  cases ao with
  | none =>
    have hl : l = [] := List.length_eq_zero_iff.1 (by rw [h.len]; exact (h.nil rfl).1)
    subst hl
    rfl
  | some ad =>
    have h1 := Lib.run_loadBytesX (P := Tryz.prog) w (l.map fun b => (b.toNat : Int)) ad .empty (fun j x hx => by
      apply h.cells ad rfl
      rw [List.getElem?_map] at hx
      unfold bv
      rw [List.getElem?_map]
      cases hj : l[j]? with
      | none => rw [hj] at hx; cases hx
      | some b => rw [hj] at hx; cases hx; rfl)
    have e : Lib.bytesOf (l.map fun b => (b.toNat : Int)) = l := by
      unfold Lib.bytesOf
      rw [List.map_map]
      conv => rhs; rw [← List.map_id l]
      apply List.map_congr_left
      intro a _
      simp
    rw [e, List.length_map, h.len] at h1
    have e2 : (⟨ByteArray.empty.data ++ l.toArray⟩ : ByteArray) = ⟨l.toArray⟩ := by
      apply ByteArray.ext
      show (#[] : Array UInt8) ++ l.toArray = l.toArray
      simp
    rw [e2] at h1
    exact h1
theorem run_compare {w : World} {ao : Option Addr} {m c : Nat} {l : List UInt8} {ao2 : Option Addr} {m2 c2 : Nat} {l2 : List UInt8} (h : Src w ao m c l) (h2 : Src w ao2 m2 c2 l2) :
    (Extern.BytealgCompare.compare #[.slice ao m c, .slice ao2 m2 c2]).run Tryz.prog w = .ok (.int .i64 (Lib.compareBytes l l2)) w := by
  change Sem.run Tryz.prog (do pure (goInt (Extern.BytealgCompare.cmp (← Extern.Bytes.bytesOf (.slice ao m c)) (← Extern.Bytes.bytesOf (.slice ao2 m2 c2))))) w = _
  simp only [Sem.run_bind, Sem.run_pure, run_bytesOf h, run_bytesOf h2, Result.andThen]
  rw [Lib.cmp_eq]
  rfl
theorem compare_less : ∀ (l l2 : List UInt8), decide (Lib.compareBytes l l2 < 0) = less l l2
  | [], [] => rfl
  | [], _ :: _ => rfl
  | _ :: _, [] => rfl
  | a :: x, b :: y => by
    have ih := compare_less x y
    simp only [Lib.compareBytes, less]
    by_cases h : a < b
    · simp [h]
    · by_cases h2 : b < a
      · have hne : ¬ a = b := fun e => by subst e; exact h h2
        simp [h, h2, hne]
      · have e : a = b := UInt8.toNat_inj.1 (by rw [UInt8.lt_iff_toNat_lt] at h h2; omega)
        subst e
        simp [h, ih]

set_option maxHeartbeats 1000000 in
set_option maxRecDepth 100000 in
theorem compare_any (ao : Option Addr) (m c : Nat) (l : List UInt8) (ao2 : Option Addr) (m2 c2 : Nat) (l2 : List UInt8) (w : World) (hs : Src w ao m c l) (hs2 : Src w ao2 m2 c2 l2) :
    Calls Tryz.prog 202 #[.slice ao m c, .slice ao2 m2 c2] w fun e w' => e = .returned (.int .i64 (Lib.compareBytes l l2)) ∧ w' = w := by
  have hc := run_compare hs hs2
  clear hs hs2
  go_enter Tryz.func202, Tryz.ntmps202
  go_wp2
  rw [run_callFunc_extern Tryz.func226 (by kernel_rfl) (by kernel_rfl) (by kernel_rfl) (e := Extern.BytealgCompare.compare) (by kernel_rfl), hc]
  simp only [Result.andThen]
  rw [Oper.upon_value]
  go_wp2
  go_ret
  exact ⟨rfl, rfl⟩

set_option maxHeartbeats 1000000 in
set_option maxRecDepth 100000 in
theorem less_any (ao : Option Addr) (m c : Nat) (l : List UInt8) (ao2 : Option Addr) (m2 c2 : Nat) (l2 : List UInt8) (w : World) (hs : Src w ao m c l) (hs2 : Src w ao2 m2 c2 l2) :
    Calls Tryz.prog 165 #[.slice ao m c, .slice ao2 m2 c2] w fun e w' => e = .returned (.bool (less l l2)) ∧ w' = w := by
  have hl := keep (compare_less l l2)
  have HS := keep hs
  have HS2 := keep hs2
  clear hs hs2
  go_enter Tryz.func165, Tryz.ntmps165
  go_wp2_with fail
  refine (compare_any ao m c l ao2 m2 c2 l2 _ HS.out HS2.out).mono ?_
  rintro e w1 ⟨rfl, rfl⟩
  obtain ⟨x, hx⟩ : ∃ x, Lib.compareBytes l l2 = x := ⟨_, rfl⟩
  rw [hx] at hl ⊢
  clear hx
  go_wp2
  go_ret
  exact ⟨by rw [← hl.out]; rfl, rfl⟩
end Go.Proofs.YthnebhddakfadaaGreatDoor
namespace Go.Proofs.YthnebhddakfadaaGreatDoor
open Go.RowKit
open Ed (Nt)

set_option maxHeartbeats 1000000 in
theorem isNum_any (n : Int) (w : World) : Calls Tryz.prog 72 #[.int .i64 n] w fun e w' => e = .returned (.bool (Ed.isNum n)) ∧ w' = w := by
  by_cases h0 : 0 ≤ n
  · have d0 : decide (0 ≤ n) = true := decide_eq_true h0
    go_enter Tryz.func72, Tryz.ntmps72
    go_wp2
    go_ret
    exact ⟨by unfold Ed.isNum; rw [d0]; rfl, rfl⟩
  · have d0 : decide (0 ≤ n) = false := decide_eq_false h0
    go_enter Tryz.func72, Tryz.ntmps72
    go_wp2
    go_ret
    exact ⟨by unfold Ed.isNum; rw [d0]; rfl, rfl⟩
set_option maxHeartbeats 1000000 in
theorem isKey_any (ao : Option Addr) (m c : Nat) (l : List UInt8) (w : World) (hs : Src w ao m c l) : Calls Tryz.prog 168 #[.slice ao m c] w fun e w' => e = .returned (.bool (Ed.isKey l)) ∧ w' = w := by
  have hl := hs.len
  have HL : Hid (Ed.isKey l = (decide (1 ≤ m) && decide (m ≤ 64))) := by show _ = _; unfold Ed.isKey; rw [hl]
  rw [HL.out]
  clear hs hl
  by_cases h0 : 1 ≤ m
  · have d0 : decide (1 ≤ m) = true := decide_eq_true h0
    have i0 : (1 : Int) ≤ (m : Int) := by omega
    have e2 : decide ((m : Int) ≤ 64) = decide (m ≤ 64) := by rw [decide_eq_decide]; omega
    go_enter Tryz.func168, Tryz.ntmps168
    go_wp2
    go_ret
    exact ⟨by rw [d0]; simp, rfl⟩
  · have d0 : decide (1 ≤ m) = false := decide_eq_false h0
    have i0 : ¬ (1 : Int) ≤ (m : Int) := by omega
    go_enter Tryz.func168, Tryz.ntmps168
    go_wp2
    go_ret
    exact ⟨rfl, rfl⟩
set_option maxHeartbeats 1000000 in
theorem isNaN_any (n : Int) (w : World) : Calls Tryz.prog 201 #[.int .i64 n] w fun e w' => e = .returned (.bool false) ∧ w' = w := by
  go_enter Tryz.func201, Tryz.ntmps201
  go_wp2
  go_ret
  exact ⟨by simp, rfl⟩
set_option maxHeartbeats 1000000 in
theorem compare_int (a b : Int) (w : World) : Calls Tryz.prog 164 #[.int .i64 a, .int .i64 b] w fun e w' => e = .returned (.int .i64 (Ed.cmpI a b)) ∧ w' = w := by
  have N1 := keep (isNaN_any a w)
  have N2 := keep (isNaN_any b w)
  by_cases h1 : a < b
  · have e : Ed.cmpI a b = -1 := by unfold Ed.cmpI; rw [if_pos h1]
    rw [e]
    go_enter Tryz.func164, Tryz.ntmps164
    go_wp2_with fail
    refine N1.out.mono ?_
    rintro e w1 ⟨rfl, rfl⟩
    go_wp2_with fail
    refine N2.out.mono ?_
    rintro e w2 ⟨rfl, rfl⟩
    go_wp2
    go_ret
    exact ⟨rfl, rfl⟩
  · by_cases h2 : b < a
    · have e : Ed.cmpI a b = 1 := by unfold Ed.cmpI; rw [if_neg h1, if_pos h2]
      rw [e]
      go_enter Tryz.func164, Tryz.ntmps164
      go_wp2_with fail
      refine N1.out.mono ?_
      rintro e w1 ⟨rfl, rfl⟩
      go_wp2_with fail
      refine N2.out.mono ?_
      rintro e w2 ⟨rfl, rfl⟩
      go_wp2
      go_ret
      exact ⟨rfl, rfl⟩
    · have e : Ed.cmpI a b = 0 := by unfold Ed.cmpI; rw [if_neg h1, if_neg h2]
      rw [e]
      go_enter Tryz.func164, Tryz.ntmps164
      go_wp2_with fail
      refine N1.out.mono ?_
      rintro e w1 ⟨rfl, rfl⟩
      go_wp2_with fail
      refine N2.out.mono ?_
      rintro e w2 ⟨rfl, rfl⟩
      go_wp2
      go_ret
      exact ⟨rfl, rfl⟩
end Go.Proofs.YthnebhddakfadaaGreatDoor
namespace Go.Proofs.YthnebhddakfadaaGreatDoor
open Go.RowKit
open Ed (Nt)

set_option maxHeartbeats 2000000 in
set_option maxRecDepth 100000 in
theorem order_any (x y : MV) (w : World) (hx : metaKind.held w x) (hy : metaKind.held w y) :
    Calls Tryz.prog 114 #[mv x, mv y] w fun e w' => e = .returned (.int .i64 (Ed.order x.m y.m)) ∧ Below w.heap.size w w' := by
  obtain ⟨xfp, xfc, xlp, xlc, ⟨xnum, xlevel, xcount, xfirst, xlast⟩⟩ := x
  obtain ⟨yfp, yfc, ylp, ylc, ⟨ynum, ylevel, ycount, yfirst, ylast⟩⟩ := y
  have XF : Hid (Src w xfp xfirst.length xfc xfirst) := hx.1
  have XL : Hid (Src w xlp xlast.length xlc xlast) := hx.2
  have YF : Hid (Src w yfp yfirst.length yfc yfirst) := hy.1
  have YL : Hid (Src w ylp ylast.length ylc ylast) := hy.2
  clear hx hy
  unfold mv
  simp only
  obtain ⟨W1, hW1⟩ : ∃ Wn, w.alloc (.cells #[.int .i64 xnum, .int .i64 xlevel, .int .i64 xcount, .slice xfp xfirst.length xfc, .slice xlp xlast.length xlc] 113) = Wn := ⟨_, rfl⟩
  have bW1 : Hid (Below w.heap.size w W1) := by rw [← hW1]; exact (Below.refl _ _).alloc (Nat.le_refl _) _
  have gW1 : Hid (W1.heap[w.heap.size]? = some (.cells #[.int .i64 xnum, .int .i64 xlevel, .int .i64 xcount, .slice xfp xfirst.length xfc, .slice xlp xlast.length xlc] 113)) := by rw [← hW1]; exact heap_alloc_new w _
  obtain ⟨W2, hW2⟩ : ∃ Wn, W1.alloc (.cells #[.int .i64 ynum, .int .i64 ylevel, .int .i64 ycount, .slice yfp yfirst.length yfc, .slice ylp ylast.length ylc] 113) = Wn := ⟨_, rfl⟩
  have bW2 : Hid (Below W1.heap.size W1 W2) := by rw [← hW2]; exact (Below.refl _ _).alloc (Nat.le_refl _) _
  have gW2 : Hid (W2.heap[W1.heap.size]? = some (.cells #[.int .i64 ynum, .int .i64 ylevel, .int .i64 ycount, .slice yfp yfirst.length yfc, .slice ylp ylast.length ylc] 113)) := by rw [← hW2]; exact heap_alloc_new W1 _
  have BW := keep (bW1.out.trans (bW2.out.mono bW1.out.size))
  have G1 : Hid (W2.heap[w.heap.size]? = _) := (bW2.out.block _ (Array.getElem?_eq_some_iff.1 gW1.out).1).trans gW1.out
  have x0 : W2.cell? ⟨w.heap.size, 0, none⟩ = some (.int .i64 xnum) := cell_of_row _ _ _ _ _ _ G1.out
  have x1 : W2.cell? ⟨w.heap.size, 1, none⟩ = some (.int .i64 xlevel) := cell_of_row _ _ _ _ _ _ G1.out
  have x2 : W2.cell? ⟨w.heap.size, 2, none⟩ = some (.int .i64 xcount) := cell_of_row _ _ _ _ _ _ G1.out
  have x3 : W2.cell? ⟨w.heap.size, 3, none⟩ = some (.slice xfp xfirst.length xfc) := cell_of_row _ _ _ _ _ _ G1.out
  have x4 : W2.cell? ⟨w.heap.size, 4, none⟩ = some (.slice xlp xlast.length xlc) := cell_of_row _ _ _ _ _ _ G1.out
  have y0 : W2.cell? ⟨W1.heap.size, 0, none⟩ = some (.int .i64 ynum) := cell_of_row _ _ _ _ _ _ gW2.out
  have y1 : W2.cell? ⟨W1.heap.size, 1, none⟩ = some (.int .i64 ylevel) := cell_of_row _ _ _ _ _ _ gW2.out
  have y2 : W2.cell? ⟨W1.heap.size, 2, none⟩ = some (.int .i64 ycount) := cell_of_row _ _ _ _ _ _ gW2.out
  have y3 : W2.cell? ⟨W1.heap.size, 3, none⟩ = some (.slice yfp yfirst.length yfc) := cell_of_row _ _ _ _ _ _ gW2.out
  have y4 : W2.cell? ⟨W1.heap.size, 4, none⟩ = some (.slice ylp ylast.length ylc) := cell_of_row _ _ _ _ _ _ gW2.out
  have C1 := keep (compare_int xlevel ylevel W2)
  have C2 := keep (compare_int ynum xnum W2)
  have L1 := keep (less_any xfp xfirst.length xfc xfirst yfp yfirst.length yfc yfirst W2 (XF.out.below BW.out) (YF.out.below BW.out))
  have L2 := keep (less_any yfp yfirst.length yfc yfirst xfp xfirst.length xfc xfirst W2 (YF.out.below BW.out) (XF.out.below BW.out))
  by_cases h1 : xlevel = ylevel
  · subst h1
    by_cases h2 : xlevel = 0
    · have e : Ed.order ⟨xnum, xlevel, xcount, xfirst, xlast⟩ ⟨ynum, xlevel, ycount, yfirst, ylast⟩ = Ed.cmpI ynum xnum := by simp [Ed.order, h2]
      rw [e]
      clear e
      subst h2
      go_enter Tryz.func114, Tryz.ntmps114
      go_wp2_with fail
      refine C2.out.mono ?_
      rintro e w1 ⟨rfl, rfl⟩
      go_wp2
      go_ret
      exact ⟨rfl, BW.out⟩
    · have h2b : (xlevel == 0) = false := by simp [h2]
      cases h3 : less xfirst yfirst with
      | true =>
        have e : Ed.order ⟨xnum, xlevel, xcount, xfirst, xlast⟩ ⟨ynum, xlevel, ycount, yfirst, ylast⟩ = -1 := by simp [Ed.order, h2, h3]
        rw [e]
        rw [h3] at L1
        clear e h3
        go_enter Tryz.func114, Tryz.ntmps114
        go_wp2_with fail
        refine L1.out.mono ?_
        rintro e w1 ⟨rfl, rfl⟩
        go_wp2
        go_ret
        exact ⟨rfl, BW.out⟩
      | false =>
        rw [h3] at L1
        cases h4 : less yfirst xfirst with
        | true =>
          have e : Ed.order ⟨xnum, xlevel, xcount, xfirst, xlast⟩ ⟨ynum, xlevel, ycount, yfirst, ylast⟩ = 1 := by simp [Ed.order, h2, h3, h4]
          rw [e]
          rw [h4] at L2
          clear e h3 h4
          go_enter Tryz.func114, Tryz.ntmps114
          go_wp2_with fail
          refine L1.out.mono ?_
          rintro e w1 ⟨rfl, rfl⟩
          go_wp2_with fail
          refine L2.out.mono ?_
          rintro e w1 ⟨rfl, rfl⟩
          go_wp2
          go_ret
          exact ⟨rfl, BW.out⟩
        | false =>
          have e : Ed.order ⟨xnum, xlevel, xcount, xfirst, xlast⟩ ⟨ynum, xlevel, ycount, yfirst, ylast⟩ = 0 := by simp [Ed.order, h2, h3, h4]
          rw [e]
          rw [h4] at L2
          clear e h3 h4
          go_enter Tryz.func114, Tryz.ntmps114
          go_wp2_with fail
          refine L1.out.mono ?_
          rintro e w1 ⟨rfl, rfl⟩
          go_wp2_with fail
          refine L2.out.mono ?_
          rintro e w1 ⟨rfl, rfl⟩
          go_wp2
          go_ret
          exact ⟨rfl, BW.out⟩
  · have e : Ed.order ⟨xnum, xlevel, xcount, xfirst, xlast⟩ ⟨ynum, ylevel, ycount, yfirst, ylast⟩ = Ed.cmpI xlevel ylevel := by simp [Ed.order, h1]
    rw [e]
    have h1b : (xlevel == ylevel) = false := by simp [h1]
    clear e
    go_enter Tryz.func114, Tryz.ntmps114
    go_wp2_with fail
    refine C1.out.mono ?_
    rintro e w1 ⟨rfl, rfl⟩
    go_wp2
    go_ret
    exact ⟨rfl, BW.out⟩
set_option maxHeartbeats 2000000 in
set_option maxRecDepth 100000 in
theorem meets_any (x y : MV) (w : World) (hx : metaKind.held w x) (hy : metaKind.held w y) :
    Calls Tryz.prog 117 #[mv x, mv y] w fun e w' => e = .returned (.bool (Ed.meets x.m y.m)) ∧ Below w.heap.size w w' := by
  obtain ⟨xfp, xfc, xlp, xlc, ⟨xnum, xlevel, xcount, xfirst, xlast⟩⟩ := x
  obtain ⟨yfp, yfc, ylp, ylc, ⟨ynum, ylevel, ycount, yfirst, ylast⟩⟩ := y
  have XF : Hid (Src w xfp xfirst.length xfc xfirst) := hx.1
  have XL : Hid (Src w xlp xlast.length xlc xlast) := hx.2
  have YF : Hid (Src w yfp yfirst.length yfc yfirst) := hy.1
  have YL : Hid (Src w ylp ylast.length ylc ylast) := hy.2
  clear hx hy
  unfold mv
  simp only
  obtain ⟨W1, hW1⟩ : ∃ Wn, w.alloc (.cells #[.int .i64 xnum, .int .i64 xlevel, .int .i64 xcount, .slice xfp xfirst.length xfc, .slice xlp xlast.length xlc] 113) = Wn := ⟨_, rfl⟩
  have bW1 : Hid (Below w.heap.size w W1) := by rw [← hW1]; exact (Below.refl _ _).alloc (Nat.le_refl _) _
  have gW1 : Hid (W1.heap[w.heap.size]? = some (.cells #[.int .i64 xnum, .int .i64 xlevel, .int .i64 xcount, .slice xfp xfirst.length xfc, .slice xlp xlast.length xlc] 113)) := by rw [← hW1]; exact heap_alloc_new w _
  obtain ⟨W2, hW2⟩ : ∃ Wn, W1.alloc (.cells #[.int .i64 ynum, .int .i64 ylevel, .int .i64 ycount, .slice yfp yfirst.length yfc, .slice ylp ylast.length ylc] 113) = Wn := ⟨_, rfl⟩
  have bW2 : Hid (Below W1.heap.size W1 W2) := by rw [← hW2]; exact (Below.refl _ _).alloc (Nat.le_refl _) _
  have gW2 : Hid (W2.heap[W1.heap.size]? = some (.cells #[.int .i64 ynum, .int .i64 ylevel, .int .i64 ycount, .slice yfp yfirst.length yfc, .slice ylp ylast.length ylc] 113)) := by rw [← hW2]; exact heap_alloc_new W1 _
  have BW := keep (bW1.out.trans (bW2.out.mono bW1.out.size))
  have G1 : Hid (W2.heap[w.heap.size]? = _) := (bW2.out.block _ (Array.getElem?_eq_some_iff.1 gW1.out).1).trans gW1.out
  have x0 : W2.cell? ⟨w.heap.size, 0, none⟩ = some (.int .i64 xnum) := cell_of_row _ _ _ _ _ _ G1.out
  have x1 : W2.cell? ⟨w.heap.size, 1, none⟩ = some (.int .i64 xlevel) := cell_of_row _ _ _ _ _ _ G1.out
  have x2 : W2.cell? ⟨w.heap.size, 2, none⟩ = some (.int .i64 xcount) := cell_of_row _ _ _ _ _ _ G1.out
  have x3 : W2.cell? ⟨w.heap.size, 3, none⟩ = some (.slice xfp xfirst.length xfc) := cell_of_row _ _ _ _ _ _ G1.out
  have x4 : W2.cell? ⟨w.heap.size, 4, none⟩ = some (.slice xlp xlast.length xlc) := cell_of_row _ _ _ _ _ _ G1.out
  have y0 : W2.cell? ⟨W1.heap.size, 0, none⟩ = some (.int .i64 ynum) := cell_of_row _ _ _ _ _ _ gW2.out
  have y1 : W2.cell? ⟨W1.heap.size, 1, none⟩ = some (.int .i64 ylevel) := cell_of_row _ _ _ _ _ _ gW2.out
  have y2 : W2.cell? ⟨W1.heap.size, 2, none⟩ = some (.int .i64 ycount) := cell_of_row _ _ _ _ _ _ gW2.out
  have y3 : W2.cell? ⟨W1.heap.size, 3, none⟩ = some (.slice yfp yfirst.length yfc) := cell_of_row _ _ _ _ _ _ gW2.out
  have y4 : W2.cell? ⟨W1.heap.size, 4, none⟩ = some (.slice ylp ylast.length ylc) := cell_of_row _ _ _ _ _ _ gW2.out
  have L1 := keep (less_any xlp xlast.length xlc xlast yfp yfirst.length yfc yfirst W2 (XL.out.below BW.out) (YF.out.below BW.out))
  by_cases h1 : xlevel = ylevel
  · by_cases h2 : 0 < xlevel
    · have e : Ed.meets ⟨xnum, xlevel, xcount, xfirst, xlast⟩ ⟨ynum, ylevel, ycount, yfirst, ylast⟩ = !less xlast yfirst := by simp [Ed.meets, h1, h1 ▸ h2]
      rw [e]
      have h1b : (xlevel == ylevel) = true := by simp [h1]
      have h2b : decide (0 < xlevel) = true := decide_eq_true h2
      subst h1
      clear e
      go_enter Tryz.func117, Tryz.ntmps117
      go_wp2_with fail
      refine L1.out.mono ?_
      rintro e w1 ⟨rfl, rfl⟩
      go_wp2
      go_ret
      exact ⟨rfl, BW.out⟩
    · have e : Ed.meets ⟨xnum, xlevel, xcount, xfirst, xlast⟩ ⟨ynum, ylevel, ycount, yfirst, ylast⟩ = false := by unfold Ed.meets; simp only; rw [decide_eq_false h2]; simp
      rw [e]
      have h2b : decide (0 < xlevel) = false := decide_eq_false h2
      subst h1
      clear e
      go_enter Tryz.func117, Tryz.ntmps117
      go_wp2
      go_ret
      exact ⟨rfl, BW.out⟩
  · have e : Ed.meets ⟨xnum, xlevel, xcount, xfirst, xlast⟩ ⟨ynum, ylevel, ycount, yfirst, ylast⟩ = false := by unfold Ed.meets; simp only; rw [decide_eq_false h1]; simp
    rw [e]
    have h1b : (xlevel == ylevel) = false := by simp [h1]
    clear e
    go_enter Tryz.func117, Tryz.ntmps117
    go_wp2
    go_ret
    exact ⟨rfl, BW.out⟩
end Go.Proofs.YthnebhddakfadaaGreatDoor
namespace Go.Proofs.YthnebhddakfadaaGreatDoor
open Go.RowKit
open Ed (Nt)

set_option maxHeartbeats 4000000 in
set_option maxRecDepth 100000 in
theorem mayBe_any (x : MV) (w : World) (hx : metaKind.held w x) :
    Calls Tryz.prog 116 #[mv x] w fun e w' => e = .returned (.bool (Ed.mayBe x.m)) ∧ Below w.heap.size w w' := by
  obtain ⟨xfp, xfc, xlp, xlc, ⟨xnum, xlevel, xcount, xfirst, xlast⟩⟩ := x
  have XF : Hid (Src w xfp xfirst.length xfc xfirst) := hx.1
  have XL : Hid (Src w xlp xlast.length xlc xlast) := hx.2
  clear hx
  unfold mv
  simp only
  obtain ⟨W1, hW1⟩ : ∃ Wn, w.alloc (.cells #[.int .i64 xnum, .int .i64 xlevel, .int .i64 xcount, .slice xfp xfirst.length xfc, .slice xlp xlast.length xlc] 113) = Wn := ⟨_, rfl⟩
  have bW1 : Hid (Below w.heap.size w W1) := by rw [← hW1]; exact (Below.refl _ _).alloc (Nat.le_refl _) _
  have gW1 : Hid (W1.heap[w.heap.size]? = some (.cells #[.int .i64 xnum, .int .i64 xlevel, .int .i64 xcount, .slice xfp xfirst.length xfc, .slice xlp xlast.length xlc] 113)) := by rw [← hW1]; exact heap_alloc_new w _
  have x0 : W1.cell? ⟨w.heap.size, 0, none⟩ = some (.int .i64 xnum) := cell_of_row _ _ _ _ _ _ gW1.out
  have x1 : W1.cell? ⟨w.heap.size, 1, none⟩ = some (.int .i64 xlevel) := cell_of_row _ _ _ _ _ _ gW1.out
  have x2 : W1.cell? ⟨w.heap.size, 2, none⟩ = some (.int .i64 xcount) := cell_of_row _ _ _ _ _ _ gW1.out
  have x3 : W1.cell? ⟨w.heap.size, 3, none⟩ = some (.slice xfp xfirst.length xfc) := cell_of_row _ _ _ _ _ _ gW1.out
  have x4 : W1.cell? ⟨w.heap.size, 4, none⟩ = some (.slice xlp xlast.length xlc) := cell_of_row _ _ _ _ _ _ gW1.out
  have N1 := keep (isNum_any xnum W1)
  have K1 := keep (isKey_any xfp xfirst.length xfc xfirst W1 (XF.out.below bW1.out))
  have K2 := keep (isKey_any xlp xlast.length xlc xlast W1 (XL.out.below bW1.out))
  have L1 := keep (less_any xlp xlast.length xlc xlast xfp xfirst.length xfc xfirst W1 (XL.out.below bW1.out) (XF.out.below bW1.out))
  have EQ : Hid (Ed.mayBe ⟨xnum, xlevel, xcount, xfirst, xlast⟩ = (Ed.isNum xnum && decide (0 ≤ xlevel) && decide (xlevel ≤ 3) && decide (1 ≤ xcount) && decide (xcount ≤ 64) && Ed.isKey xfirst && Ed.isKey xlast && !less xlast xfirst)) := rfl
  obtain ⟨q1, hq1⟩ : ∃ q, Ed.isNum xnum = q := ⟨_, rfl⟩
  obtain ⟨q6, hq6⟩ : ∃ q, Ed.isKey xfirst = q := ⟨_, rfl⟩
  obtain ⟨q7, hq7⟩ : ∃ q, Ed.isKey xlast = q := ⟨_, rfl⟩
  rw [hq1] at N1 EQ
  rw [hq6] at K1 EQ
  rw [hq7] at K2 EQ
  rw [EQ.out]
  clear hq1 hq6 hq7 EQ
  cases q1 with
  | false =>
    simp only [Bool.false_and]
    go_enter Tryz.func116, Tryz.ntmps116
    go_wp2_with fail
    refine N1.out.mono ?_
    rintro e w1 ⟨rfl, rfl⟩
    go_wp2
    go_ret
    exact ⟨by first | rfl | simp, bW1.out⟩
  | true =>
    by_cases h1 : 0 ≤ xlevel
    · have d1 : decide (0 ≤ xlevel) = true := decide_eq_true h1
      rw [d1]
      by_cases h2 : xlevel ≤ 3
      · have d2 : decide (xlevel ≤ 3) = true := decide_eq_true h2
        rw [d2]
        by_cases h3 : 1 ≤ xcount
        · have d3 : decide (1 ≤ xcount) = true := decide_eq_true h3
          rw [d3]
          by_cases h4 : xcount ≤ 64
          · have d4 : decide (xcount ≤ 64) = true := decide_eq_true h4
            rw [d4]
            cases q6 with
            | false =>
              simp only [Bool.false_and, Bool.and_false]
              go_enter Tryz.func116, Tryz.ntmps116
              go_wp2_with fail
              refine N1.out.mono ?_
              rintro e w1 ⟨rfl, rfl⟩
              go_wp2_with fail
              refine K1.out.mono ?_
              rintro e w1 ⟨rfl, rfl⟩
              go_wp2
              go_ret
              exact ⟨by first | rfl | simp, bW1.out⟩
            | true =>
              cases q7 with
              | false =>
                simp only [Bool.false_and, Bool.and_false]
                go_enter Tryz.func116, Tryz.ntmps116
                go_wp2_with fail
                refine N1.out.mono ?_
                rintro e w1 ⟨rfl, rfl⟩
                go_wp2_with fail
                refine K1.out.mono ?_
                rintro e w1 ⟨rfl, rfl⟩
                go_wp2_with fail
                refine K2.out.mono ?_
                rintro e w1 ⟨rfl, rfl⟩
                go_wp2
                go_ret
                exact ⟨by first | rfl | simp, bW1.out⟩
              | true =>
                go_enter Tryz.func116, Tryz.ntmps116
                go_wp2_with fail
                refine N1.out.mono ?_
                rintro e w1 ⟨rfl, rfl⟩
                go_wp2_with fail
                refine K1.out.mono ?_
                rintro e w1 ⟨rfl, rfl⟩
                go_wp2_with fail
                refine K2.out.mono ?_
                rintro e w1 ⟨rfl, rfl⟩
                go_wp2_with fail
                refine L1.out.mono ?_
                rintro e w1 ⟨rfl, rfl⟩
                go_wp2
                go_ret
                exact ⟨by simp, bW1.out⟩
          · have d4 : decide (xcount ≤ 64) = false := decide_eq_false h4
            rw [d4]
            simp only [Bool.false_and, Bool.and_false]
            go_enter Tryz.func116, Tryz.ntmps116
            go_wp2_with fail
            refine N1.out.mono ?_
            rintro e w1 ⟨rfl, rfl⟩
            go_wp2
            go_ret
            exact ⟨by first | rfl | simp, bW1.out⟩
        · have d3 : decide (1 ≤ xcount) = false := decide_eq_false h3
          rw [d3]
          simp only [Bool.false_and, Bool.and_false]
          go_enter Tryz.func116, Tryz.ntmps116
          go_wp2_with fail
          refine N1.out.mono ?_
          rintro e w1 ⟨rfl, rfl⟩
          go_wp2
          go_ret
          exact ⟨by first | rfl | simp, bW1.out⟩
      · have d2 : decide (xlevel ≤ 3) = false := decide_eq_false h2
        rw [d2]
        simp only [Bool.false_and, Bool.and_false]
        go_enter Tryz.func116, Tryz.ntmps116
        go_wp2_with fail
        refine N1.out.mono ?_
        rintro e w1 ⟨rfl, rfl⟩
        go_wp2
        go_ret
        exact ⟨by first | rfl | simp, bW1.out⟩
    · have d1 : decide (0 ≤ xlevel) = false := decide_eq_false h1
      rw [d1]
      simp only [Bool.false_and, Bool.and_false]
      go_enter Tryz.func116, Tryz.ntmps116
      go_wp2_with fail
      refine N1.out.mono ?_
      rintro e w1 ⟨rfl, rfl⟩
      go_wp2
      go_ret
      exact ⟨by first | rfl | simp, bW1.out⟩
end Go.Proofs.YthnebhddakfadaaGreatDoor
namespace Go.Proofs.YthnebhddakfadaaGreatDoor
open Go.RowKit

/-- An operation of a region is taken first; where its answer goes is named. -/
theorem takeH {P : Program} {ops : Array Oper} {Q : Exit → Act → World → Prop} {md : Region.Mode} {S : World → Prop} {i : Nat} {oi : Oper} (dd : Nat) {v : Value} {fuel : Nat} {listed : Array Bool} {a : Act} {w : World} (hi : ops[i]? = some oi) (hd : oi.dst = some dd)
    (hs : Region.noSelect ops = true) (hf : Region.free md ops listed i = true) (hr : (Region.ready md ops listed).contains i = true)
    (hQ : ∀ c a w, Q (.panic c) (a.put (some dd) v) w → Q (.panic c) a w) (hy : YieldsIf P ops S oi v a) (hS : S w)
    (h : wpAnyH P md ops Q S fuel (listed.setIfInBounds i true) (a.put (some dd) v) w) : wpAnyH P md ops Q S (fuel + 1) listed a w := by
  rw [← hd] at hQ h
  exact wpAnyH_take hi hs hf hr hQ hy hS h
/-- R where the region ends as it should; never elsewhere. -/
def OnlyN (R : Act → World → Prop) : Exit → Act → World → Prop
  | .normal, a, w => R a w
  | _, _, _ => False
theorem region_share {P : Program} {id : Nat} {ops : Array Oper} {b : Bool} {Q : Exit → Act → World → Prop} {a : Act} {w : World} (R : Act → Act → World → Prop) (h1 : (Code.region id ops b).wp P (OnlyN (R a)) a w) (h2 : ∀ a' w', R a a' w' → Q .normal a' w') : (Code.region id ops b).wp P Q a w :=
  Code.wp_mono (fun e a' w' hh => by
    cases e with
    | normal => exact h2 a' w' hh
    | _ => exact (hh : False).elim) h1
/-- An activation, some slots set. -/
def sets (a : Act) : List (Nat × Value) → Act
  | [] => a
  | (i, v) :: t => sets (a.put (some i) v) t
end Go.Proofs.YthnebhddakfadaaGreatDoor
