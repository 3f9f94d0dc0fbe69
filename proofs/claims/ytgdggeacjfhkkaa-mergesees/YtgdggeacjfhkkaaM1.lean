/- Rows of entries in memory; the walks of ofOneKey, isAhead, of a row's more and take. -/
import Derived.Test.YtgdggeacjfhkkaaM0
import Derived.Test.YtgdggeacjfhkkaaSj
namespace Go.Proofs.Ytgdggeacjfhkkaa
open Go.RowKit
open Sk (Ent)

theorem RSrc.head {α : Type} {k : Kind α} (K : k.Ok) {w : World} {ao : Option Addr} {n c : Nat} {es : List α} (h : RSrc k w ao n c es) (m : Nat) (hm : m ≤ n) : RSrc k w ao m c (es.take m) :=
  ⟨by rw [List.length_take, h.len]; omega, Nat.le_trans hm h.cap, fun e => ⟨by have := (h.nil e).1; omega, (h.nil e).2⟩, fun ad had j u hu => by
    obtain ⟨i, q, e, rfl, hq, he, hv⟩ := rv_get K hu
    have hi : es[i]? = some e := by
      rw [List.getElem?_take] at he
      split at he
      · exact he
      · cases he
    exact h.cells ad had _ u ((rv_at K q hi hq).trans hv), fun e he => h.held e (List.mem_of_mem_take he)⟩
theorem RSrc.tail {α : Type} {k : Kind α} (K : k.Ok) {w : World} {b off n c : Nat} {es : List α} (h : RSrc k w (some ⟨b, off, none⟩) n c es) (m : Nat) (hm : m ≤ n) : RSrc k w (some ⟨b, off + m * k.size, none⟩) (n - m) (c - m) (es.drop m) := by
  have hl := h.len
  have hc := h.cap
  refine ⟨by rw [List.length_drop]; omega, by omega, fun e => (by cases e), fun ad had j u hu => ?_, fun e he => h.held e (List.mem_of_mem_drop he)⟩
  cases had
  obtain ⟨p, q, e, rfl, hq, he, hv⟩ := rv_get K hu
  rw [List.getElem?_drop] at he
  have h1 := h.cells _ rfl ((m + p) * k.size + q) u ((rv_at K q he hq).trans hv)
  rw [Addr.add_mid] at h1 ⊢
  rw [show off + m * k.size + (p * k.size + q) = off + ((m + p) * k.size + q) by rw [Nat.add_mul]; omega]
  exact h1
/-- Where blocks are as they were, but for one of another kind. -/
theorem RSrc.grown {α : Type} {k : Kind α} {w w' : World} {ao : Option Addr} {n c : Nat} {es : List α} {row : Option Nat} (h : RSrc k w ao n c es) (hg : w.grownBy w' row) (hf : ∀ ad, ao = some ad → some ad.block ≠ row) (hh : ∀ e ∈ es, k.held w' e) : RSrc k w' ao n c es :=
  ⟨h.len, h.cap, h.nil, fun ad had j u hu => by
    have h1 := h.cells ad had j u hu
    have hb : (ad.add j).block = ad.block := by first | rfl | (unfold Addr.add; split <;> rfl) | simp [Addr.add]
    rw [World.cell?_of_block (w := w) (hg.block _ (World.block_lt_of_cell? w _ h1) (by rw [hb]; exact hf ad had))]
    exact h1, hh⟩
theorem set_grown (w : World) (B : Nat) (i : Nat) (v : Value) : w.grownBy (w.setCell ⟨B, i, none⟩ v) (some B) :=
  ⟨rfl, rfl, rfl, by simp only [World.setCell, Array.size_modify]; exact Nat.le_refl _, fun k _ hk => Below.heap_setCell w ⟨B, i, none⟩ v k (fun e => hk (by rw [e]))⟩
theorem ent_cells {w : World} {b off n c : Nat} {es : List EV} (h : RSrc entKind w (some ⟨b, off, none⟩) n c es) {i : Nat} {x : EV} (hx : es[i]? = some x) :
    w.cell? ⟨b, off + i * 4, none⟩ = some (.slice x.kp x.e.key.length x.kc) ∧ w.cell? ⟨b, off + i * 4 + 1, none⟩ = some (.int .i64 x.e.seq) ∧ w.cell? ⟨b, off + i * 4 + 2, none⟩ = some (.bool x.e.gone) ∧ w.cell? ⟨b, off + i * 4 + 3, none⟩ = some (.slice x.vp x.e.val.length x.vc) := by
  have one : ∀ (j : Nat) (u : Value), (entKind.vals x)[j]? = some u → w.cell? ⟨b, off + i * 4 + j, none⟩ = some u := fun j u hu => by
    have hj : j < 4 := (List.getElem?_eq_some_iff.1 hu).1
    have := h.cells _ rfl (i * entKind.size + j) u ((rv_at entKind_ok j hx hj).trans hu)
    rw [Addr.add_mid] at this
    rw [show off + i * 4 + j = off + (i * entKind.size + j) by show _ = off + (i * 4 + j); omega]
    exact this
  exact ⟨one 0 _ rfl, one 1 _ rfl, one 2 _ rfl, one 3 _ rfl⟩
/-- A row of rows: a slice of entries each. -/
structure LV where
  p : Option Addr
  c : Nat
  es : List EV
def listKind : Kind LV where
  size := 1
  vals x := [.slice x.p x.es.length x.c]
  held w x := RSrc entKind w x.p x.es.length x.c x.es
theorem listKind_ok : listKind.Ok :=
  ⟨by decide, fun _ => rfl, fun e u hu => by
    simp only [listKind, List.mem_cons, List.not_mem_nil, or_false] at hu
    rw [hu]; rfl, fun h hb => RSrc.below entKind_ok h hb⟩
theorem list_cell {w : World} {b off n c : Nat} {ls : List LV} (h : RSrc listKind w (some ⟨b, off, none⟩) n c ls) {i : Nat} {x : LV} (hx : ls[i]? = some x) : w.cell? ⟨b, off + i, none⟩ = some (.slice x.p x.es.length x.c) := by
  have := h.cells _ rfl (i * listKind.size + 0) (.slice x.p x.es.length x.c) ((rv_at listKind_ok 0 hx (by decide)).trans rfl)
  rw [Addr.add_mid] at this
  simpa [listKind] using this
/-- What a function of two entries tells. -/
def Tells2 (F : Nat) (p : Ent → Ent → Bool) : Prop := ∀ (x y : EV) (w : World), entKind.held w x → entKind.held w y → Calls Try.prog F #[ev x, ev y] w fun e w' => e = .returned (.bool (p x.e y.e)) ∧ Below w.heap.size w w'

set_option maxHeartbeats 1000000 in
set_option maxRecDepth 100000 in
theorem oneKey_any : Tells2 28 Mg.oneKey := by
  intro x y w hx hy
  obtain ⟨xkp, xkc, xvp, xvc, xkey, xseq, xgone, xval⟩ := x
  obtain ⟨ykp, ykc, yvp, yvc, ykey, yseq, ygone, yval⟩ := y
  have a1 : Src w xkp xkey.length xkc xkey := hx.1
  have b1 : Src w ykp ykey.length ykc ykey := hy.1
  clear hx hy
  unfold ev
  simp only
  obtain ⟨W, hW⟩ : ∃ W, (w.alloc (.cells #[.slice xkp xkey.length xkc, .int .i64 xseq, .bool xgone, .slice xvp xval.length xvc] 36)).alloc (.cells #[.slice ykp ykey.length ykc, .int .i64 yseq, .bool ygone, .slice yvp yval.length yvc] 36) = W := ⟨_, rfl⟩
  have bW : Hid (Below w.heap.size w W) := by rw [← hW]; exact ((Below.refl _ _).alloc (Nat.le_refl _) _).alloc (by simp) _
  have g0 : W.heap[w.heap.size]? = some (.cells #[.slice xkp xkey.length xkc, .int .i64 xseq, .bool xgone, .slice xvp xval.length xvc] 36) := by
    rw [← hW]; exact (Below.heap_alloc _ _ _ (by simp)).trans (heap_alloc_new w _)
  have g1 : W.heap[w.heap.size + 1]? = some (.cells #[.slice ykp ykey.length ykc, .int .i64 yseq, .bool ygone, .slice yvp yval.length yvc] 36) := by
    have := heap_alloc_new (w.alloc (.cells #[.slice xkp xkey.length xkc, .int .i64 xseq, .bool xgone, .slice xvp xval.length xvc] 36)) (.cells #[.slice ykp ykey.length ykc, .int .i64 yseq, .bool ygone, .slice yvp yval.length yvc] 36)
    rw [World.size_alloc] at this
    rw [← hW]; exact this
  have p0 : W.cell? ⟨w.heap.size, 0, none⟩ = some (.slice xkp xkey.length xkc) := cell_of_row _ _ _ _ _ _ g0
  have r0 : W.cell? ⟨w.heap.size + 1, 0, none⟩ = some (.slice ykp ykey.length ykc) := cell_of_row _ _ _ _ _ _ g1
  have EQ := keep (equal_any xkp xkey.length xkc xkey ykp ykey.length ykc ykey W (a1.below bW.out) (b1.below bW.out))
  clear a1 b1 g0 g1
  go_enter Try.func28, Try.ntmps28
  go_wp2_with fail
  refine EQ.out.mono ?_
  rintro e w1 ⟨rfl, rfl⟩
  go_wp2
  go_ret
  exact ⟨rfl, bW.out⟩
set_option maxHeartbeats 1000000 in
set_option maxRecDepth 100000 in
theorem isAhead_any : Tells2 24 Mg.ahead := by
  intro x y w hx hy
  have OK := keep (fun w' (hb : Below w.heap.size w w') => oneKey_any x y w' (entKind_ok.below hx hb) (entKind_ok.below hy hb))
  obtain ⟨xkp, xkc, xvp, xvc, xkey, xseq, xgone, xval⟩ := x
  obtain ⟨ykp, ykc, yvp, yvc, ykey, yseq, ygone, yval⟩ := y
  have a1 : Src w xkp xkey.length xkc xkey := hx.1
  have b1 : Src w ykp ykey.length ykc ykey := hy.1
  clear hx hy
  unfold ev at OK ⊢
  unfold Mg.ahead Sk.aheadOf
  unfold Mg.oneKey at OK
  simp only at OK ⊢
  obtain ⟨W, hW⟩ : ∃ W, (w.alloc (.cells #[.slice xkp xkey.length xkc, .int .i64 xseq, .bool xgone, .slice xvp xval.length xvc] 36)).alloc (.cells #[.slice ykp ykey.length ykc, .int .i64 yseq, .bool ygone, .slice yvp yval.length yvc] 36) = W := ⟨_, rfl⟩
  have bW : Hid (Below w.heap.size w W) := by rw [← hW]; exact ((Below.refl _ _).alloc (Nat.le_refl _) _).alloc (by simp) _
  have sW : Hid (W.heap.size = w.heap.size + 2) := by rw [← hW]; show _ = _; simp
  have g0 : Hid (W.heap[w.heap.size]? = some (.cells #[.slice xkp xkey.length xkc, .int .i64 xseq, .bool xgone, .slice xvp xval.length xvc] 36)) := by
    rw [← hW]; exact (Below.heap_alloc _ _ _ (by simp)).trans (heap_alloc_new w _)
  have g1 : Hid (W.heap[w.heap.size + 1]? = some (.cells #[.slice ykp ykey.length ykc, .int .i64 yseq, .bool ygone, .slice yvp yval.length yvc] 36)) := by
    have := heap_alloc_new (w.alloc (.cells #[.slice xkp xkey.length xkc, .int .i64 xseq, .bool xgone, .slice xvp xval.length xvc] 36)) (.cells #[.slice ykp ykey.length ykc, .int .i64 yseq, .bool ygone, .slice yvp yval.length yvc] 36)
    rw [World.size_alloc] at this
    rw [← hW]; exact this
  have CF : Hid (∀ w', Below W.heap.size W w' → (w'.cell? ⟨w.heap.size, 0, none⟩ = some (.slice xkp xkey.length xkc) ∧ w'.cell? ⟨w.heap.size, 1, none⟩ = some (.int .i64 xseq) ∧ w'.cell? ⟨w.heap.size, 2, none⟩ = some (.bool xgone) ∧ w'.cell? ⟨w.heap.size, 3, none⟩ = some (.slice xvp xval.length xvc)) ∧ w'.cell? ⟨w.heap.size + 1, 0, none⟩ = some (.slice ykp ykey.length ykc) ∧ w'.cell? ⟨w.heap.size + 1, 1, none⟩ = some (.int .i64 yseq) ∧ w'.cell? ⟨w.heap.size + 1, 2, none⟩ = some (.bool ygone) ∧ w'.cell? ⟨w.heap.size + 1, 3, none⟩ = some (.slice yvp yval.length yvc)) := fun w' hb => by
    have h0 := (hb.block _ (by rw [sW.out]; omega)).trans g0.out
    have h1 := (hb.block _ (by rw [sW.out]; omega)).trans g1.out
    exact ⟨⟨cell_of_row _ _ _ _ _ _ h0, cell_of_row _ _ _ _ _ _ h0, cell_of_row _ _ _ _ _ _ h0, cell_of_row _ _ _ _ _ _ h0⟩, cell_of_row _ _ _ _ _ _ h1, cell_of_row _ _ _ _ _ _ h1, cell_of_row _ _ _ _ _ _ h1, cell_of_row _ _ _ _ _ _ h1⟩
  obtain ⟨⟨p0, p1, p2, p3⟩, r0, r1, r2, r3⟩ := CF.out W (Below.refl _ _)
  have LS : Hid (∀ w', Below W.heap.size W w' → Calls Try.prog 44 #[.slice xkp xkey.length xkc, .slice ykp ykey.length ykc] w' fun e w'' => e = .returned (.bool (less xkey ykey)) ∧ w'' = w') := fun w' hb => less_any xkp xkey.length xkc xkey ykp ykey.length ykc ykey w' (a1.below (bW.out.trans (hb.mono bW.out.size))) (b1.below (bW.out.trans (hb.mono bW.out.size)))
  have O1 := keep (OK.out W bW.out)
  clear a1 b1 OK
  by_cases hq : xkey = ykey
  · rw [decide_eq_true hq] at O1
    rw [if_pos hq]
    clear hq
    go_enter Try.func24, Try.ntmps24
    go_wp2_with fail
    refine O1.out.mono ?_
    rintro e w1 ⟨rfl, hb1⟩
    have B1 := keep hb1
    obtain ⟨⟨q0, q1, q2, q3⟩, s0, s1, s2, s3⟩ := CF.out w1 hb1
    clear hb1
    go_wp2
    go_ret
    exact ⟨rfl, bW.out.trans (B1.out.mono bW.out.size)⟩
  · rw [decide_eq_false hq] at O1
    rw [if_neg hq]
    clear hq
    go_enter Try.func24, Try.ntmps24
    go_wp2_with fail
    refine O1.out.mono ?_
    rintro e w1 ⟨rfl, hb1⟩
    have B1 := keep hb1
    obtain ⟨⟨q0, q1, q2, q3⟩, s0, s1, s2, s3⟩ := CF.out w1 hb1
    have L1 := keep (LS.out w1 hb1)
    clear hb1
    go_wp2_with fail
    refine L1.out.mono ?_
    rintro e w2 ⟨rfl, rfl⟩
    go_wp2
    go_ret
    exact ⟨rfl, bW.out.trans (B1.out.mono bW.out.size)⟩
/-- A row that is gone through: what is left of it. -/
def Left (w : World) (B : Nat) (p : Option Addr) (n c : Nat) : Prop := w.heap[B]? = some (.cells #[.slice p n c] 64)
theorem Left.cell {w : World} {B : Nat} {p : Option Addr} {n c : Nat} (h : Left w B p n c) : w.cell? ⟨B, 0, none⟩ = some (.slice p n c) := cell_of_row _ _ _ _ _ _ h
theorem Left.free {w : World} {B : Nat} {p : Option Addr} {n c : Nat} (h : Left w B p n c) : w.frozen? ⟨B, 0, none⟩ = false := by simp [World.frozen?, show w.heap[B]? = _ from h]
theorem Left.set {w : World} {B : Nat} {p : Option Addr} {n c : Nat} (h : Left w B p n c) (p' : Option Addr) (n' c' : Nat) : Left (w.setCell ⟨B, 0, none⟩ (.slice p' n' c')) B p' n' c' := by
  unfold Left
  rw [set_row h 0]
  rfl
theorem RSrc.after {w : World} {b off n c m : Nat} {es : List EV} {p' : Option Addr} (h : RSrc entKind w (some ⟨b, off, none⟩) n c es) (hm : m ≤ n) (hp : p' = some ⟨b, off + m * 4, none⟩ ∧ m < c ∨ p' = some ⟨b, off, none⟩ ∧ m = n) : RSrc entKind w p' (n - m) (c - m) (es.drop m) := by
  rcases hp with ⟨rfl, _⟩ | ⟨rfl, rfl⟩
  · exact h.tail entKind_ok m hm
  · rw [List.drop_of_length_le (by rw [h.len]; exact Nat.le_refl _), Nat.sub_self]
    exact RSrc.empty (fun e => by cases e)
set_option maxHeartbeats 1000000 in
theorem more_any (B : Nat) (p : Option Addr) (n c : Nat) (w : World) (h : Left w B p n c) :
    Calls Try.prog 42 #[.pointer (some ⟨B, 0, none⟩)] w fun e w' => e = .returned (.bool (decide (0 < n))) ∧ w' = w := by
  have c0 := h.cell
  clear h
  go_enter Try.func42, Try.ntmps42
  go_wp2
  go_ret
  refine ⟨?_, rfl⟩
  congr 2
set_option maxHeartbeats 2000000 in
set_option maxRecDepth 100000 in
theorem take_any (B b off n c m : Nat) (es : List EV) (w : World) (h : Left w B (some ⟨b, off, none⟩) n c) (hs : RSrc entKind w (some ⟨b, off, none⟩) n c es) (hm : m ≤ n) (hc : c ≤ maxLen) :
    Calls Try.prog 48 #[.pointer (some ⟨B, 0, none⟩), .int .i64 (m : Int)] w fun e w' => ∃ p', e = .returned (.slice (some ⟨b, off, none⟩) m c) ∧ w' = w.setCell ⟨B, 0, none⟩ (.slice p' (n - m) (c - m)) ∧ (p' = some ⟨b, off + m * 4, none⟩ ∧ m < c ∨ p' = some ⟨b, off, none⟩ ∧ m = n) := by
  have c0 := h.cell
  have f0 := h.free
  have hcap := hs.cap
  have HS := keep hs
  unfold maxLen at hc
  clear h hs
  have m0 : (0 : Int) ≤ (m : Int) := by omega
  have mn : (m : Int) ≤ (n : Int) := by omega
  have mc : (m : Int) ≤ (c : Int) := by omega
  have nc : (n : Int) ≤ (c : Int) := by omega
  rcases Nat.lt_or_ge m c with hlt | hge
  · have nm : ¬ c = m := by omega
    have nm2 : ¬ m = c := by omega
    go_enter Try.func48, Try.ntmps48
    go_wp2
    go_ret
    exact ⟨_, rfl, rfl, .inl ⟨rfl, hlt⟩⟩
  · obtain rfl : c = m := by omega
    obtain rfl : n = c := by omega
    go_enter Try.func48, Try.ntmps48
    go_wp2
    go_ret
    exact ⟨some ⟨b, off, none⟩, rfl, by simp, by simp⟩
end Go.Proofs.Ytgdggeacjfhkkaa
