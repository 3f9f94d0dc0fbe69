/- The walks of the library's Grow and Concat over byte slices; of the program's Leaf, input, node, Node. -/
import Derived.Test.YtdgfbbaddoghaaaDoorKz
namespace Go.Proofs.YtdgfbbaddoghaaaDoor
open Go.RowKit

/-- v: n bytes l in memory that a call made since w; nothing of w is turned. -/
def New (w w' : World) (v : Value) (n : Nat) (l : List UInt8) : Prop := w'.ownsRow w.heap.size 5 1 v n (bv l) ∧ Below w.heap.size w w'
theorem New.src {w w' : World} {v : Value} {n : Nat} {l : List UInt8} (h : New w w' v n l) : ∃ ao c, v = .slice ao n c ∧ Src w' ao n c l ∧ c ≤ maxLen := Src.of_own h.1
theorem Src.built (w : World) (b : UInt8) : Src (w.alloc (.cells #[.int .u8 (b.toNat : Int)] 5)) (some ⟨w.heap.size, 0, none⟩) 1 1 [b] :=
  Src.mk_bytes rfl (Nat.le_refl _) (fun i hi => by
    obtain rfl : i = 0 := by omega
    rw [cell_of_row _ _ _ _ _ _ (heap_alloc_new w _)]
    rfl)
theorem run_append_zeros {P : Program} (w : World) (t tI ty : TypeId) (i : TypeInfo) (ht : P.underlying t = some (.slice 5)) (hI : P.underlying tI = some (.int .i64)) (hi : P.info? 5 = some i) (hz : i.zero = some (.int .u8 0)) (hz1 : i.size = 1) (hz2 : i.bytes = 1) (n : Nat) (h0 : 0 < n) (hn : n ≤ 140737488355328) :
    (Builtin.append_ #[t, tI] ty #[.slice none 0 0, .int .i64 (n : Int)]).run P w = .ok (.slice (some ⟨w.heap.size, 0, none⟩) n (grownCap w n 0 5)) (w.drew.alloc (.cells (Builtin.zeroCells #[.int .u8 0] n ++ Builtin.zeroCells #[.int .u8 0] (grownCap w n 0 5 - n)) 5)) := by
  have h2 : ¬ (9223372036854775807 < (n : Int)) := by omega
  have h3 : Builtin.nextslicecap n 0 = n := by unfold Builtin.nextslicecap; rw [if_pos (by omega)]
  have h4 : ¬ (281474976710656 < n) := by omega
  have h5 : IntKind.i64.wrap (n : Int) = (n : Int) := wrap_small _ (by omega) (by omega)
  have h6 : ¬ ((n : Int) < 0) := by omega
  have h7 : ¬ (281474976710656 < (n : Int)) := by omega
  have h8 : ¬ n = 0 := by omega
  simp [Builtin.append_, run_underlying ht, run_underlying hI, sizeOf, typeInfo, zeroValue, hi, hz, hz1, hz2, asInt, asIntOf, h2, h3, h4, h5, h6, h7, h8, Int.max_eq_left (show (0 : Int) ≤ (n : Int) by omega), Question.forced, Builtin.firstCells, newRow, grownCap, Value.cells]
theorem wpList_append_zeros {P : Program} {w : World} {ops : Array Oper} {rest : List Oper} {o : Oper} {a : Act} {Q : Exit → Act → World → Prop} (hgd : o.guard = none) (s x : Operand) (t tI : TypeId)
    (ho : o.op = .call { callee := .builtin .append, args := #[s, x], argTypes := #[t, tI] })
    (i : TypeInfo) (ht : P.underlying t = some (.slice 5)) (hI : P.underlying tI = some (.int .i64)) (hi : P.info? 5 = some i) (hz : i.zero = some (.int .u8 0)) (hz1 : i.size = 1) (hz2 : i.bytes = 1) (n : Nat) (h0 : 0 < n) (hn : n ≤ 140737488355328)
    (hs : a.eval s = .slice none 0 0) (hx : a.eval x = .int .i64 (n : Int))
    (h : ∀ g cap w', n ≤ cap → w'.ownsRow w.heap.size 5 1 (.slice (some ⟨g, 0, none⟩) 0 cap) 0 [] → Below w.heap.size w w' → wpList P ops Q rest (a.put o.dst (.slice (some ⟨g, 0, none⟩) n cap)) w') : wpList P ops Q (o :: rest) a w := by
  refine wpList_plain hgd fun K hK => ?_
  have hrun := run_append_zeros w t tI o.type i ht hI hi hz hz1 hz2 n h0 hn
  unfold Oper.wp
  simp [execOp, ho, resolve, invoke, builtin, hs, hx, hrun, Result.andThen]
  refine hK _ _ (h _ _ _ (grownCap_ge _ _ _ _) ?_ ((Below.refl _ _).drew.alloc (Nat.le_refl _) _))
  refine ⟨rfl, .inr ⟨_, _, _, rfl, Nat.le_refl _, heap_alloc_new w.drew _, Nat.zero_le _, grownCap_le_maxLen _ _ _ _ (by unfold maxLen; omega), ?_, by simp⟩⟩
  have := grownCap_ge w n 0 5
  simp [Builtin.zeroCells]
  omega
set_option maxHeartbeats 1000000 in
set_option maxRecDepth 100000 in
theorem grow_any (n : Nat) (w : World) (h0 : 0 < n) (hn : n ≤ 140737488355328) :
    Calls Tryd.prog 53 #[.slice none 0 0, .int .i64 (n : Int)] w fun e w' => ∃ g cap, e = .returned (.slice (some ⟨g, 0, none⟩) 0 cap) ∧ w'.ownsRow w.heap.size 5 1 (.slice (some ⟨g, 0, none⟩) 0 cap) 0 [] ∧ Below w.heap.size w w' := by
  obtain ⟨i0, hi, hz0, hz1, hz2⟩ := info_parts info5
  have hn1 : ¬ (n : Int) < 0 := by omega
  have hn2 : (0 : Int) < (n : Int) := by omega
  have hn3 : (n : Int) ≤ 140737488355328 := by omega
  go_enter Tryd.func53, Tryd.ntmps53
  go_wp2_with (at_builtin; refine wpList_append_zeros rfl _ _ 48 3 rfl i0 Tryd.underlying48 Tryd.underlying3 hi hz0 hz1 hz2 n h0 hn rfl rfl ?_; intro g cap w1 hc ho hb; have hc0 : (0 : Int) ≤ (cap : Int) := (by omega); have HO := keep ho; have HB := keep hb; clear ho hb)
  go_ret
  exact ⟨_, _, rfl, HO.out, HB.out⟩
set_option maxHeartbeats 2000000 in
set_option maxRecDepth 100000 in
theorem concat_two (B : Nat) (ao : Option Addr) (m c : Nat) (l : List UInt8) (ao2 : Option Addr) (m2 c2 : Nat) (l2 : List UInt8) (w : World) (h0 : 0 < m + m2) (hm : m + m2 ≤ 140737488355328)
    (k0 : w.cell? ⟨B, 0, none⟩ = some (.slice ao m c)) (k1 : w.cell? ⟨B, 1, none⟩ = some (.slice ao2 m2 c2)) (hs : Src w ao m c l) (hs2 : Src w ao2 m2 c2 l2) :
    Calls Tryd.prog 39 #[.slice (some ⟨B, 0, none⟩) 2 2] w fun e w' => ∃ v, e = .returned v ∧ New w w' v (m + m2) (l ++ l2) := by
  obtain ⟨i0, hi, hz0, hz1, hz2⟩ := info_parts info5
  have HS := keep hs
  have HS2 := keep hs2
  clear hs hs2
  have hm1 : (m : Int) ≤ 140737488355328 := by omega
  have hm2 : (m2 : Int) ≤ 140737488355328 := by omega
  have n1 : ¬ ((m : Int) < 0) := by omega
  have n2 : ¬ ((m : Int) + (m2 : Int) < 0) := by omega
  have e1 : (m : Int) + (m2 : Int) = ((m + m2 : Nat) : Int) := by omega
  have HG := keep (grow_any (m + m2) w h0 hm)
  rw [← e1] at HG
  clear e1
  go_enter Tryd.func39, Tryd.ntmps39
  go_wp2
  refine wp_loop_rounds 3 ?_
  rw [rounds_succ]
  go_wp2
  rw [rounds_succ]
  go_wp2
  rw [rounds_succ]
  go_wp2_with fail
  refine HG.out.mono ?_
  rintro e w1 ⟨g, cap, rfl, ho, hb⟩
  have O1 := keep ho
  have B1 := keep hb
  clear ho hb
  have q0 : w1.cell? ⟨B, 0, none⟩ = some (.slice ao m c) := below_cell B1.out k0
  have q1 : w1.cell? ⟨B, 1, none⟩ = some (.slice ao2 m2 c2) := below_cell B1.out k1
  go_wp2
  refine wp_loop_rounds 3 ?_
  rw [rounds_succ]
  go_wp2_with (at_builtin; refine wpList_append_src rfl _ _ 48 rfl w.heap.size i0 _ Tryd.underlying48 hi hz0 hz1 hz2 rfl _ 0 [] rfl O1.out _ m c l rfl (HS.out.below B1.out) (by omega) B1.out.size ?_; intro v2 w2 ho2 hg2; have O2 := keep ho2; have B2 := keep (B1.out.grown hg2 B1.out.size (fun j hj => (O1.out.lt j hj).1)); clear ho2 hg2)
  rw [Nat.zero_add, List.nil_append] at O2
  have p1 : w2.cell? ⟨B, 1, none⟩ = some (.slice ao2 m2 c2) := below_cell B2.out k1
  clear q0 q1
  rw [rounds_succ]
  go_wp2_with (at_builtin; refine wpList_append_src rfl _ _ 48 rfl w.heap.size i0 _ Tryd.underlying48 hi hz0 hz1 hz2 rfl _ m l rfl O2.out _ m2 c2 l2 rfl (HS2.out.below B2.out) (by omega) B2.out.size ?_; intro v3 w3 ho3 hg3; have O3 := keep ho3; have B3 := keep (B2.out.grown hg3 B2.out.size (fun j hj => (O2.out.lt j hj).1)); clear ho3 hg3)
  rw [rounds_succ]
  go_wp2
  go_ret
  exact ⟨_, rfl, O3.out, B3.out⟩
set_option maxHeartbeats 2000000 in
set_option maxRecDepth 100000 in
theorem concat_three (B : Nat) (ao : Option Addr) (m c : Nat) (l : List UInt8) (ao2 : Option Addr) (m2 c2 : Nat) (l2 : List UInt8) (ao3 : Option Addr) (m3 c3 : Nat) (l3 : List UInt8) (w : World) (h0 : 0 < m + m2 + m3) (hm : m + m2 + m3 ≤ 140737488355328)
    (k0 : w.cell? ⟨B, 0, none⟩ = some (.slice ao m c)) (k1 : w.cell? ⟨B, 1, none⟩ = some (.slice ao2 m2 c2)) (k2 : w.cell? ⟨B, 2, none⟩ = some (.slice ao3 m3 c3)) (hs : Src w ao m c l) (hs2 : Src w ao2 m2 c2 l2) (hs3 : Src w ao3 m3 c3 l3) :
    Calls Tryd.prog 39 #[.slice (some ⟨B, 0, none⟩) 3 3] w fun e w' => ∃ v, e = .returned v ∧ New w w' v (m + m2 + m3) (l ++ l2 ++ l3) := by
  obtain ⟨i0, hi, hz0, hz1, hz2⟩ := info_parts info5
  have HS := keep hs
  have HS2 := keep hs2
  have HS3 := keep hs3
  clear hs hs2 hs3
  have hm1 : (m : Int) ≤ 140737488355328 := by omega
  have hm2 : (m2 : Int) ≤ 140737488355328 := by omega
  have hm3 : (m3 : Int) ≤ 140737488355328 := by omega
  have n1 : ¬ ((m : Int) < 0) := by omega
  have n2 : ¬ ((m : Int) + (m2 : Int) < 0) := by omega
  have n3 : ¬ ((m : Int) + (m2 : Int) + (m3 : Int) < 0) := by omega
  have e1 : (m : Int) + (m2 : Int) + (m3 : Int) = ((m + m2 + m3 : Nat) : Int) := by omega
  have HG := keep (grow_any (m + m2 + m3) w h0 hm)
  rw [← e1] at HG
  clear e1
  go_enter Tryd.func39, Tryd.ntmps39
  go_wp2
  refine wp_loop_rounds 4 ?_
  rw [rounds_succ]
  go_wp2
  rw [rounds_succ]
  go_wp2
  rw [rounds_succ]
  go_wp2
  rw [rounds_succ]
  go_wp2_with fail
  refine HG.out.mono ?_
  rintro e w1 ⟨g, cap, rfl, ho, hb⟩
  have O1 := keep ho
  have B1 := keep hb
  clear ho hb
  have q0 : w1.cell? ⟨B, 0, none⟩ = some (.slice ao m c) := below_cell B1.out k0
  go_wp2
  refine wp_loop_rounds 4 ?_
  rw [rounds_succ]
  go_wp2_with (at_builtin; refine wpList_append_src rfl _ _ 48 rfl w.heap.size i0 _ Tryd.underlying48 hi hz0 hz1 hz2 rfl _ 0 [] rfl O1.out _ m c l rfl (HS.out.below B1.out) (by omega) B1.out.size ?_; intro v2 w2 ho2 hg2; have O2 := keep ho2; have B2 := keep (B1.out.grown hg2 B1.out.size (fun j hj => (O1.out.lt j hj).1)); clear ho2 hg2)
  rw [Nat.zero_add, List.nil_append] at O2
  have p1 : w2.cell? ⟨B, 1, none⟩ = some (.slice ao2 m2 c2) := below_cell B2.out k1
  clear q0
  rw [rounds_succ]
  go_wp2_with (at_builtin; refine wpList_append_src rfl _ _ 48 rfl w.heap.size i0 _ Tryd.underlying48 hi hz0 hz1 hz2 rfl _ m l rfl O2.out _ m2 c2 l2 rfl (HS2.out.below B2.out) (by omega) B2.out.size ?_; intro v3 w3 ho3 hg3; have O3 := keep ho3; have B3 := keep (B2.out.grown hg3 B2.out.size (fun j hj => (O2.out.lt j hj).1)); clear ho3 hg3)
  have p2 : w3.cell? ⟨B, 2, none⟩ = some (.slice ao3 m3 c3) := below_cell B3.out k2
  clear p1
  rw [rounds_succ]
  go_wp2_with (at_builtin; refine wpList_append_src rfl _ _ 48 rfl w.heap.size i0 _ Tryd.underlying48 hi hz0 hz1 hz2 rfl _ (m + m2) (l ++ l2) rfl O3.out _ m3 c3 l3 rfl (HS3.out.below B3.out) (by omega) B3.out.size ?_; intro v4 w4 ho4 hg4; have O4 := keep ho4; have B4 := keep (B3.out.grown hg4 B3.out.size (fun j hj => (O3.out.lt j hj).1)); clear ho4 hg4)
  rw [rounds_succ]
  go_wp2
  go_ret
  exact ⟨_, rfl, O4.out, B4.out⟩
/-- The variables of package sha hold what they should. -/
def Ld (w : World) : Prop := Sha.Tab w ∧ Sha.Fst w
theorem Ld.below {w w' : World} (h : Ld w) (hb : Below w.heap.size w w') : Ld w' := ⟨h.1.below hb, h.2.below hb⟩
theorem sumK (ao : Option Addr) (m c : Nat) (l : List UInt8) (w : World) (hm : m ≤ 140737488355328) (hc : c ≤ maxLen) (hL : Ld w) (hs : Src w ao m c l) :
    Calls Tryd.prog 33 #[.slice ao m c] w fun e w' => e = .returned (.string ⟨(Sha.sum l).toArray⟩) ∧ Below w.heap.size w w' := Sha.sum_any ao m c l w hm hc hL.1 hL.2 hs.sha
set_option maxHeartbeats 2000000 in
set_option maxRecDepth 100000 in
theorem leaf_any (ao : Option Addr) (m c : Nat) (l : List UInt8) (w : World) (hm : m ≤ 140737488354000) (hL : Ld w) (hs : Src w ao m c l) :
    Calls Tryd.prog 22 #[.slice ao m c] w fun e w' => e = .returned (.string ⟨(leafL l).toArray⟩) ∧ Below w.heap.size w w' := by
  have HS := keep hs
  have HLd := keep hL
  clear hs hL
  obtain ⟨W1, hW1⟩ : ∃ Wn, w.alloc (.cells #[.int .u8 0] 5) = Wn := ⟨_, rfl⟩
  have b1 : Hid (Below w.heap.size w W1) := by rw [← hW1]; exact (Below.refl _ _).alloc (Nat.le_refl _) _
  have x1 : Hid (Src W1 (some ⟨w.heap.size, 0, none⟩) 1 1 [0]) := by rw [← hW1]; exact Src.built w 0
  have s1 : W1.heap.size = w.heap.size + 1 := by rw [← hW1, alloc_size]
  obtain ⟨W2, hW2⟩ : ∃ Wn, W1.alloc (.cells #[.slice (some ⟨w.heap.size, 0, none⟩) 1 1, .slice ao m c] 48) = Wn := ⟨_, rfl⟩
  have b2 : Hid (Below W1.heap.size W1 W2) := by rw [← hW2]; exact (Below.refl _ _).alloc (Nat.le_refl _) _
  have k0 : W2.cell? ⟨w.heap.size + 1, 0, none⟩ = some (.slice (some ⟨w.heap.size, 0, none⟩) 1 1) := by rw [← s1, ← hW2]; exact cell_of_row _ _ _ _ _ _ (heap_alloc_new W1 _)
  have k1 : W2.cell? ⟨w.heap.size + 1, 1, none⟩ = some (.slice ao m c) := by rw [← s1, ← hW2]; exact cell_of_row _ _ _ _ _ _ (heap_alloc_new W1 _)
  have B2 := keep (b1.out.trans (b2.out.mono b1.out.size))
  have CC := keep (concat_two (w.heap.size + 1) _ 1 1 [0] ao m c l W2 (by omega) (by omega) k0 k1 (x1.out.below b2.out) (HS.out.below B2.out))
  clear k0 k1
  go_enter Tryd.func22, Tryd.ntmps22
  go_wp2_with fail
  refine CC.out.mono ?_
  rintro e w3 ⟨v, rfl, hN⟩
  obtain ⟨ao3, c3, rfl, hs3, hc3⟩ := hN.src
  have B3 := keep (B2.out.trans (hN.2.mono B2.out.size))
  have SM := keep (sumK ao3 (1 + m) c3 ([0] ++ l) w3 (by omega) hc3 (HLd.out.below B3.out) hs3)
  clear hN hs3 hc3 CC hW1 hW2 s1
  go_wp2_with fail
  refine SM.out.mono ?_
  rintro e w4 ⟨rfl, hb4⟩
  have B4 := keep (B3.out.trans (hb4.mono B3.out.size))
  clear hb4
  go_wp2
  go_ret
  exact ⟨rfl, B4.out⟩
end Go.Proofs.YtdgfbbaddoghaaaDoor
