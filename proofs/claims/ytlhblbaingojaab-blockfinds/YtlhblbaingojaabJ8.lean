/- The walks of the library's Grow and Concat over two byte slices. -/
import Derived.Test.YtlhblbaingojaabJ7
namespace Go.Proofs.Ytlhblbaingojaab
open Go.RowKit

theorem run_append_zeros {P : Program} (w : World) (t tI ty : TypeId) (i : TypeInfo) (ht : P.underlying t = some (.slice 5)) (hI : P.underlying tI = some (.int .i64)) (hi : P.info? 5 = some i) (hz : i.zero = some (.int .u8 0)) (hz1 : i.size = 1) (hz2 : i.bytes = 1) (n : Nat) (h0 : 0 < n) (hn : n ≤ 140737488355328) :
    (Builtin.append_ #[t, tI] ty #[.slice none 0 0, .int .i64 (n : Int)]).run P w = .ok (.slice (some ⟨w.heap.size, 0, none⟩) n (grownCap w n 0 5)) (w.drew.alloc (.cells (Builtin.zeroCells #[.int .u8 0] n ++ Builtin.zeroCells #[.int .u8 0] (grownCap w n 0 5 - n)) 5)) := by
  have h2 : ¬ (9223372036854775807 < (n : Int)) := by omega
  have h3 : Builtin.nextslicecap n 0 = n := by unfold Builtin.nextslicecap; rw [if_pos (by omega)]
  have h4 : ¬ (281474976710656 < n) := by omega
  have h5 : IntKind.i64.wrap (n : Int) = (n : Int) := wrap_small _ (by omega) (by omega)
  have h6 : ¬ ((n : Int) < 0) := by omega
  have h7 : ¬ (281474976710656 < (n : Int)) := by omega
  have h8 : ¬ n = 0 := by omega
  simp [Builtin.append_, run_underlying ht, run_underlying hI, sizeOf, typeInfo, zeroValue, hi, hz, hz1, hz2, asInt, asIntOf, h2, h3, h4, h5, h6, h7, h8, Int.max_eq_left (show (0 : Int) ≤ (n : Int) by omega), Question.forced, Builtin.firstCells, newRow, grownCap, Value.cells]
theorem wpList_append_zeros {P : Program} {w : World} {ops : Array Oper} {rest : List Oper} {o : Oper} {a : Act} {Q : Exit → Act → World → Prop} (hgd : o.guard = none) (s x : Operand) (t tI : TypeId)
    (ho : o.op = .call { callee := .builtin .append, args := #[s, x], argTypes := #[t, tI] })
    (i : TypeInfo) (ht : P.underlying t = some (.slice 5)) (hI : P.underlying tI = some (.int .i64)) (hi : P.info? 5 = some i) (hz : i.zero = some (.int .u8 0)) (hz1 : i.size = 1) (hz2 : i.bytes = 1) (n : Nat) (h0 : 0 < n) (hn : n ≤ 140737488355328)
    (hs : a.eval s = .slice none 0 0) (hx : a.eval x = .int .i64 (n : Int))
    (h : ∀ g cap w', n ≤ cap → w'.ownsRow w.heap.size 5 1 (.slice (some ⟨g, 0, none⟩) 0 cap) 0 [] → Below w.heap.size w w' → wpList P ops Q rest (a.put o.dst (.slice (some ⟨g, 0, none⟩) n cap)) w') : wpList P ops Q (o :: rest) a w := by
  refine wpList_plain hgd fun K hK => ?_
  have hrun := run_append_zeros w t tI o.type i ht hI hi hz hz1 hz2 n h0 hn
  unfold Oper.wp
  simp [execOp, ho, resolve, invoke, builtin, hs, hx, hrun, Result.andThen]
  refine hK _ _ (h _ _ _ (grownCap_ge _ _ _ _) ?_ ((Below.refl _ _).drew.alloc (Nat.le_refl _) _))
  refine ⟨rfl, .inr ⟨_, _, _, rfl, Nat.le_refl _, heap_alloc_new w.drew _, Nat.zero_le _, grownCap_le_maxLen _ _ _ _ (by unfold maxLen; omega), ?_, by simp⟩⟩
  have := grownCap_ge w n 0 5
  simp [Builtin.zeroCells]
  omega
set_option maxHeartbeats 1000000 in
set_option maxRecDepth 100000 in
theorem grow_any (n : Nat) (w : World) (h0 : 0 < n) (hn : n ≤ 140737488355328) :
    Calls Try.prog 60 #[.slice none 0 0, .int .i64 (n : Int)] w fun e w' => ∃ g cap, e = .returned (.slice (some ⟨g, 0, none⟩) 0 cap) ∧ w'.ownsRow w.heap.size 5 1 (.slice (some ⟨g, 0, none⟩) 0 cap) 0 [] ∧ Below w.heap.size w w' := by
  obtain ⟨i0, hi, hz0, hz1, hz2⟩ := info_parts info5
  have hn1 : ¬ (n : Int) < 0 := by omega
  have hn2 : (0 : Int) < (n : Int) := by omega
  have hn3 : (n : Int) ≤ 140737488355328 := by omega
  go_enter Try.func60, Try.ntmps60
  go_wp2_with (at_builtin; refine wpList_append_zeros rfl _ _ 24 3 rfl i0 Try.underlying24 Try.underlying3 hi hz0 hz1 hz2 n h0 hn rfl rfl ?_; intro g cap w1 hc ho hb; have hc0 : (0 : Int) ≤ (cap : Int) := (by omega); have HO := keep ho; have HB := keep hb; clear ho hb)
  go_ret
  exact ⟨_, _, rfl, HO.out, HB.out⟩
set_option maxHeartbeats 1000000 in
set_option maxRecDepth 100000 in
theorem grow_zero (w : World) :
    Calls Try.prog 60 #[.slice none 0 0, .int .i64 0] w fun e w' => e = .returned (.slice none 0 0) ∧ w' = w := by
  go_enter Try.func60, Try.ntmps60
  go_wp2
  go_ret
  exact ⟨rfl, rfl⟩
theorem grow_all (n : Nat) (w : World) (hn : n ≤ 140737488355328) :
    Calls Try.prog 60 #[.slice none 0 0, .int .i64 (n : Int)] w fun e w' => ∃ a cap, e = .returned (.slice a 0 cap) ∧ w'.ownsRow w.heap.size 5 1 (.slice a 0 cap) 0 [] ∧ Below w.heap.size w w' := by
  rcases Nat.eq_zero_or_pos n with rfl | h0
  · refine (grow_zero w).mono ?_
    rintro e w' ⟨rfl, rfl⟩
    exact ⟨none, 0, rfl, World.ownsRow_nil _ _ _ _, Below.refl _ _⟩
  · refine (grow_any n w h0 hn).mono ?_
    rintro e w' ⟨g, cap, rfl, h1, h2⟩
    exact ⟨_, _, rfl, h1, h2⟩
set_option maxHeartbeats 2000000 in
set_option maxRecDepth 100000 in
theorem concat_two (B : Nat) (ao : Option Addr) (m c : Nat) (l : List UInt8) (ao2 : Option Addr) (m2 c2 : Nat) (l2 : List UInt8) (w : World) (hm : m + m2 ≤ 140737488355328)
    (k0 : w.cell? ⟨B, 0, none⟩ = some (.slice ao m c)) (k1 : w.cell? ⟨B, 1, none⟩ = some (.slice ao2 m2 c2)) (hs : Src w ao m c l) (hs2 : Src w ao2 m2 c2 l2) :
    Calls Try.prog 56 #[.slice (some ⟨B, 0, none⟩) 2 2] w fun e w' => ∃ v, e = .returned v ∧ New w w' v (m + m2) (l ++ l2) := by
  obtain ⟨i0, hi, hz0, hz1, hz2⟩ := info_parts info5
  have HS := keep hs
  have HS2 := keep hs2
  clear hs hs2
  have hm1 : (m : Int) ≤ 140737488355328 := by omega
  have hm2 : (m2 : Int) ≤ 140737488355328 := by omega
  have n1 : ¬ ((m : Int) < 0) := by omega
  have n2 : ¬ ((m : Int) + (m2 : Int) < 0) := by omega
  have e1 : (m : Int) + (m2 : Int) = ((m + m2 : Nat) : Int) := by omega
  have HG := keep (grow_all (m + m2) w hm)
  rw [← e1] at HG
  clear e1
  go_enter Try.func56, Try.ntmps56
  go_wp2
  refine wp_loop_rounds 3 ?_
  rw [rounds_succ]
  go_wp2
  rw [rounds_succ]
  go_wp2
  rw [rounds_succ]
  go_wp2_with fail
  refine HG.out.mono ?_
  rintro e w1 ⟨a1, cap, rfl, ho, hb⟩
  have O1 := keep ho
  have B1 := keep hb
  clear ho hb
  have q0 : w1.cell? ⟨B, 0, none⟩ = some (.slice ao m c) := below_cell B1.out k0
  have q1 : w1.cell? ⟨B, 1, none⟩ = some (.slice ao2 m2 c2) := below_cell B1.out k1
  go_wp2
  refine wp_loop_rounds 3 ?_
  rw [rounds_succ]
  go_wp2_with (at_builtin; refine wpList_append_src rfl _ _ 24 rfl w.heap.size i0 _ Try.underlying24 hi hz0 hz1 hz2 rfl _ 0 [] rfl O1.out _ m c l rfl (HS.out.below B1.out) (by omega) B1.out.size ?_; intro v2 w2 ho2 hg2; have O2 := keep ho2; have B2 := keep (B1.out.grown hg2 B1.out.size (fun j hj => (O1.out.lt j hj).1)); clear ho2 hg2)
  rw [Nat.zero_add, List.nil_append] at O2
  have p1 : w2.cell? ⟨B, 1, none⟩ = some (.slice ao2 m2 c2) := below_cell B2.out k1
  clear q0 q1
  rw [rounds_succ]
  go_wp2_with (at_builtin; refine wpList_append_src rfl _ _ 24 rfl w.heap.size i0 _ Try.underlying24 hi hz0 hz1 hz2 rfl _ m l rfl O2.out _ m2 c2 l2 rfl (HS2.out.below B2.out) (by omega) B2.out.size ?_; intro v3 w3 ho3 hg3; have O3 := keep ho3; have B3 := keep (B2.out.grown hg3 B2.out.size (fun j hj => (O2.out.lt j hj).1)); clear ho3 hg3)
  rw [rounds_succ]
  go_wp2
  go_ret
  exact ⟨_, rfl, O3.out, B3.out⟩
end Go.Proofs.Ytlhblbaingojaab
