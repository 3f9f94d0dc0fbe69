/- The walks of the library's Grow and Concat over texts. -/
import Derived.Test.YtkepjjkiajkdmaaDoorPb
namespace Go.Proofs.YtkepjjkiajkdmaaDoor
open Go.RowKit

theorem run_append_zerosS {P : Program} (w : World) (t tI ty : TypeId) (i : TypeInfo) (ht : P.underlying t = some (.slice 9)) (hI : P.underlying tI = some (.int .i64)) (hi : P.info? 9 = some i) (hz : i.zero = some (.string ⟨#[]⟩)) (hz1 : i.size = 1) (hz2 : i.bytes = 16) (n : Nat) (h0 : 0 < n) (hn : n ≤ 8796093022208) :
    (Builtin.append_ #[t, tI] ty #[.slice none 0 0, .int .i64 (n : Int)]).run P w = .ok (.slice (some ⟨w.heap.size, 0, none⟩) n (grownCap w n 0 9)) (w.drew.alloc (.cells (Builtin.zeroCells #[.string ⟨#[]⟩] n ++ Builtin.zeroCells #[.string ⟨#[]⟩] (grownCap w n 0 9 - n)) 9)) := by
  have h2 : ¬ (9223372036854775807 < (n : Int)) := by omega
  have h3 : Builtin.nextslicecap n 0 = n := by unfold Builtin.nextslicecap; rw [if_pos (by omega)]
  have h4 : ¬ (281474976710656 < n * 16) := by omega
  have h5 : IntKind.i64.wrap (n : Int) = (n : Int) := wrap_small _ (by omega) (by omega)
  have h6 : ¬ ((n : Int) < 0) := by omega
  have h7 : ¬ (281474976710656 < (n : Int) * 16) := by omega
  have h8 : ¬ n = 0 := by omega
  simp [Builtin.append_, run_underlying ht, run_underlying hI, sizeOf, typeInfo, zeroValue, hi, hz, hz1, hz2, asInt, asIntOf, h2, h3, h4, h5, h6, h7, h8, Int.max_eq_left (show (0 : Int) ≤ (n : Int) by omega), Question.forced, Builtin.firstCells, newRow, grownCap, Value.cells]
theorem wpList_append_zerosS {P : Program} {w : World} {ops : Array Oper} {rest : List Oper} {o : Oper} {a : Act} {Q : Exit → Act → World → Prop} (hgd : o.guard = none) (s x : Operand) (t tI : TypeId)
    (ho : o.op = .call { callee := .builtin .append, args := #[s, x], argTypes := #[t, tI] })
    (i : TypeInfo) (ht : P.underlying t = some (.slice 9)) (hI : P.underlying tI = some (.int .i64)) (hi : P.info? 9 = some i) (hz : i.zero = some (.string ⟨#[]⟩)) (hz1 : i.size = 1) (hz2 : i.bytes = 16) (n : Nat) (h0 : 0 < n) (hn : n ≤ 8796093022208)
    (hs : a.eval s = .slice none 0 0) (hx : a.eval x = .int .i64 (n : Int))
    (h : ∀ g cap w', n ≤ cap → w'.ownsRow w.heap.size 9 1 (.slice (some ⟨g, 0, none⟩) 0 cap) 0 [] → Below w.heap.size w w' → wpList P ops Q rest (a.put o.dst (.slice (some ⟨g, 0, none⟩) n cap)) w') : wpList P ops Q (o :: rest) a w := by
  refine wpList_plain hgd fun K hK => ?_
  have hrun := run_append_zerosS w t tI o.type i ht hI hi hz hz1 hz2 n h0 hn
  unfold Oper.wp
  simp [execOp, ho, resolve, invoke, builtin, hs, hx, hrun, Result.andThen]
  refine hK _ _ (h _ _ _ (grownCap_ge _ _ _ _) ?_ ((Below.refl _ _).drew.alloc (Nat.le_refl _) _))
  refine ⟨rfl, .inr ⟨_, _, _, rfl, Nat.le_refl _, heap_alloc_new w.drew _, Nat.zero_le _, grownCap_le_maxLen _ _ _ _ (by unfold maxLen; omega), ?_, by simp⟩⟩
  have := grownCap_ge w n 0 9
  simp [Builtin.zeroCells]
  omega
set_option maxHeartbeats 1000000 in
set_option maxRecDepth 100000 in
theorem growS_any (n : Nat) (w : World) (h0 : 0 < n) (hn : n ≤ 8796093022208) :
    Calls Tryd.prog 49 #[.slice none 0 0, .int .i64 (n : Int)] w fun e w' => ∃ g cap, e = .returned (.slice (some ⟨g, 0, none⟩) 0 cap) ∧ w'.ownsRow w.heap.size 9 1 (.slice (some ⟨g, 0, none⟩) 0 cap) 0 [] ∧ Below w.heap.size w w' := by
  obtain ⟨i0, hi, hz0, hz1, hz2⟩ := info_partsS infoS
  have hn1 : ¬ (n : Int) < 0 := by omega
  have hn2 : (0 : Int) < (n : Int) := by omega
  have hn3 : (n : Int) ≤ 8796093022208 := by omega
  go_enter Tryd.func49, Tryd.ntmps49
  go_wp2_with (at_builtin; refine wpList_append_zerosS rfl _ _ 22 3 rfl i0 Tryd.underlying22 Tryd.underlying3 hi hz0 hz1 hz2 n h0 hn rfl rfl ?_; intro g cap w1 hc ho hb; have hc0 : (0 : Int) ≤ (cap : Int) := (by omega); have HO := keep ho; have HB := keep hb; clear ho hb)
  go_ret
  exact ⟨_, _, rfl, HO.out, HB.out⟩
theorem wpList_append_recsS {P : Program} {w : World} {ops : Array Oper} {rest : List Oper} {o : Oper} {a : Act} {Q : Exit → Act → World → Prop} (hgd : o.guard = none) (s x : Operand) (t : TypeId)
    (ho : o.op = .call { callee := .builtin .append, args := #[s, x], argTypes := #[t, t] })
    (base : Nat) (i : TypeInfo) (z : Value) (ht : P.underlying t = some (.slice 9)) (hi : P.info? 9 = some i) (hz : i.zero = some z)
    (hsize : i.size = 1) (hby : i.bytes = 16) (hzs : z.cells.size = 1)
    (v : Value) (n : Nat) (k : List (List UInt8)) (hs : a.eval s = v) (hown : w.ownsRow base 9 1 v n (rv strKind k))
    (ao : Option Addr) (m c : Nat) (l : List (List UInt8)) (hx : a.eval x = .slice ao m c) (hsrc : RSrc strKind w ao m c l)
    (hbytes : n + m ≤ 8796093022208) (hbase : base ≤ w.heap.size)
    (h : ∀ v' w', w'.ownsRow base 9 1 v' (n + m) (rv strKind (k ++ l)) → w.grownBy w' v.ownBlock → wpList P ops Q rest (a.put o.dst v') w') : wpList P ops Q (o :: rest) a w := by
  cases ao with
  | none =>
    obtain ⟨rfl, rfl⟩ := hsrc.nil rfl
    have hl : l = [] := List.length_eq_zero_iff.1 hsrc.len
    subst hl
    refine wpList_append_own_none hgd s x t ho base 9 i 1 ht hi v n (rv strKind k) hs hown hx ?_
    exact h v w (by simpa using hown) (World.grownBy.refl _ _)
  | some ad =>
    refine wpList_append_own w hgd s x t ho base 9 i z 1 16 ht hi hz hsize hby hzs (by omega) v n (rv strKind k) hs hown ad m c (rv strKind l) hx (by rw [rv_length strKind_ok, hsrc.len]; rfl) (hsrc.cells ad rfl) (rv_one strKind_ok l) (by unfold maxLen; omega) (by omega) hbase ?_
    intro v' w' h1 h2 _
    exact h v' w' (by rw [rv_append]; exact h1) h2
set_option maxHeartbeats 2000000 in
set_option maxRecDepth 100000 in
theorem concatS_two (B : Nat) (ao : Option Addr) (m c : Nat) (l : List (List UInt8)) (ao2 : Option Addr) (m2 c2 : Nat) (l2 : List (List UInt8)) (w : World) (h0 : 0 < m + m2) (hm : m + m2 ≤ 8796093022208)
    (k0 : w.cell? ⟨B, 0, none⟩ = some (.slice ao m c)) (k1 : w.cell? ⟨B, 1, none⟩ = some (.slice ao2 m2 c2)) (hs : RSrc strKind w ao m c l) (hs2 : RSrc strKind w ao2 m2 c2 l2) :
    Calls Tryd.prog 30 #[.slice (some ⟨B, 0, none⟩) 2 2] w fun e w' => ∃ v, e = .returned v ∧ w'.ownsRow w.heap.size 9 1 v (m + m2) (rv strKind (l ++ l2)) ∧ Below w.heap.size w w' := by
  obtain ⟨i0, hi, hz0, hz1, hz2⟩ := info_partsS infoS
  have HS := keep hs
  have HS2 := keep hs2
  clear hs hs2
  have hm1 : (m : Int) ≤ 8796093022208 := by omega
  have hm2 : (m2 : Int) ≤ 8796093022208 := by omega
  have n1 : ¬ ((m : Int) < 0) := by omega
  have n2 : ¬ ((m : Int) + (m2 : Int) < 0) := by omega
  have e1 : (m : Int) + (m2 : Int) = ((m + m2 : Nat) : Int) := by omega
  have HG := keep (growS_any (m + m2) w h0 hm)
  rw [← e1] at HG
  clear e1
  go_enter Tryd.func30, Tryd.ntmps30
  go_wp2
  refine wp_loop_rounds 3 ?_
  rw [rounds_succ]
  go_wp2
  rw [rounds_succ]
  go_wp2
  rw [rounds_succ]
  go_wp2_with fail
  refine HG.out.mono ?_
  rintro e w1 ⟨g, cap, rfl, ho, hb⟩
  have O1 := keep ho
  have B1 := keep hb
  clear ho hb
  have q0 : w1.cell? ⟨B, 0, none⟩ = some (.slice ao m c) := below_cell B1.out k0
  have q1 : w1.cell? ⟨B, 1, none⟩ = some (.slice ao2 m2 c2) := below_cell B1.out k1
  go_wp2
  refine wp_loop_rounds 3 ?_
  rw [rounds_succ]
  go_wp2_with (at_builtin; refine wpList_append_recsS rfl _ _ 22 rfl w.heap.size i0 _ Tryd.underlying22 hi hz0 hz1 hz2 rfl _ 0 [] rfl O1.out _ m c l rfl (HS.out.below strKind_ok B1.out) (by omega) B1.out.size ?_; intro v2 w2 ho2 hg2; have O2 := keep ho2; have B2 := keep (B1.out.grown hg2 B1.out.size (fun j hj => (O1.out.lt j hj).1)); clear ho2 hg2)
  rw [Nat.zero_add, List.nil_append] at O2
  have p1 : w2.cell? ⟨B, 1, none⟩ = some (.slice ao2 m2 c2) := below_cell B2.out k1
  clear q0 q1
  rw [rounds_succ]
  go_wp2_with (at_builtin; refine wpList_append_recsS rfl _ _ 22 rfl w.heap.size i0 _ Tryd.underlying22 hi hz0 hz1 hz2 rfl _ m l rfl O2.out _ m2 c2 l2 rfl (HS2.out.below strKind_ok B2.out) (by omega) B2.out.size ?_; intro v3 w3 ho3 hg3; have O3 := keep ho3; have B3 := keep (B2.out.grown hg3 B2.out.size (fun j hj => (O2.out.lt j hj).1)); clear ho3 hg3)
  rw [rounds_succ]
  go_wp2
  go_ret
  exact ⟨_, rfl, O3.out, B3.out⟩
end Go.Proofs.YtkepjjkiajkdmaaDoor
