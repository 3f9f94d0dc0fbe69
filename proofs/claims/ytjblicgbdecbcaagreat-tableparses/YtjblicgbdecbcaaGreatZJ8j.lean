/- The reader in memory; the walks of its methods. -/
/- The walks of the library's Grow and Concat over two byte slices. -/
import Derived.Test.YtjblicgbdecbcaaGreatZJ6j
import Derived.Test.YtjblicgbdecbcaaGreatZTwj
namespace Go.Proofs.YtjblicgbdecbcaaGreat
open Go.RowKit
open Sk (Ent)

/-- Of two worlds, where one block, that holds a slice alone, may have been turned: what bytes lay elsewhere lie there. -/
theorem src_kept {w w' : World} {r : Nat} {x : Option Addr} {y z : Nat} {t : TypeId} {fr : Nat × Nat} (hr : w.heap[r]? = some (.cells #[.slice x y z] t fr)) (hk : Kept (· = r) w w') {ao : Option Addr} {m c : Nat} {l : List UInt8} (h : Src w ao m c l) : Src w' ao m c l :=
  ⟨h.len, h.cap, h.nil, fun ad had j u hu => by
    have hc := h.cells ad had j u hu
    have hlt := World.block_lt_of_cell? w _ hc
    rw [hk.cell hlt ?_]
    · exact hc
    · intro e
      have hb : ∃ v : UInt8, u = .int .u8 (v.toNat : Int) := by
        have hj := (List.getElem?_eq_some_iff.1 hu).1
        rw [bv_length] at hj
        rw [bv_at l j hj] at hu
        exact ⟨_, (Option.some.inj hu).symm⟩
      obtain ⟨v, rfl⟩ := hb
      have hsp := World.cell?_spot hc
      obtain ⟨q, hq⟩ : ∃ q, ad.add j = q := ⟨_, rfl⟩
      rw [hq] at hc e hsp
      obtain ⟨qb, qo, qs⟩ := q
      simp only at e hsp
      subst e
      subst hsp
      rw [cell_of_row _ _ _ _ _ _ hr] at hc
      cases qo with
      | zero => simp at hc
      | succ n => simp at hc⟩
/-- The same where the block holds no byte. -/
theorem src_kept' {w w' : World} {r : Nat} {cs : Array Value} {t : TypeId} {fr : Nat × Nat} (hr : w.heap[r]? = some (.cells cs t fr)) (hno : ∀ (i : Nat) (x : Int), cs[i]? ≠ some (.int .u8 x)) (hk : Kept (· = r) w w') {ao : Option Addr} {m c : Nat} {l : List UInt8} (h : Src w ao m c l) : Src w' ao m c l :=
  ⟨h.len, h.cap, h.nil, fun ad had j u hu => by
    have hc := h.cells ad had j u hu
    have hlt := World.block_lt_of_cell? w _ hc
    rw [hk.cell hlt ?_]
    · exact hc
    · intro e
      have hj := (List.getElem?_eq_some_iff.1 hu).1
      rw [bv_length] at hj
      rw [bv_at l j hj] at hu
      cases hu
      have hsp := World.cell?_spot hc
      obtain ⟨q, hq⟩ : ∃ q, ad.add j = q := ⟨_, rfl⟩
      rw [hq] at hc e hsp
      obtain ⟨qb, qo, qs⟩ := q
      simp only at e hsp
      subst e
      subst hsp
      rw [cell_of_row _ _ _ _ _ _ hr] at hc
      exact hno _ _ hc⟩
theorem no_byte4 {a b : Option Addr} {m c n d : Nat} {x : Int} {y : Bool} : ∀ (i : Nat) (z : Int), (#[Value.slice a m c, .int .i64 x, .bool y, .slice b n d] : Array Value)[i]? ≠ some (.int .u8 z)
  | 0, z => by simp
  | 1, z => by simp
  | 2, z => by simp
  | 3, z => by simp
  | n + 4, z => by simp
/-- The reader r: what is left to be read. -/
def Rd (r : Nat) (w : World) (rest : List UInt8) : Prop := ∃ ra rc, w.heap[r]? = some (.cells #[.slice ra rest.length rc] 114 (0, 0)) ∧ Src w ra rest.length rc rest
theorem Rd.below {r : Nat} {w w' : World} {rest : List UInt8} (h : Rd r w rest) (hb : Below w.heap.size w w') : Rd r w' rest := by
  obtain ⟨ra, rc, h1, h2⟩ := h
  exact ⟨ra, rc, (hb.block r (Array.getElem?_eq_some_iff.1 h1).1).trans h1, h2.below hb⟩
theorem Rd.lt {r : Nat} {w : World} {rest : List UInt8} (h : Rd r w rest) : r < w.heap.size := by
  obtain ⟨ra, rc, h1, h2⟩ := h
  exact (Array.getElem?_eq_some_iff.1 h1).1
theorem Rd.src {r : Nat} {w w' : World} {rest : List UInt8} (h : Rd r w rest) (hk : Kept (· = r) w w') {ao : Option Addr} {m c : Nat} {l : List UInt8} (hs : Src w ao m c l) : Src w' ao m c l := by
  obtain ⟨ra, rc, h1, _⟩ := h
  exact src_kept h1 hk hs
/-- The reader's cell is set. -/
theorem Rd.set {r : Nat} {w : World} {rest R : List UInt8} (h : Rd r w rest) {a : Option Addr} {c : Nat} (hs : Src w a R.length c R) : Rd r (w.setCell ⟨r, 0, none⟩ (.slice a R.length c)) R ∧ Kept (· = r) w (w.setCell ⟨r, 0, none⟩ (.slice a R.length c)) := by
  have hk : Kept (· = r) w (w.setCell ⟨r, 0, none⟩ (.slice a R.length c)) := Kept.setCell (Kept.refl (· = r) w) (p := ⟨r, 0, none⟩) (.inl rfl) _
  refine ⟨⟨a, c, ?_, h.src hk hs⟩, hk⟩
  obtain ⟨ra, rc, h1, _⟩ := h
  have := set_row h1 0 (.slice a R.length c)
  simpa using this
/-- The reader's bytes lie in a block of bytes. -/
def Rd5 (r : Nat) (w : World) : Prop := ∀ ra m rc t fr, w.heap[r]? = some (.cells #[.slice ra m rc] t fr) → In5 w ra
theorem Rd5.set {r : Nat} {w : World} {rest : List UInt8} (h : Rd r w rest) {a : Option Addr} {n c : Nat} (h5 : In5 w a) : Rd5 r (w.setCell ⟨r, 0, none⟩ (.slice a n c)) := fun ra m rc t fr hh => by
  obtain ⟨x, y, h1, _⟩ := h
  have h2 := set_row h1 0 (.slice a n c)
  rw [h2] at hh
  simp at hh
  obtain ⟨⟨rfl, rfl, rfl⟩, _⟩ := hh
  intro ad had
  obtain ⟨cur, fr', hc⟩ := h5 ad had
  refine ⟨cur, fr', ?_⟩
  rw [Below.heap_setCell w ⟨r, 0, none⟩ _ ad.block (fun e => ?_)]
  · exact hc
  · rw [e, h1] at hc
    simp at hc
/-- What a method of the reader does. -/
def Read (r : Nat) (w : World) (v : Value) (R : List UInt8) (e : Ending) (w' : World) : Prop := e = .returned v ∧ Rd r w' R ∧ Rd5 r w' ∧ Kept (· = r) w w'
set_option maxHeartbeats 1000000 in
set_option maxRecDepth 100000 in
theorem num_read (r : Nat) (rest : List UInt8) (w : World) (h : Rd r w rest) (hm : rest.length ≤ 140737488355328) :
    Calls Tryz.prog 89 #[.pointer (some ⟨r, 0, none⟩)] w (Read r w (.int .i64 (nOf rest : Int)) (rOf rest)) := by
  have H := keep h
  obtain ⟨ra, rc, h1, h2⟩ := h
  have TN := keep (takeNum_own ra rest.length rc rest w hm h2)
  have c0 : w.cell? ⟨r, 0, none⟩ = some (.slice ra rest.length rc) := cell_of_row _ _ _ _ _ _ h1
  have H1 := keep h1
  unfold TookN at TN
  obtain ⟨N, hN⟩ : ∃ N, nOf rest = N := ⟨_, rfl⟩
  obtain ⟨R, hR⟩ : ∃ R, rOf rest = R := ⟨_, rfl⟩
  rw [hN, hR] at TN ⊢
  clear hN hR h1 h2 hm
  obtain ⟨n, hn⟩ : ∃ n, rest.length = n := ⟨_, rfl⟩
  rw [hn] at c0 TN H1
  clear hn
  go_enter Tryz.func89, Tryz.ntmps89
  go_wp2_with fail
  refine TN.out.mono ?_
  rintro e w2 ⟨a2, k2, rfl, hs2, h52, hb2⟩
  have f0 : w2.frozen? ⟨r, 0, none⟩ = false := by
    have := (hb2.block r H.out.lt).trans H1.out
    simp [World.frozen?, this]
  have d0 : w2.cell? ⟨r, 0, none⟩ = some (.slice ra n rc) := below_cell hb2 c0
  have E := keep ((H.out.below hb2).set hs2)
  have E5 := keep (Rd5.set (H.out.below hb2) (n := R.length) (c := k2) h52)
  have b2 := keep hb2
  clear hb2 hs2 h52 TN
  obtain ⟨n2, hn2⟩ : ∃ n2, R.length = n2 := ⟨_, rfl⟩
  rw [hn2] at E E5 ⊢
  clear hn2
  go_wp2
  go_ret
  exact ⟨rfl, E.out.1, E5.out, (Kept.of_below b2.out).trans E.out.2⟩
set_option maxHeartbeats 1000000 in
set_option maxRecDepth 100000 in
theorem text_read (r : Nat) (rest : List UInt8) (most : Int) (w : World) (h : Rd r w rest) (hm : rest.length ≤ 140737488355328) :
    Calls Tryz.prog 90 #[.pointer (some ⟨r, 0, none⟩), .int .i64 most] w (Read r w (.string ⟨(Bq.tS rest most).toArray⟩) (Bq.tR rest most)) := by
  have H := keep h
  obtain ⟨ra, rc, h1, h2⟩ := h
  have TN : Hid (Calls Tryz.prog 73 #[.slice ra rest.length rc, .int .i64 most] w fun e w' => ∃ a c E, e = .returned (.tuple #[.string ⟨(Bq.tS rest most).toArray⟩, .slice a (Bq.tR rest most).length c, .int .i64 E]) ∧ Src w' a (Bq.tR rest most).length c (Bq.tR rest most) ∧ In5 w' a ∧ Below w.heap.size w w') := by
    refine (takeTextO_any ra rest.length rc rest most w hm h2).mono ?_
    rintro e w' (⟨S, R, a, c, ht, rfl, hs, h5, hb⟩ | ⟨ht, rfl, hb⟩)
    · have e1 : Bq.tS rest most = S := by simp [Bq.tS, ht]
      have e2 : Bq.tR rest most = R := by simp [Bq.tR, ht]
      rw [e1, e2]
      exact ⟨a, c, 0, rfl, hs, h5, hb⟩
    · have e1 : Bq.tS rest most = [] := by simp [Bq.tS, ht]
      have e2 : Bq.tR rest most = [] := by simp [Bq.tR, ht]
      rw [e1, e2]
      exact ⟨none, 0, 2, rfl, src_nil w', in5_none _, hb⟩
  have c0 : w.cell? ⟨r, 0, none⟩ = some (.slice ra rest.length rc) := cell_of_row _ _ _ _ _ _ h1
  have H1 := keep h1
  obtain ⟨S, hS⟩ : ∃ S, Bq.tS rest most = S := ⟨_, rfl⟩
  obtain ⟨R, hR⟩ : ∃ R, Bq.tR rest most = R := ⟨_, rfl⟩
  rw [hS, hR] at TN ⊢
  clear hS hR h1 h2 hm
  obtain ⟨n, hn⟩ : ∃ n, rest.length = n := ⟨_, rfl⟩
  rw [hn] at c0 TN H1
  clear hn
  go_enter Tryz.func90, Tryz.ntmps90
  go_wp2_with fail
  refine TN.out.mono ?_
  rintro e w2 ⟨a2, k2, E2, rfl, hs2, h52, hb2⟩
  have f0 : w2.frozen? ⟨r, 0, none⟩ = false := by
    have := (hb2.block r H.out.lt).trans H1.out
    simp [World.frozen?, this]
  have d0 : w2.cell? ⟨r, 0, none⟩ = some (.slice ra n rc) := below_cell hb2 c0
  have E := keep ((H.out.below hb2).set hs2)
  have E5 := keep (Rd5.set (H.out.below hb2) (n := R.length) (c := k2) h52)
  have b2 := keep hb2
  clear hb2 hs2 h52 TN
  obtain ⟨n2, hn2⟩ : ∃ n2, R.length = n2 := ⟨_, rfl⟩
  rw [hn2] at E E5 ⊢
  clear hn2
  go_wp2
  go_ret
  exact ⟨rfl, E.out.1, E5.out, (Kept.of_below b2.out).trans E.out.2⟩
end Go.Proofs.YtjblicgbdecbcaaGreat
namespace Go.Proofs.YtjblicgbdecbcaaGreat
open Go.RowKit

theorem run_append_zeros {P : Program} (w : World) (t tI ty : TypeId) (i : TypeInfo) (ht : P.underlying t = some (.slice 5)) (hI : P.underlying tI = some (.int .i64)) (hi : P.info? 5 = some i) (hz : i.zero = some (.int .u8 0)) (hz1 : i.size = 1) (hz2 : i.bytes = 1) (n : Nat) (h0 : 0 < n) (hn : n ≤ 140737488355328) :
    (Builtin.append_ #[t, tI] ty #[.slice none 0 0, .int .i64 (n : Int)]).run P w = .ok (.slice (some ⟨w.heap.size, 0, none⟩) n (grownCap w n 0 5)) (w.drew.alloc (.cells (Builtin.zeroCells #[.int .u8 0] n ++ Builtin.zeroCells #[.int .u8 0] (grownCap w n 0 5 - n)) 5)) := by
  have h2 : ¬ (9223372036854775807 < (n : Int)) := by omega
  have h3 : Builtin.nextslicecap n 0 = n := by unfold Builtin.nextslicecap; rw [if_pos (by omega)]
  have h4 : ¬ (281474976710656 < n) := by omega
  have h5 : IntKind.i64.wrap (n : Int) = (n : Int) := wrap_small _ (by omega) (by omega)
  have h6 : ¬ ((n : Int) < 0) := by omega
  have h7 : ¬ (281474976710656 < (n : Int)) := by omega
  have h8 : ¬ n = 0 := by omega
  simp [Builtin.append_, run_underlying ht, run_underlying hI, sizeOf, typeInfo, zeroValue, hi, hz, hz1, hz2, asInt, asIntOf, h2, h3, h4, h5, h6, h7, h8, Int.max_eq_left (show (0 : Int) ≤ (n : Int) by omega), Question.forced, Builtin.firstCells, newRow, grownCap, Value.cells]
theorem wpList_append_zeros {P : Program} {w : World} {ops : Array Oper} {rest : List Oper} {o : Oper} {a : Act} {Q : Exit → Act → World → Prop} (hgd : o.guard = none) (s x : Operand) (t tI : TypeId)
    (ho : o.op = .call { callee := .builtin .append, args := #[s, x], argTypes := #[t, tI] })
    (i : TypeInfo) (ht : P.underlying t = some (.slice 5)) (hI : P.underlying tI = some (.int .i64)) (hi : P.info? 5 = some i) (hz : i.zero = some (.int .u8 0)) (hz1 : i.size = 1) (hz2 : i.bytes = 1) (n : Nat) (h0 : 0 < n) (hn : n ≤ 140737488355328)
    (hs : a.eval s = .slice none 0 0) (hx : a.eval x = .int .i64 (n : Int))
    (h : ∀ g cap w', n ≤ cap → w'.ownsRow w.heap.size 5 1 (.slice (some ⟨g, 0, none⟩) 0 cap) 0 [] → Below w.heap.size w w' → wpList P ops Q rest (a.put o.dst (.slice (some ⟨g, 0, none⟩) n cap)) w') : wpList P ops Q (o :: rest) a w := by
  refine wpList_plain hgd fun K hK => ?_
  have hrun := run_append_zeros w t tI o.type i ht hI hi hz hz1 hz2 n h0 hn
  unfold Oper.wp
  simp [execOp, ho, resolve, invoke, builtin, hs, hx, hrun, Result.andThen]
  refine hK _ _ (h _ _ _ (grownCap_ge _ _ _ _) ?_ ((Below.refl _ _).drew.alloc (Nat.le_refl _) _))
  refine ⟨rfl, .inr ⟨_, _, _, rfl, Nat.le_refl _, heap_alloc_new w.drew _, Nat.zero_le _, grownCap_le_maxLen _ _ _ _ (by unfold maxLen; omega), ?_, by simp⟩⟩
  have := grownCap_ge w n 0 5
  simp [Builtin.zeroCells]
  omega
set_option maxHeartbeats 1000000 in
set_option maxRecDepth 100000 in
theorem grow_any (n : Nat) (w : World) (h0 : 0 < n) (hn : n ≤ 140737488355328) :
    Calls Tryz.prog 92 #[.slice none 0 0, .int .i64 (n : Int)] w fun e w' => ∃ g cap, e = .returned (.slice (some ⟨g, 0, none⟩) 0 cap) ∧ w'.ownsRow w.heap.size 5 1 (.slice (some ⟨g, 0, none⟩) 0 cap) 0 [] ∧ Below w.heap.size w w' := by
  obtain ⟨i0, hi, hz0, hz1, hz2⟩ := info_parts info5
  have hn1 : ¬ (n : Int) < 0 := by omega
  have hn2 : (0 : Int) < (n : Int) := by omega
  have hn3 : (n : Int) ≤ 140737488355328 := by omega
  go_enter Tryz.func92, Tryz.ntmps92
  go_wp2_with (at_builtin; refine wpList_append_zeros rfl _ _ 24 3 rfl i0 Tryz.underlying24 Tryz.underlying3 hi hz0 hz1 hz2 n h0 hn rfl rfl ?_; intro g cap w1 hc ho hb; have hc0 : (0 : Int) ≤ (cap : Int) := (by omega); have HO := keep ho; have HB := keep hb; clear ho hb)
  go_ret
  exact ⟨_, _, rfl, HO.out, HB.out⟩
set_option maxHeartbeats 1000000 in
set_option maxRecDepth 100000 in
theorem grow_zero (w : World) :
    Calls Tryz.prog 92 #[.slice none 0 0, .int .i64 0] w fun e w' => e = .returned (.slice none 0 0) ∧ w' = w := by
  go_enter Tryz.func92, Tryz.ntmps92
  go_wp2
  go_ret
  exact ⟨rfl, rfl⟩
theorem grow_all (n : Nat) (w : World) (hn : n ≤ 140737488355328) :
    Calls Tryz.prog 92 #[.slice none 0 0, .int .i64 (n : Int)] w fun e w' => ∃ a cap, e = .returned (.slice a 0 cap) ∧ w'.ownsRow w.heap.size 5 1 (.slice a 0 cap) 0 [] ∧ Below w.heap.size w w' := by
  rcases Nat.eq_zero_or_pos n with rfl | h0
  · refine (grow_zero w).mono ?_
    rintro e w' ⟨rfl, rfl⟩
    exact ⟨none, 0, rfl, World.ownsRow_nil _ _ _ _, Below.refl _ _⟩
  · refine (grow_any n w h0 hn).mono ?_
    rintro e w' ⟨g, cap, rfl, h1, h2⟩
    exact ⟨_, _, rfl, h1, h2⟩
set_option maxHeartbeats 2000000 in
set_option maxRecDepth 100000 in
theorem concat_two (B : Nat) (ao : Option Addr) (m c : Nat) (l : List UInt8) (ao2 : Option Addr) (m2 c2 : Nat) (l2 : List UInt8) (w : World) (hm : m + m2 ≤ 140737488355328)
    (k0 : w.cell? ⟨B, 0, none⟩ = some (.slice ao m c)) (k1 : w.cell? ⟨B, 1, none⟩ = some (.slice ao2 m2 c2)) (hs : Src w ao m c l) (hs2 : Src w ao2 m2 c2 l2) :
    Calls Tryz.prog 82 #[.slice (some ⟨B, 0, none⟩) 2 2] w fun e w' => ∃ v, e = .returned v ∧ New w w' v (m + m2) (l ++ l2) := by
  obtain ⟨i0, hi, hz0, hz1, hz2⟩ := info_parts info5
  have HS := keep hs
  have HS2 := keep hs2
  clear hs hs2
  have hm1 : (m : Int) ≤ 140737488355328 := by omega
  have hm2 : (m2 : Int) ≤ 140737488355328 := by omega
  have n1 : ¬ ((m : Int) < 0) := by omega
  have n2 : ¬ ((m : Int) + (m2 : Int) < 0) := by omega
  have e1 : (m : Int) + (m2 : Int) = ((m + m2 : Nat) : Int) := by omega
  have HG := keep (grow_all (m + m2) w hm)
  rw [← e1] at HG
  clear e1
  go_enter Tryz.func82, Tryz.ntmps82
  go_wp2
  refine wp_loop_rounds 3 ?_
  rw [rounds_succ]
  go_wp2
  rw [rounds_succ]
  go_wp2
  rw [rounds_succ]
  go_wp2_with fail
  refine HG.out.mono ?_
  rintro e w1 ⟨a1, cap, rfl, ho, hb⟩
  have O1 := keep ho
  have B1 := keep hb
  clear ho hb
  have q0 : w1.cell? ⟨B, 0, none⟩ = some (.slice ao m c) := below_cell B1.out k0
  have q1 : w1.cell? ⟨B, 1, none⟩ = some (.slice ao2 m2 c2) := below_cell B1.out k1
  go_wp2
  refine wp_loop_rounds 3 ?_
  rw [rounds_succ]
  go_wp2_with (at_builtin; refine wpList_append_src rfl _ _ 24 rfl w.heap.size i0 _ Tryz.underlying24 hi hz0 hz1 hz2 rfl _ 0 [] rfl O1.out _ m c l rfl (HS.out.below B1.out) (by omega) B1.out.size ?_; intro v2 w2 ho2 hg2; have O2 := keep ho2; have B2 := keep (B1.out.grown hg2 B1.out.size (fun j hj => (O1.out.lt j hj).1)); clear ho2 hg2)
  rw [Nat.zero_add, List.nil_append] at O2
  have p1 : w2.cell? ⟨B, 1, none⟩ = some (.slice ao2 m2 c2) := below_cell B2.out k1
  clear q0 q1
  rw [rounds_succ]
  go_wp2_with (at_builtin; refine wpList_append_src rfl _ _ 24 rfl w.heap.size i0 _ Tryz.underlying24 hi hz0 hz1 hz2 rfl _ m l rfl O2.out _ m2 c2 l2 rfl (HS2.out.below B2.out) (by omega) B2.out.size ?_; intro v3 w3 ho3 hg3; have O3 := keep ho3; have B3 := keep (B2.out.grown hg3 B2.out.size (fun j hj => (O2.out.lt j hj).1)); clear ho3 hg3)
  rw [rounds_succ]
  go_wp2
  go_ret
  exact ⟨_, rfl, O3.out, B3.out⟩
end Go.Proofs.YtjblicgbdecbcaaGreat
