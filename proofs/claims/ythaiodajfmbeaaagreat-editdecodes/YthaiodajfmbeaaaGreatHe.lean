/- The walks of without and its closure; of slices.Grow and Concat over notes. -/
import Derived.Test.YthaiodajfmbeaaaGreatHd
namespace Go.Proofs.YthaiodajfmbeaaaGreat
open Go.RowKit
open Ed (Nt)

theorem contains_rising (zs : List Int) (x : Int) : (Ed.rising zs).contains x = zs.contains x := by
  rw [Bool.eq_iff_iff, List.contains_iff_mem, List.contains_iff_mem]
  exact (Ed.rising_perm zs).mem_iff
set_option maxHeartbeats 2000000 in
set_option maxRecDepth 100000 in
theorem wclos_any (Br : Nat) (ao : Option Addr) (n c : Nat) (zs : List Int) (x : MV) (w : World) (hB : w.cell? ⟨Br, 0, none⟩ = some (.slice ao n c)) (hs : RSrc inK w ao n c zs) (hp : zs.Pairwise (· ≤ ·)) (hn : n ≤ 1000000) :
    Calls Tryz.prog 45 #[mv x, .pointer (some ⟨Br, 0, none⟩)] w fun e w' => e = .returned (.bool (zs.contains x.m.num)) ∧ Below w.heap.size w w' := by
  obtain ⟨xfp, xfc, xlp, xlc, ⟨xnum, xlevel, xcount, xfirst, xlast⟩⟩ := x
  unfold mv
  simp only
  obtain ⟨W1, hW1⟩ : ∃ Wn, w.alloc (.cells #[.int .i64 xnum, .int .i64 xlevel, .int .i64 xcount, .slice xfp xfirst.length xfc, .slice xlp xlast.length xlc] 39) = Wn := ⟨_, rfl⟩
  have b1 : Hid (Below w.heap.size w W1) := by rw [← hW1]; exact (Below.refl _ _).alloc (Nat.le_refl _) _
  have g1 : Hid (W1.heap[w.heap.size]? = some (.cells #[.int .i64 xnum, .int .i64 xlevel, .int .i64 xcount, .slice xfp xfirst.length xfc, .slice xlp xlast.length xlc] 39)) := by rw [← hW1]; exact heap_alloc_new w _
  have c0 : W1.cell? ⟨w.heap.size, 0, none⟩ = some (.int .i64 xnum) := cell_of_row _ _ _ _ _ _ g1.out
  have q0 : W1.cell? ⟨Br, 0, none⟩ = some (.slice ao n c) := belowE b1.out hB
  have BS : Hid (Calls Tryz.prog 46 #[.slice ao n c, .int .i64 xnum] W1 fun e w' => (∃ z : Int, e = .returned (.tuple #[.int .i64 z, .bool (zs.contains xnum)])) ∧ Below W1.heap.size W1 w') := by
    have S1 := hs.below inK_ok b1.out
    rcases Nat.eq_zero_or_pos n with h0 | h0
    · subst h0
      have hz : zs = [] := List.length_eq_zero_iff.1 S1.len
      subst hz
      refine (sh_slices_BinarySearch_int_empty ao c xnum W1).mono ?_
      rintro e w' ⟨rfl, rfl⟩
      exact ⟨⟨0, rfl⟩, Below.refl _ _⟩
    · obtain ⟨b, off, rfl, _, _⟩ := S1.form inK_ok h0
      have hl := S1.len
      have ht : zs.take n = zs := List.take_of_length_le (by omega)
      have hcon := sh_slices_BinarySearch_int b off n c zs xnum W1 (by omega) (by omega) (fun j hj => int_cell S1 (by omega)) (by rw [ht]; exact hp)
      rw [ht] at hcon
      refine hcon.mono ?_
      rintro e w' ⟨rfl, q, rfl⟩
      exact ⟨⟨_, rfl⟩, below_drewN (Below.refl _ _) _⟩
  obtain ⟨r, hr⟩ : ∃ r, zs.contains xnum = r := ⟨_, rfl⟩
  rw [hr] at BS ⊢
  clear hr hB hs hp
  go_enter Tryz.func45, Tryz.ntmps45
  go_wp2_with fail
  refine BS.out.mono ?_
  rintro e w2 ⟨⟨z, rfl⟩, hb2⟩
  have B2 := keep (b1.out.trans (hb2.mono b1.out.size))
  clear hb2
  go_wp2
  go_ret
  exact ⟨rfl, B2.out⟩
set_option maxHeartbeats 2000000 in
set_option maxRecDepth 100000 in
theorem mdelete_none (q : Nat) (p : Nt → Bool) (w0 : World) (hT : Tells 45 #[.pointer (some ⟨q, 0, none⟩)] p w0) (ao : Option Addr) (c : Nat) (w : World) (hc : ao = none → c = 0) (h0 : Below w0.heap.size w0 w) :
    Calls Tryz.prog 43 #[.slice ao 0 c, .func (.func 45) #[] #[.pointer (some ⟨q, 0, none⟩)]] w fun e w' =>
      e = .returned (.slice ao 0 c) ∧ Below w.heap.size w w' := by
  have IX := keep (mindex_any q p w0 hT ao 0 c [] w (RSrc.empty hc) (by omega) h0)
  clear hT h0
  go_enter Tryz.func43, Tryz.ntmps43
  go_wp2_with fail
  refine IX.out.mono ?_
  rintro e w1 ⟨⟨rfl, _⟩ | ⟨k0, _, hk0, _⟩, hb1⟩
  · have B1 := keep hb1
    clear hb1 IX
    go_wp2
    go_ret
    exact ⟨rfl, B1.out⟩
  · omega
set_option maxHeartbeats 2000000 in
set_option maxRecDepth 100000 in
theorem without_any (ao : Option Addr) (n c : Nat) (es : List MV) (dp : Option Addr) (dn dc : Nat) (ds : List Int) (w : World) (hsrc : RSrc metaKind w ao n c es) (hd : RSrc inK w dp dn dc ds) (hn : n ≤ 1000000) (hdn : dn ≤ 1000000) :
    Calls Tryz.prog 23 #[.slice ao n c, .slice dp dn dc] w fun e w' => ∃ ao' k c', e = .returned (.slice ao' k c') ∧ RSrc metaKind w' ao' k c' (es.filter fun y => !ds.contains y.m.num) ∧ (∀ ad, ao' = some ad → w.heap.size ≤ ad.block) ∧ Below w.heap.size w w' := by
  have SRC := keep hsrc
  have SD := keep hd
  clear hsrc hd
  have VA := keep (values_any dp dn dc w)
  obtain ⟨W1, hW1⟩ : ∃ W1, w.alloc (.cells #[.slice dp dn dc] 42) = W1 := ⟨_, rfl⟩
  have b1 : Hid (Below w.heap.size w W1) := by rw [← hW1]; exact (Below.refl _ _).alloc (Nat.le_refl _) _
  have x1 : Hid (W1.cell? ⟨w.heap.size, 0, none⟩ = some (.slice dp dn dc)) := by rw [← hW1]; exact cell_of_row _ _ _ _ _ _ (heap_alloc_new w _)
  rw [hW1] at VA
  have SO := keep (sortedI_any w.heap.size dp dn dc ds W1 hdn x1.out (SD.out.below inK_ok b1.out))
  go_enter Tryz.func23, Tryz.ntmps23
  go_wp2_with fail
  refine VA.out.mono ?_
  rintro e w1 ⟨rfl, rfl⟩
  go_wp2_with fail
  refine SO.out.mono ?_
  rintro e w2 ⟨v, rfl, ho2, hb2⟩
  have B2 := keep (b1.out.trans (hb2.mono b1.out.size))
  rw [← rv_int] at ho2
  obtain ⟨ra, rc, rfl, hrs, _⟩ := RSrc.own inK_ok ho2 (fun _ _ => trivial)
  have R2 := keep hrs
  clear ho2 hb2 hrs VA SO hW1
  obtain ⟨W3, hW3⟩ : ∃ W3, w2.alloc (.cells #[.slice ra dn rc] 42) = W3 := ⟨_, rfl⟩
  have b3 : Hid (Below w2.heap.size w2 W3) := by rw [← hW3]; exact (Below.refl _ _).alloc (Nat.le_refl _) _
  have x3 : Hid (W3.cell? ⟨w2.heap.size, 0, none⟩ = some (.slice ra dn rc)) := by rw [← hW3]; exact cell_of_row _ _ _ _ _ _ (heap_alloc_new w2 _)
  have B3 := keep (B2.out.trans (b3.out.mono B2.out.size))
  have TL : Hid (Tells 45 #[.pointer (some ⟨w2.heap.size, 0, none⟩)] (fun m => ds.contains m.num) W3) := fun x w' hx hb => by
    have := wclos_any w2.heap.size ra dn rc (Ed.rising ds) x w' (belowE hb x3.out) ((R2.out.below inK_ok b3.out).below inK_ok hb) (Ed.rising_le ds) hdn
    rw [contains_rising] at this
    exact this
  have CL := keep (mclone_any ao n c es W3 (SRC.out.below metaKind_ok B3.out) hn)
  go_wp2_with fail
  refine CL.out.mono ?_
  rintro e w4 ⟨v4, rfl, ho4, hb4⟩
  have B4 := keep hb4
  have E4 := keep (B3.out.trans (hb4.mono B3.out.size))
  have HL := keep SRC.out.len
  rcases ho4.2 with ⟨rfl, hz⟩ | ⟨g, cap, cur, rfl, _⟩
  · subst hz
    have hes : es = [] := List.length_eq_zero_iff.1 HL.out
    subst hes
    have DN := keep (mdelete_none w2.heap.size _ W3 TL.out none 0 w4 (fun _ => rfl) B4.out)
    clear ho4 hb4 CL hW3
    go_wp2_with fail
    refine DN.out.mono ?_
    rintro e w5 ⟨rfl, hb5⟩
    have B5 := keep (E4.out.trans (hb5.mono E4.out.size))
    clear hb5
    go_wp2
    go_ret
    exact ⟨_, _, _, rfl, RSrc.empty (fun _ => rfl), fun ad e => (by cases e), B5.out⟩
  · obtain ⟨rg, hg1, hg2⟩ := RowG.of ho4 HL.out
    have DN := keep (mdelete_any w2.heap.size _ W3 TL.out g n cap es w4 rg HL.out hg1 (fun y hy => (SRC.out.below metaKind_ok B3.out).held y hy) hn B4.out)
    clear ho4 hb4 CL rg hg1 hg2 hW3
    go_wp2_with fail
    refine DN.out.mono ?_
    rintro e w5 ⟨ao5, k5, c5, rfl, hs5, hf5, hb5⟩
    have S5 := keep hs5
    have F5 : Hid (∀ ad, ao5 = some ad → w.heap.size ≤ ad.block) := fun ad e => Nat.le_trans B3.out.size (hf5 ad e)
    have B5 := keep (B3.out.trans (hb5.mono B3.out.size))
    clear hb5 hs5 hf5
    go_wp2
    go_ret
    exact ⟨_, _, _, rfl, S5.out, F5.out, B5.out⟩
theorem run_append_zerosM {P : Program} (w : World) (t tI ty e : TypeId) (i : TypeInfo) (z : Value) (ht : P.underlying t = some (.slice e)) (hI : P.underlying tI = some (.int .i64)) (hi : P.info? e = some i) (hz : i.zero = some z) (hz1 : i.size = 5) (hz2 : i.bytes = 72) (n : Nat) (h0 : 0 < n) (hn : n ≤ 1048576) :
    (Builtin.append_ #[t, tI] ty #[.slice none 0 0, .int .i64 (n : Int)]).run P w = .ok (.slice (some ⟨w.heap.size, 0, none⟩) n (grownCap w n 0 e)) (w.drew.alloc (.cells (Builtin.zeroCells z.cells n ++ Builtin.zeroCells z.cells (grownCap w n 0 e - n)) e)) := by
  have h2 : ¬ (9223372036854775807 < (n : Int)) := by omega
  have h3 : Builtin.nextslicecap n 0 = n := by unfold Builtin.nextslicecap; rw [if_pos (by omega)]
  have h4 : ¬ (281474976710656 < n * 72) := by omega
  have h5 : IntKind.i64.wrap (n : Int) = (n : Int) := wrap_small _ (by omega) (by omega)
  have h6 : ¬ ((n : Int) < 0) := by omega
  have h8 : ¬ n = 0 := by omega
  have h9 : ¬ n * 5 = 0 := by omega
  have h10 : ¬ (281474976710656 < (n : Int) * 72) := by omega
  simp [Builtin.append_, run_underlying ht, run_underlying hI, sizeOf, typeInfo, zeroValue, hi, hz, hz1, hz2, asInt, asIntOf, h2, h3, h4, h5, h6, h8, h9, h10, Int.max_eq_left (show (0 : Int) ≤ (n : Int) by omega), Question.forced, Builtin.firstCells, newRow, grownCap, Value.cells]
theorem wpList_append_zerosM {P : Program} {w : World} {ops : Array Oper} {rest : List Oper} {o : Oper} {a : Act} {Q : Exit → Act → World → Prop} (hgd : o.guard = none) (s x : Operand) (t tI e : TypeId)
    (ho : o.op = .call { callee := .builtin .append, args := #[s, x], argTypes := #[t, tI] })
    (i : TypeInfo) (z : Value) (ht : P.underlying t = some (.slice e)) (hI : P.underlying tI = some (.int .i64)) (hi : P.info? e = some i) (hz : i.zero = some z) (hz1 : i.size = 5) (hz2 : i.bytes = 72) (hz5 : z.cells.size = 5) (n : Nat) (h0 : 0 < n) (hn : n ≤ 1048576)
    (hs : a.eval s = .slice none 0 0) (hx : a.eval x = .int .i64 (n : Int))
    (h : ∀ g cap w', n ≤ cap → w'.ownsRow w.heap.size e 5 (.slice (some ⟨g, 0, none⟩) 0 cap) 0 [] → Below w.heap.size w w' → wpList P ops Q rest (a.put o.dst (.slice (some ⟨g, 0, none⟩) n cap)) w') : wpList P ops Q (o :: rest) a w := by
  refine wpList_plain hgd fun K hK => ?_
  have hrun := run_append_zerosM w t tI o.type e i z ht hI hi hz hz1 hz2 n h0 hn
  unfold Oper.wp
  simp [execOp, ho, resolve, invoke, builtin, hs, hx, hrun, Result.andThen]
  refine hK _ _ (h _ _ _ (grownCap_ge _ _ _ _) ?_ ((Below.refl _ _).drew.alloc (Nat.le_refl _) _))
  refine ⟨rfl, .inr ⟨_, _, _, rfl, Nat.le_refl _, heap_alloc_new w.drew _, Nat.zero_le _, grownCap_le_maxLen _ _ _ _ (by unfold maxLen; omega), ?_, by simp⟩⟩
  have := grownCap_ge w n 0 e
  simp [Builtin.zeroCells, hz5]
  omega
set_option maxHeartbeats 2000000 in
set_option maxRecDepth 100000 in
theorem mgrow_any (n : Nat) (w : World) (hn : n ≤ 1048576) :
    Calls Tryz.prog 47 #[.slice none 0 0, .int .i64 (n : Int)] w fun e w' => ∃ v, e = .returned v ∧ w'.ownsRow w.heap.size 39 5 v 0 [] ∧ Below w.heap.size w w' := by
  obtain ⟨i0, hi0, hz0, hz1, hz2⟩ := info_partsM infoMeta
  rcases Nat.eq_zero_or_pos n with h0 | h0
  · subst h0
    go_enter Tryz.func47, Tryz.ntmps47
    go_wp2
    go_ret
    exact ⟨_, rfl, World.ownsRow_nil _ _ _ _, Below.refl _ _⟩
  · have hn1 : ¬ (n : Int) < 0 := by omega
    have hn2 : (0 : Int) < (n : Int) := by omega
    have hn3 : (n : Int) ≤ 140737488355328 := by omega
    go_enter Tryz.func47, Tryz.ntmps47
    go_wp2_with (at_builtin; refine wpList_append_zerosM rfl _ _ 24 3 39 rfl i0 _ Tryz.underlying24 Tryz.underlying3 hi0 hz0 hz1 hz2 rfl n h0 hn rfl rfl ?_; intro g cap w1 hc ho hb; have hc0 : (0 : Int) ≤ (cap : Int) := (by omega); have HO := keep ho; have HB := keep hb; clear ho hb)
    go_ret
    exact ⟨_, rfl, HO.out, HB.out⟩
set_option maxHeartbeats 4000000 in
set_option maxRecDepth 100000 in
theorem mconcat_any (Bx : Nat) (ao : Option Addr) (m c : Nat) (es : List MV) (ao2 : Option Addr) (m2 c2 : Nat) (es2 : List MV) (w : World) (hm : m + m2 ≤ 1048576)
    (k0 : w.cell? ⟨Bx, 0, none⟩ = some (.slice ao m c)) (k1 : w.cell? ⟨Bx, 1, none⟩ = some (.slice ao2 m2 c2)) (hs : RSrc metaKind w ao m c es) (hs2 : RSrc metaKind w ao2 m2 c2 es2) :
    Calls Tryz.prog 24 #[.slice (some ⟨Bx, 0, none⟩) 2 2] w fun e w' => ∃ v, e = .returned v ∧ w'.ownsRow w.heap.size 39 5 v (m + m2) (rv metaKind (es ++ es2)) ∧ Below w.heap.size w w' := by
  obtain ⟨i0, hi0, hz0, hz1, hz2⟩ := info_partsM infoMeta
  have HS := keep hs
  have HS2 := keep hs2
  clear hs hs2
  have hm1 : (m : Int) ≤ 1048576 := by omega
  have hm2 : (m2 : Int) ≤ 1048576 := by omega
  have n1 : ¬ ((m : Int) < 0) := by omega
  have n2 : ¬ ((m : Int) + (m2 : Int) < 0) := by omega
  have e1 : (m : Int) + (m2 : Int) = ((m + m2 : Nat) : Int) := by omega
  have HG := keep (mgrow_any (m + m2) w hm)
  rw [← e1] at HG
  clear e1
  go_enter Tryz.func24, Tryz.ntmps24
  go_wp2
  refine wp_loop_rounds 3 ?_
  rw [rounds_succ]
  go_wp2
  rw [rounds_succ]
  go_wp2
  rw [rounds_succ]
  go_wp2_with fail
  refine HG.out.mono ?_
  rintro e w1 ⟨v1, rfl, ho, hb⟩
  have O1 := keep ho
  have B1 := keep hb
  clear ho hb
  have q0 : w1.cell? ⟨Bx, 0, none⟩ = some (.slice ao m c) := belowE B1.out k0
  have q1 : w1.cell? ⟨Bx, 1, none⟩ = some (.slice ao2 m2 c2) := belowE B1.out k1
  have S1 := keep (HS.out.below metaKind_ok B1.out)
  go_wp2
  refine wp_loop_rounds 3 ?_
  rw [rounds_succ]
  go_wp2_with (at_builtin; refine wpList_append_rowsM rfl _ _ 24 39 rfl w.heap.size i0 _ 5 72 Tryz.underlying24 hi0 hz0 hz1 hz2 rfl (by decide) _ 0 [] rfl O1.out _ m c (rv metaKind es) rfl S1.out.nil (by rw [rv_length metaKind_ok, S1.out.len]; rfl) S1.out.cells (rv_one metaKind_ok es) (by unfold maxLen; omega) (by omega) B1.out.size ?_; intro v2 w2 ho2 hg2; have O2 := keep ho2; have B2 := keep (B1.out.grown hg2 B1.out.size (fun j hj => (O1.out.lt j hj).1)); clear ho2 hg2)
  rw [Nat.zero_add, List.nil_append] at O2
  have p1 : w2.cell? ⟨Bx, 1, none⟩ = some (.slice ao2 m2 c2) := belowE B2.out k1
  have S2 := keep (HS2.out.below metaKind_ok B2.out)
  clear q0 q1
  rw [rounds_succ]
  go_wp2_with (at_builtin; refine wpList_append_rowsM rfl _ _ 24 39 rfl w.heap.size i0 _ 5 72 Tryz.underlying24 hi0 hz0 hz1 hz2 rfl (by decide) _ m _ rfl O2.out _ m2 c2 (rv metaKind es2) rfl S2.out.nil (by rw [rv_length metaKind_ok, S2.out.len]; rfl) S2.out.cells (rv_one metaKind_ok es2) (by unfold maxLen; omega) (by omega) B2.out.size ?_; intro v3 w3 ho3 hg3; have O3 := keep ho3; have B3 := keep (B2.out.grown hg3 B2.out.size (fun j hj => (O2.out.lt j hj).1)); clear ho3 hg3)
  rw [← rv_append] at O3
  rw [rounds_succ]
  go_wp2
  go_ret
  exact ⟨_, rfl, O3.out, B3.out⟩
end Go.Proofs.YthaiodajfmbeaaaGreat
