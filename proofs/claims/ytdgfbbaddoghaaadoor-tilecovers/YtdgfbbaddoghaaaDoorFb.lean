/- The walks of slices.Backward, its iterator, and of the program's Fold. -/
import Derived.Test.YtdgfbbaddoghaaaDoorUc
import Derived.Test.YtdgfbbaddoghaaaDoorVz
import Derived.Test.YtdgfbbaddoghaaaDoorPc
namespace Go.Proofs.YtdgfbbaddoghaaaDoor
open Go.RowKit Go.Shelf
attribute [local go_sem] Oper.semAt_some

set_option maxHeartbeats 1000000 in
set_option maxRecDepth 100000 in
theorem backward_any (ao : Option Addr) (n c : Nat) (w : World) :
    Calls Tryd.prog 18 #[.slice ao n c] w fun e w' => e = .returned (.func (.func 35) #[] #[.pointer (some ⟨w.heap.size, 0, none⟩)]) ∧ w' = w.alloc (.cells #[.slice ao n c] 22) := by
  go_enter Tryd.func18, Tryd.ntmps18
  go_wp2
  go_ret
  exact ⟨rfl, rfl⟩
/-- The node that the x-th round hands on. -/
def bk (es : List (List UInt8)) (n x : Nat) : List UInt8 := es.getD (n - 1 - x) []
set_option maxHeartbeats 4000000 in
set_option maxRecDepth 100000 in
theorem backward1_in (nn : Nat) (hn : 1 ≤ nn) (l Bs R : Nat) (ao : Option Addr) (n c : Nat) (es : List (List UInt8)) (hnb : n ≤ 1099511627776) (hBR : Bs ≠ R) (hrow : ∀ ad, ao = some ad → ad.block ≠ R) (J Jx : List Nat → World → Prop) (W : World)
    (hY : ∀ pre x W1, J pre W1 → pre.length < n → YieldAt Fence.wide (nn - 1) Tryd.prog l #[.int .i64 ((n - 1 - x : Nat) : Int), .string ⟨(bk es n x).toArray⟩] W1 fun e W' =>
      (e = .returned (.bool true) ∧ J (pre ++ [x]) W' ∧ KpN R W1 W') ∨ (e = .returned (.bool false) ∧ Jx (pre ++ [x]) W'))
    (hBs : W.cell? ⟨Bs, 0, none⟩ = some (.slice ao n c)) (hsrc : RSrc strKind W ao n c es) (h0 : J [] W) :
    CallsIn Fence.wide nn Tryd.prog 35 #[.func (.yield l) #[] #[], .pointer (some ⟨Bs, 0, none⟩)] W fun e W' => (∃ v, e = .returned v) ∧
      ((∃ ys, ys = List.range n ∧ J ys W') ∨ (∃ pre, (∃ k, k ≤ n ∧ pre = List.range k) ∧ Jx pre W')) := by
  have HY := keep hY
  have H0 := keep h0
  have SR := keep hsrc
  have HROW := keep hrow
  clear hY h0 hsrc hrow
  refine callsIn_of_wp Tryd.func35 rfl trivial ?_ rfl
  simp only [Tryd.ntmps35, List.size_toArray, List.length_cons, List.length_nil, Nat.reduceAdd, Nat.reduceSub, Array.replicate_succ, Array.replicate_zero, List.push_toArray, List.append_toArray, List.nil_append, List.cons_append]
  gi_wp2
  gi_loopw [3] (fun i wr => ∃ k : Nat, k ≤ n ∧ i = .int .i64 ((n : Int) - 1 - (k : Int)) ∧ wr.cell? ⟨Bs, 0, none⟩ = some (.slice ao n c) ∧ Hid (RSrc strKind wr ao n c es) ∧ Hid (J (List.range k) wr)) (fun i _ => (intOf i + 1).toNat)
  case atStart => exact ⟨0, by omega, by first | rfl | go_num, hBs, SR, H0⟩
  case round =>
    clear hBs H0 SR
    obtain ⟨k, hk, rfl, hBs, hS, hJk⟩ := hrel
    by_cases hlt : k < n
    · obtain ⟨b, off, rfl, _, hcell⟩ := strs_at hS.out (by omega)
      obtain ⟨fn, tmps, assign, body, hy, hR⟩ := HY.out _ k wr hJk.out (by rw [List.length_range]; omega)
      obtain ⟨q, hq⟩ : ∃ q, n - 1 - k = q := ⟨_, rfl⟩
      have e1 : (n : Int) - 1 - (k : Int) = (q : Int) := by omega
      have hlen := hS.out.len
      have hqs : es[q]? = some (es.getD q []) := by rw [List.getD_eq_getElem?_getD, List.getElem?_eq_getElem (by omega)]; rfl
      have ck := hcell q _ hqs
      have hbk : bk es n k = es.getD q [] := by unfold bk; rw [hq]
      rw [hbk, hq] at hy
      obtain ⟨Z, hZ⟩ : ∃ Z, es.getD q [] = Z := ⟨_, rfl⟩
      rw [hZ] at ck hy
      rw [e1]
      have ll : (q : Int) < (n : Int) := by omega
      have ll0 : (0 : Int) ≤ (q : Int) := by omega
      have e2 : (q : Int) - 1 = (n : Int) - 1 - ((k + 1 : Nat) : Int) := by omega
      have E2 := keep e2
      have hqm : q + 1 ≤ n := by omega
      have hkq : Hid (q + 1 = n - k) := by show _ = _; omega
      clear hZ hqs hbk hq e1 hlen hcell e2
      gi_wp2_with fail
      refine hR.mono ?_
      rintro e W3 (⟨rfl, hJ3, hk3⟩ | ⟨rfl, hJx3⟩)
      · have hJ4 : Hid (J (List.range (k + 1)) W3) := by show J _ _; rw [List.range_succ]; exact hJ3
        have hS4 : Hid (RSrc strKind W3 (some ⟨b, off, none⟩) n c es) := hk3.src hS.out HROW.out
        have hB4 := hk3 ⟨Bs, 0, none⟩ _ hBR hBs
        clear hJ3 hk3 hJk ck hS hBs
        gi_wp2
        go_roundw
        case rel => exact ⟨k + 1, by omega, by first | (rw [← E2.out]; done) | (rw [← E2.out]; go_num), hB4, hS4, hJ4⟩
        case measure => simp [intOf]
      · gi_wp2
        refine bodyPost_ret (results_none rfl _ _ _) rfl ?_
        exact ⟨⟨_, rfl⟩, .inr ⟨_, ⟨k + 1, by omega, List.range_succ.symm⟩, hJx3⟩⟩
    · obtain rfl : k = n := by omega
      have e1 : (k : Int) - 1 - (k : Int) = -1 := by omega
      rw [e1]
      gi_wp2
      go_end0
      exact ⟨⟨_, rfl⟩, .inl ⟨_, rfl, hJk.out⟩⟩
theorem backward_stops (nn : Nat) (hn : 1 ≤ nn) (Bs R : Nat) (ao : Option Addr) (n c : Nat) (es : List (List UInt8)) (hnb : n ≤ 1099511627776) (hBR : Bs ≠ R) (hrow : ∀ ad, ao = some ad → ad.block ≠ R) (w : World)
    (hBs : w.cell? ⟨Bs, 0, none⟩ = some (.slice ao n c)) (hsrc : RSrc strKind w ao n c es) :
    SeqStopsK Fence.wide nn Tryd.prog 35 #[.pointer (some ⟨Bs, 0, none⟩)] (fun x : Nat => #[.int .i64 ((n - 1 - x : Nat) : Int), .string ⟨(bk es n x).toArray⟩]) (KpN R) (fun ys => ys = List.range n) (fun pre => ∃ k, k ≤ n ∧ pre = List.range k) n w :=
  fun l J Jx W hW _ _ hY h0 => backward1_in nn hn l Bs R ao n c es hnb hBR hrow J Jx W hY (below_cell hW hBs) (hsrc.below strKind_ok hW) h0
/-- What the rounds make of the last node. -/
def fv (es : List (List UInt8)) (n : Nat) (z : List UInt8) (pre : List Nat) : List UInt8 := pre.foldl (fun r x => nodeL (bk es n x) r) z
theorem fv_snoc (es : List (List UInt8)) (n : Nat) (z : List UInt8) (pre : List Nat) (x : Nat) : fv es n z (pre ++ [x]) = nodeL (bk es n x) (fv es n z pre) := by
  unfold fv
  rw [List.foldl_append]
  rfl
theorem fv_short (es : List (List UInt8)) (n : Nat) (z : List UInt8) (hz : z.length ≤ 1099511627776) (pre : List Nat) : (fv es n z pre).length ≤ 1099511627776 := by
  rcases List.eq_nil_or_concat pre with rfl | ⟨l, x, rfl⟩
  · exact hz
  · rw [List.concat_eq_append, fv_snoc, nodeL_len]; decide
theorem fv_range {ps : List (List UInt8)} {n : Nat} {z : List UInt8} (hl : ps.length = n + 1) (hz : ps[n]? = some z) : ∀ k, k ≤ n → fv (ps.take n) n z (List.range k) = foldL (ps.drop (n - k))
  | 0, _ => by rw [Nat.sub_zero, foldL_last hz hl.symm]; rfl
  | k + 1, hk => by
    have hx : ps[n - (k + 1)]? = some (bk (ps.take n) n k) := by
      unfold bk
      rw [List.getD_eq_getElem?_getD, List.getElem?_take_of_lt (by omega), show n - 1 - k = n - (k + 1) by omega, List.getElem?_eq_getElem (by omega)]
      rfl
    rw [List.range_succ, fv_snoc, fv_range hl hz k (by omega), foldL_step hx (by omega), show n - (k + 1) + 1 = n - k by omega]
theorem set_farF {w : World} {g b : Nat} (i : Nat) (v : Value) (h : g ≠ b) : (w.setCell ⟨b, i, none⟩ v).heap[g]? = w.heap[g]? := Below.heap_setCell w ⟨b, i, none⟩ v g h
set_option maxHeartbeats 4000000 in
set_option maxRecDepth 100000 in
theorem fold_any (pp : Option Addr) (pm pc : Nat) (ps : List (List UInt8)) (w : World) (hL : Ld w) (hs : RSrc strKind w pp pm pc ps) (hl : ∀ e ∈ ps, e.length ≤ 1099511627776) (hm : pm ≤ 1099511627776) :
    Calls Tryd.prog 7 #[.slice pp pm pc] w fun e w' => e = .returned (.string ⟨(foldL ps).toArray⟩) ∧ Below w.heap.size w w' := by
  have HS := keep hs
  have HSL := keep hs.len
  have HLd := keep hL
  have G4 := keep hl
  clear hs hL hl
  by_cases h0 : pm = 0
  · subst h0
    have he : ps = [] := List.length_eq_zero_iff.1 HSL.out
    subst he
    rw [show foldL [] = rootL [] from rfl]
    have RR := keep (root_any 0 [] rfl none 0 w HLd.out (RSrc.empty (fun _ => rfl)) (fun e he => by cases he) (by decide))
    obtain ⟨X, hX⟩ : ∃ X, rootL [] = X := ⟨_, rfl⟩
    rw [hX] at RR ⊢
    clear hX hm
    go_enter Tryd.func7, Tryd.ntmps7
    go_wp2_with fail
    refine RR.out.mono ?_
    rintro e w3 ⟨rfl, hb3⟩
    have B3 := keep hb3
    clear hb3 RR
    go_wp2
    go_ret
    exact ⟨rfl, B3.out⟩
  · obtain ⟨b, off, rfl, hbw, hcell⟩ := strs_at HS.out (by omega)
    obtain ⟨q, hq⟩ : ∃ q, pm - 1 = q := ⟨_, rfl⟩
    obtain ⟨z, hz⟩ : ∃ z, ps[q]? = some z := ⟨ps[q]'(by rw [HSL.out]; omega), List.getElem?_eq_getElem _⟩
    have cz := hcell q z hz
    have zs := keep (G4.out z (List.mem_of_getElem? hz))
    have FR := keep (fv_range (n := q) (by rw [HSL.out]; omega) hz q (Nat.le_refl _))
    rw [Nat.sub_self, List.drop_zero] at FR
    have n0 : ((pm : Int) == 0) = false := by simp; omega
    have n1 : ¬ (pm : Int) = 0 := by omega
    have e1 : (pm : Int) - 1 = (q : Int) := by omega
    have q0 : (0 : Int) ≤ (q : Int) := by omega
    have q1 : (q : Int) < (pm : Int) := by omega
    have hcap := HS.out.cap
    have q2 : (q : Int) ≤ (pc : Int) := by omega
    have hqp : q < pm := by omega
    obtain ⟨X, hX⟩ : ∃ X, foldL ps = X := ⟨_, rfl⟩
    rw [hX] at FR ⊢
    clear hcell hz hq h0 hX
    rw [← callsIn_wide (n := 8)]
    refine callsIn_of_wp_marks Tryd.func7 rfl trivial ?_ rfl
    simp only [Tryd.ntmps7, List.size_toArray, List.length_cons, List.length_nil, Nat.reduceAdd, Nat.reduceSub, Array.replicate_succ, Array.replicate_zero, List.push_toArray, List.append_toArray, List.nil_append, List.cons_append]
    obtain ⟨W3, hW3⟩ : ∃ Wn, w.alloc (.cells #[.string ⟨z.toArray⟩] 9) = Wn := ⟨_, rfl⟩
    have bb3 : Hid (Below w.heap.size w W3) := by rw [← hW3]; exact (Below.refl _ _).alloc (Nat.le_refl _) _
    have s3 : Hid (W3.heap.size = w.heap.size + 1) := by show _ = _; rw [← hW3, alloc_size]
    have x3 : Hid (Boxed W3 w.heap.size 9 (.string ⟨z.toArray⟩)) := by rw [← hW3]; exact Boxed.new _ _ _
    gi_wp2_with fail
    refine ⟨trivial, ?_⟩
    refine (callsIn_wide.2 (backward_any (some ⟨b, off, none⟩) q pc W3)).mono ?_
    rintro e w4 ⟨rfl, hw4⟩
    have b4 : Hid (Below W3.heap.size W3 w4) := by rw [hw4]; exact (Below.refl _ _).alloc (Nat.le_refl _) _
    have s4 : Hid (w4.heap.size = w.heap.size + 2) := by show _ = _; rw [hw4, alloc_size, s3.out]
    have q4 : Hid (w4.cell? ⟨W3.heap.size, 0, none⟩ = some (.slice (some ⟨b, off, none⟩) q pc)) := by rw [hw4]; exact cell_of_row _ _ _ _ _ _ (heap_alloc_new W3 _)
    have x4 : Hid (Boxed w4 w.heap.size 9 (.string ⟨z.toArray⟩)) := (b4.out.block _ (by rw [s3.out]; omega)).trans x3.out
    have B4 := keep (bb3.out.trans (b4.out.mono bb3.out.size))
    have S4 : Hid (RSrc strKind w4 (some ⟨b, off, none⟩) q pc (ps.take q)) := (HS.out.below strKind_ok B4.out).head strKind_ok q (by omega)
    clear hw4 hW3 cz
    gi_wp2_with fail
    refine wpIn_rangeFunc_ownG (α := Nat) (F := Fence.wide) rfl (by decide) (gf := 35) (lb := #[.pointer (some ⟨W3.heap.size, 0, none⟩)]) rfl trivial (enters_of Tryd.func35 (by kernel_rfl) rfl)
      (backward_stops 7 (by decide) W3.heap.size w.heap.size (some ⟨b, off, none⟩) q pc (ps.take q) (by omega) (by rw [s3.out]; omega) (fun ad e => by cases e; show b ≠ _; omega) w4 q4.out S4.out) KpN.t KpN.b (Below.refl _ _) (fun _ => rfl)
      (fun pre W => Boxed W w.heap.size 9 (.string ⟨(fv (ps.take q) q z pre).toArray⟩) ∧ Below w.heap.size w W)
      (fun _ _ _ => False)
      (fun pre W W' row h hg hr => ⟨h.1.kept hg (fun e => by have := (hr _ e.symm).1; rw [s4.out] at this; omega), h.2.grown hg h.2.size (fun k e => by have h1 := (hr k e).1; rw [s4.out] at h1; omega)⟩)
      (fun c pre W W' row h hg hr => h)
      ⟨x4.out, B4.out⟩
      (fun x => { tmps := #[.slice (some ⟨b, off, none⟩) pm pc, undef, .string ⟨#[]⟩, .int .i64 (q : Int), .pointer (some ⟨w.heap.size, 0, none⟩), undef, .string ⟨(bk (ps.take q) q x).toArray⟩, .slice (some ⟨b, off, none⟩) pm pc, .int .i64 (pm : Int), .bool false, undef, .slice (some ⟨b, off, none⟩) pm pc, .int .i64 (pm : Int), .int .i64 (q : Int), .slice (some ⟨b, off, none⟩) pm pc, .int .i64 (q : Int), .pointer (some ⟨b, off + q, none⟩), .string ⟨z.toArray⟩, .slice (some ⟨b, off, none⟩) pm pc, .int .i64 (q : Int), .slice (some ⟨b, off, none⟩) q pc, .func (.func 35) #[] #[.pointer (some ⟨W3.heap.size, 0, none⟩)], .int .i64 ((q - 1 - x : Nat) : Int), .string ⟨(bk (ps.take q) q x).toArray⟩, undef, undef, undef, undef], defers := [] }) ?assign ?body ?done ?stop
    case assign =>
      intro l x W K hK
      gi_wp2
      exact hK
    case body =>
      rintro l pre x W ⟨hx, hb⟩ hlen
      have HX := keep hx
      have HB := keep hb
      have hcell := hx.cell
      have hbl : (bk (ps.take q) q x).length ≤ 1099511627776 := by
        unfold bk
        rw [List.getD_eq_getElem?_getD]
        cases hg : (ps.take q)[q - 1 - x]? with
        | none => exact Nat.zero_le _
        | some y => rw [Option.getD_some]; exact G4.out y (List.mem_of_mem_take (List.mem_of_getElem? hg))
      have hfl := fv_short (ps.take q) q z zs.out pre
      have FS := keep (fv_snoc (ps.take q) q z pre x)
      obtain ⟨Y, hY⟩ : ∃ Y, bk (ps.take q) q x = Y := ⟨_, rfl⟩
      obtain ⟨V, hV⟩ : ∃ V, fv (ps.take q) q z pre = V := ⟨_, rfl⟩
      rw [hY] at hbl FS ⊢
      rw [hV] at hfl FS HX hcell
      have ND := keep (node_any Y V W (by omega) (HLd.out.below HB.out))
      clear hx hb hY hV hlen
      gi_wp2_with fail
      refine ⟨trivial, ?_⟩
      refine (CallsIn.inRound l (callsIn_wide.2 ND.out)).mono ?_
      rintro e w5 ⟨rfl, hb5⟩
      have X5 : Hid (Boxed w5 w.heap.size 9 (.string ⟨V.toArray⟩)) := (hb5.block _ HX.out.lt).trans HX.out
      have c5 := X5.out.cell
      have f5 := X5.out.frozen
      have b5 := keep hb5
      clear hb5 hcell ND
      gi_wp2
      refine ⟨((keeps_below b5.out).from _).trans ((KeepsOthers.setCell _ _ _).from _), fun p v hp hv => ?_, ?_, ?_⟩
      · have h1 := below_cell b5.out hv
        have h2 : (w5.setCell ⟨w.heap.size, 0, none⟩ (.string ⟨(nodeL Y V).toArray⟩)).heap[p.block]? = w5.heap[p.block]? := set_farF 0 _ hp
        simp only [World.cell?, h2] at h1 ⊢
        exact h1
      · rw [FS.out]
        exact X5.out.set _
      · exact (HB.out.trans (b5.out.mono HB.out.size)).setCell (p := ⟨w.heap.size, 0, none⟩) (Nat.le_refl w.heap.size) _
    case done =>
      rintro D ys W hD rfl ⟨hx, hb⟩ hK
      rw [FR.out] at hx
      have hcell := hx.cell
      have HB := keep hb
      have HK := keep hK
      clear hb hK hx
      gi_wp2
      refine leaves_marks (B := w.heap.size) [D] _ ⟨by simp, fun x hx => ?_, fun x hx => ?_⟩ (fun W' hs => ⟨.string ⟨X.toArray⟩, ?_, ?_⟩)
      · rw [List.mem_singleton.1 hx]; exact Nat.le_trans B4.out.size hD
      · rw [List.mem_singleton.1 hx]; exact HK.out
      · simp [results, Tryd.f7, go_sem]
      · exact ⟨rfl, HB.out.trans (hs.below HB.out.size)⟩
    case stop =>
      rintro D c pre W hD _ h hK
      exact h.elim
end Go.Proofs.YtdgfbbaddoghaaaDoor
