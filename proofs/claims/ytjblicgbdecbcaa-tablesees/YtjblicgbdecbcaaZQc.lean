/- The walk of the iterator over a table's entries, its pieces asked already. -/
import Derived.Test.YtjblicgbdecbcaaZQb
import Derived.Test.YtjblicgbdecbcaaZB3j
namespace Go.Proofs.Ytjblicgbdecbcaa
open Go.RowKit Go.Shelf
open Sk (Ent)
attribute [local go_sem] Oper.semAt_some

/-- All entries, as they lie. -/
def evsD (ds : List DE) : List EV := ds.flatMap (·.ys)
def nthE (ds : List DE) (i : Nat) : EV := (evsD ds).getD i evZ
theorem evsD_take {ds : List DE} {k : Nat} {d : DE} (h : ds[k]? = some d) : evsD (ds.take (k + 1)) = evsD (ds.take k) ++ d.ys := by
  unfold evsD
  rw [List.take_add_one, h, List.flatMap_append]
  simp
theorem nthE_at {ds : List DE} {k j : Nat} {d : DE} {y : EV} (h : ds[k]? = some d) (hy : d.ys[j]? = some y) : nthE ds ((evsD (ds.take k)).length + j) = y := by
  have e2 : evsD ds = evsD (ds.take (k + 1)) ++ evsD (ds.drop (k + 1)) := by
    have h2 : evsD (ds.take (k + 1) ++ ds.drop (k + 1)) = evsD (ds.take (k + 1)) ++ evsD (ds.drop (k + 1)) := by unfold evsD; rw [List.flatMap_append]
    rwa [List.take_append_drop] at h2
  have hj := (List.getElem?_eq_some_iff.1 hy).1
  unfold nthE
  rw [e2, evsD_take h, List.getD_eq_getElem?_getD, List.getElem?_append_left (by rw [List.length_append]; omega), List.getElem?_append_right (by omega), Nat.add_sub_cancel_left, hy]
  rfl
theorem evsD_le (ds : List DE) (k : Nat) : (evsD (ds.take k)).length ≤ (evsD ds).length := by
  have h2 : evsD (ds.take k ++ ds.drop k) = evsD (ds.take k) ++ evsD (ds.drop k) := by unfold evsD; rw [List.flatMap_append]
  rw [List.take_append_drop] at h2
  rw [h2, List.length_append]
  omega
set_option maxHeartbeats 8000000 in
set_option maxRecDepth 100000 in
theorem each1_in (nn : Nat) (hn : 1 ≤ nn) (l Bt tb n0 : Nat) (ds : List DE) (Fl : List UInt8) (w : World) (hw : w.heap.size = n0) (hl : ds.length ≤ 64) (hds : ∀ d ∈ ds, d.ys.length ≤ 64) (J Jx : List Nat → World → Prop) (W : World) (hW : Below n0 w W)
    (hJ : AbidesFrom W.heap.size J)
    (hY : ∀ pre x W1, J pre W1 → pre.length < (evsD ds).length → YieldAt Fence.wide (nn - 1) Try.prog l #[ev (nthE ds x)] W1 fun e W' =>
      (e = .returned (.bool true) ∧ J (pre ++ [x]) W' ∧ Below n0 W1 W') ∨ (e = .returned (.bool false) ∧ Jx (pre ++ [x]) W'))
    (cB : W.cell? ⟨Bt, 0, none⟩ = some (.pointer (some ⟨tb, 0, none⟩))) (hT : TDone w tb ds Fl) (h0 : J [] W) :
    CallsIn Fence.wide nn Try.prog 58 #[.func (.yield l) #[] #[], .pointer (some ⟨Bt, 0, none⟩)] W fun e W' => (∃ v, e = .returned v) ∧
      ((∃ ys, ys = List.range (evsD ds).length ∧ J ys W') ∨ (∃ pre, (∃ k, k ≤ (evsD ds).length ∧ pre = List.range k) ∧ Jx pre W')) := by
  obtain ⟨pa, pc, fa, fc, h1, h2, _⟩ := hT.tab
  have TD := keep hT
  have PR := keep h2
  have HJ := keep hJ
  have HY := keep hY
  have H0 := keep h0
  have HW := keep hw
  have BW : Hid (Below w.heap.size w W) := by rw [hw]; exact hW
  have c0 : W.cell? ⟨tb, 0, none⟩ = some (.slice pa ds.length pc) := below_cell BW.out (cell_of_row _ _ _ _ _ _ h1)
  obtain ⟨N, hN⟩ : ∃ N, ds.length = N := ⟨_, rfl⟩
  have HN := keep hN
  rw [hN] at c0 PR hl
  clear hJ hY h0 hT h1 h2 hN hw hW
  refine callsIn_of_wp Try.func58 rfl trivial ?_ rfl
  simp only [Try.ntmps58, List.size_toArray, List.length_cons, List.length_nil, Nat.reduceAdd, Nat.reduceSub, Array.replicate_succ, Array.replicate_zero, List.push_toArray, List.append_toArray, List.nil_append, List.cons_append]
  gi_wp2
  gi_loopw [14] (fun i wr => ∃ k : Nat, k ≤ N ∧ i = .int .i64 (k : Int) ∧ Hid (Below w.heap.size w wr ∧ W.heap.size ≤ wr.heap.size ∧ J (List.range (evsD (ds.take k)).length) wr)) (fun i _ => N - (intOf i).toNat)
  case atStart => exact ⟨0, by omega, rfl, BW.out, Nat.le_refl _, H0.out⟩
  case round =>
    clear c0 cB H0
    obtain ⟨k, hk, rfl, hI⟩ := hrel
    by_cases hkn : k < N
    · obtain ⟨pb, po, rfl, _, _⟩ := PR.out.form ptrKind_ok (by omega)
      obtain ⟨d, hd⟩ : ∃ d, ds[k]? = some d := ⟨ds[k]'(by rw [HN.out]; exact hkn), List.getElem?_eq_getElem _⟩
      have p0 : wr.cell? ⟨pb, po + k, none⟩ = some (.pointer (some ⟨d.blk, 0, none⟩)) := ptr_cell (PR.out.below ptrKind_ok hI.out.1) (i := k) (by rw [List.getElem?_map, hd]; rfl)
      have PD := keep (TD.out.each d (List.mem_of_getElem? hd))
      have hdl := hds d (List.mem_of_getElem? hd)
      have HD := keep hd
      have LI := keep (list_again d.blk d.ea d.ys.length d.ec wr (PD.out.below hI.out.1).row)
      have j0 : (0 : Int) ≤ (k : Int) := by omega
      have ll : (k : Int) < (N : Int) := by omega
      have OT : Hid ((evsD (ds.take (k + 1))).length = (evsD (ds.take k)).length + d.ys.length) := by show _ = _; rw [evsD_take hd, List.length_append]
      have LE := keep (evsD_le ds (k + 1))
      obtain ⟨O, hO⟩ : ∃ O, (evsD (ds.take k)).length = O := ⟨_, rfl⟩
      have HO := keep hO
      rw [hO] at OT hI
      clear hd hO
      gi_wp2_with fail
      refine ⟨trivial, ?_⟩
      refine (callsIn_wide.2 LI.out).mono ?_
      rintro e w2 ⟨rfl, hb2⟩
      have J2 := keep (HJ.out _ wr w2 none hI.out.2.2 (grown_of_below hb2) (fun r e => by cases e))
      have B2 := keep (hI.out.1.trans (hb2.mono hI.out.1.size))
      have S2 : Hid (W.heap.size ≤ w2.heap.size) := Nat.le_trans hI.out.2.1 hb2.size
      clear hb2 hI LI p0
      obtain ⟨M, hM⟩ : ∃ M, d.ys.length = M := ⟨_, rfl⟩
      have HM := keep hM
      rw [hM] at OT hdl ⊢
      clear hM
      gi_wp2
      gi_loopw [21] (fun i wr => ∃ j : Nat, j ≤ M ∧ i = .int .i64 (j : Int) ∧ Hid (Below w.heap.size w wr ∧ W.heap.size ≤ wr.heap.size ∧ J (List.range (O + j)) wr)) (fun i _ => M - (intOf i).toNat)
      case atStart => exact ⟨0, by omega, rfl, B2.out, S2.out, J2.out⟩
      case round =>
        clear J2 B2 S2
        obtain ⟨j, hj, rfl, hI⟩ := hrel
        by_cases hjm : j < M
        · have ER := keep (PD.out.ents.below entKind_ok hI.out.1)
          obtain ⟨eb, eo, hea, _, _⟩ := ER.out.form entKind_ok (by rw [HM.out]; omega)
          obtain ⟨y, hy⟩ : ∃ y, d.ys[j]? = some y := ⟨d.ys[j]'(by rw [HM.out]; exact hjm), List.getElem?_eq_getElem _⟩
          rw [hea] at ER
          obtain ⟨q0, q1, q2, q3⟩ := ent_cells ER.out hy
          have NT := keep (nthE_at HD.out hy)
          rw [HO.out] at NT
          obtain ⟨W5, hW5⟩ : ∃ W5, wr.alloc (.cells #[.slice y.kp y.e.key.length y.kc, .int .i64 y.e.seq, .bool y.e.gone, .slice y.vp y.e.val.length y.vc] 32) = W5 := ⟨_, rfl⟩
          have b5 : Hid (Below wr.heap.size wr W5) := by rw [← hW5]; exact (Below.refl _ _).alloc (Nat.le_refl _) _
          have g5 : Hid (W5.heap[wr.heap.size]? = some (.cells #[.slice y.kp y.e.key.length y.kc, .int .i64 y.e.seq, .bool y.e.gone, .slice y.vp y.e.val.length y.vc] 32)) := by rw [← hW5]; exact heap_alloc_new wr _
          have r0 : W5.cell? ⟨wr.heap.size, 0, none⟩ = some (.slice y.kp y.e.key.length y.kc) := cell_of_row _ _ _ _ _ _ g5.out
          have r1 : W5.cell? ⟨wr.heap.size, 1, none⟩ = some (.int .i64 y.e.seq) := cell_of_row _ _ _ _ _ _ g5.out
          have r2 : W5.cell? ⟨wr.heap.size, 2, none⟩ = some (.bool y.e.gone) := cell_of_row _ _ _ _ _ _ g5.out
          have r3 : W5.cell? ⟨wr.heap.size, 3, none⟩ = some (.slice y.vp y.e.val.length y.vc) := cell_of_row _ _ _ _ _ _ g5.out
          have J5 := keep (HJ.out _ wr W5 none hI.out.2.2 (grown_of_below b5.out) (fun r e => by cases e))
          have B5 := keep (hI.out.1.trans (b5.out.mono hI.out.1.size))
          have S5 : Hid (W.heap.size ≤ W5.heap.size) := Nat.le_trans hI.out.2.1 b5.out.size
          obtain ⟨fn, tmps, assign, body, hyl, hR⟩ := HY.out _ (O + j) W5 J5.out (by rw [List.length_range]; have := LE.out; have := OT.out; omega)
          rw [NT.out] at hyl
          unfold ev at hyl
          have jj0 : (0 : Int) ≤ (j : Int) := by omega
          have jll : (j : Int) < (M : Int) := by omega
          rw [hea]
          clear hI hy hea
          gi_wp2
          refine hR.mono ?_
          rintro e W3 (⟨rfl, hJ3, hk3⟩ | ⟨rfl, hJx3⟩)
          · have I3 : Hid (Below w.heap.size w W3 ∧ W.heap.size ≤ W3.heap.size ∧ J (List.range (O + (j + 1))) W3) := ⟨B5.out.trans (by rw [HW.out]; exact hk3), Nat.le_trans S5.out hk3.size, by rw [show O + (j + 1) = (O + j) + 1 by omega, List.range_succ]; exact hJ3⟩
            clear hJ3 hk3
            gi_wp2
            go_roundw
            case rel => exact ⟨j + 1, by omega, by first | rfl | go_num, I3.out⟩
            case measure => simp [intOf]; omega
          · gi_wp2
            refine bodyPost_ret (results_none rfl _ _ _) rfl ?_
            exact ⟨⟨_, rfl⟩, .inr ⟨_, ⟨O + j + 1, by have := LE.out; have := OT.out; omega, List.range_succ.symm⟩, hJx3⟩⟩
        · obtain rfl : j = M := by omega
          have jll : ¬ (j : Int) < (j : Int) := by omega
          gi_wp2
          go_roundw
          case rel => exact ⟨k + 1, by omega, by first | rfl | go_num, by rw [OT.out]; exact hI.out⟩
          case measure => simp [intOf]; omega
    · obtain rfl : k = N := by omega
      have ll : ¬ (k : Int) < (k : Int) := by omega
      have EN : Hid (J (List.range (evsD ds).length) wr) := by
        have := hI.out.2.2
        rw [List.take_of_length_le (by rw [HN.out]; exact Nat.le_refl _)] at this
        exact this
      gi_wp2
      go_end0
      exact ⟨⟨_, rfl⟩, .inl EN.out⟩
theorem each_stops (nn : Nat) (hn : 1 ≤ nn) (Bt tb n0 : Nat) (ds : List DE) (Fl : List UInt8) (w w9 : World) (hw : w.heap.size = n0) (hb : Below n0 w w9) (hl : ds.length ≤ 64) (hds : ∀ d ∈ ds, d.ys.length ≤ 64) (hT : TDone w tb ds Fl)
    (hBt : w9.cell? ⟨Bt, 0, none⟩ = some (.pointer (some ⟨tb, 0, none⟩))) :
    SeqStopsK Fence.wide nn Try.prog 58 #[.pointer (some ⟨Bt, 0, none⟩)] (fun i : Nat => #[ev (nthE ds i)]) (Below n0) (fun ys => ys = List.range (evsD ds).length) (fun pre => ∃ k, k ≤ (evsD ds).length ∧ pre = List.range k) (evsD ds).length w9 :=
  fun l J Jx W hW hJ _ hY h0 => each1_in nn hn l Bt tb n0 ds Fl w hw hl hds J Jx W (hb.trans (hW.mono (by rw [← hw]; have := hb.size; omega))) hJ hY (belowc hW hBt) hT h0
set_option maxHeartbeats 1000000 in
set_option maxRecDepth 100000 in
theorem each_any (tb : Nat) (w : World) : Calls Try.prog 35 #[.pointer (some ⟨tb, 0, none⟩)] w fun e w' => e = .returned (.func (.func 58) #[] #[.pointer (some ⟨w.heap.size, 0, none⟩)]) ∧ w' = w.alloc (.cells #[.pointer (some ⟨tb, 0, none⟩)] 28) := by
  have hmf : ∀ (fn : Fn) (first cap : Array Value) (w : World), (Instr.makeFunc fn first cap).run Try.prog w = .ok (.func fn first cap) w := fun _ _ _ _ => rfl
  go_enter Try.func35, Try.ntmps35
  go_wp2
  go_ret
  exact ⟨rfl, rfl⟩
end Go.Proofs.Ytjblicgbdecbcaa
