/- RowsSigns proved whole: a head's code hangs on the tree's number and key, and on the head's size, tick, epoch and root, and on nothing else. Its condition: the eight package variables on its road hold what their initialisers lay (the card ties them to the program's text). -/
import Derived.Test.YtogphpejdnhnjaaGreatDoorJoinEdz
import Derived.Test.YtogphpejdnhnjaaGreatDoorJoinEed
import Derived.Test.YtogphpejdnhnjaaGreatDoorJs1
import Derived.Test.YtogphpejdnhnjaaGreatDoorJs2
import Derived.Test.YtogphpejdnhnjaaGreatDoorJs3
import Derived.Test.YtogphpejdnhnjaaGreatDoorJs4
import Derived.Test.YtogphpejdnhnjaaGreatDoorJs5
import Derived.Test.YtogphpejdnhnjaaGreatDoorJs6
import Derived.Test.YtogphpejdnhnjaaGreatDoorJs7
import Derived.Test.YtogphpejdnhnjaaGreatDoorJs8
import Derived.Test.YtogphpejdnhnjaaGreatDoorJs9
import Derived.Test.YtogphpejdnhnjaaGreatDoorJsa
import Derived.Test.YtogphpejdnhnjaaGreatDoorEec
namespace Go.Proofs.YtogphpejdnhnjaaGreatDoor.rowsSigns
open Go.ChangeShapes Go.WideShapes Go.ChangeAt Go.RowKit

set_option maxRecDepth 100000 in
theorem contract (H : Type) (enc : TypeId × Value → H) (W : World) (base : Nat) (args : Array Value) (ds gs : List (DataW H)) (before : List MemPlace)
    (hval : ∀ (j : Nat) t v, Tryz.f3.params[j]? = some t → args[j]? = some v → Value.okWide Tryz.prog W .any base t v)
    (hW : DataW.Whole enc Tryz.prog Tryz.f3.params.toList Rows.rowsSignsSpec.vars false W args.toList ds gs before)
    (hsz : (DataW.weightsEach Tryz.prog (Tryz.f3.params.toList ++ Rows.rowsSignsSpec.plain.varTypes Tryz.prog) (ds ++ gs)).all (· ≤ reachBytes) = true) (hL : laidMetH Tryz.prog Rows.rowsSignsRow.laid W) :
    Calls Tryz.prog 3 args W fun e W' => ∃ v, e = .returned v ∧ Rows.rowsSignsSpec.post enc Tryz.prog Tryz.f3 false true false false W args v W' := by
  have hW' := hW
  obtain ⟨p, q, hA0, hV, rfl, hfz, hnd⟩ := hW
  have hA : DataW.TrodAll enc Tryz.prog W 0 (fun _ => true) true Tryz.f3.params.toList args.toList ds p := hA0
  rw [Tryz.params3] at hA hval hsz
  obtain ⟨v0, vs0, d0, ds0, p0, q0, hargs, rfl, rfl, h0, r0⟩ := trodAll_cons hA
  obtain ⟨v1, vs1, d1, ds1, p1, q1, rfl, rfl, rfl, h1, r1⟩ := trodAll_cons r0
  obtain ⟨v2, vs2, d2, ds2, p2, q2, rfl, rfl, rfl, h2, r2⟩ := trodAll_cons r1
  obtain ⟨v3, vs3, d3, ds3, p3, q3, rfl, rfl, rfl, h3, r3⟩ := trodAll_cons r2
  obtain ⟨rfl, rfl, rfl⟩ := trodAll_nil r3
  obtain rfl : args = #[v0, v1, v2, v3] := by cases args; simp_all
  obtain ⟨rfl, rfl⟩ := trodVars_none hV
  have lt0 : ∀ x ∈ p0, x.block < W.heap.size := by obtain ⟨m, hm⟩ := h0; exact DataW.trod_lt m _ _ _ hm
  have lt1 : ∀ x ∈ p1, x.block < W.heap.size := by obtain ⟨m, hm⟩ := h1; exact DataW.trod_lt m _ _ _ hm
  have lt3 : ∀ x ∈ p3, x.block < W.heap.size := by obtain ⟨m, hm⟩ := h3; exact DataW.trod_lt m _ _ _ hm
  obtain ⟨i0, s0, q9, nm, key, rfl, k0⟩ := open_tree hsz (j := 0) rfl rfl h0
  obtain ⟨sz, tk, ep, rt, sg, na, nn, nc, rfl, k1⟩ := open_head hsz (j := 1) rfl rfl h1
  obtain ⟨n2, rfl, rfl, rfl, f2⟩ := open_int Tryz.underlying3 (hval 2 3 v2 rfl rfl) h2
  obtain ⟨pa, pn, pc, rfl⟩ := okWide_slice Tryz.underlying24 (hval 3 24 v3 rfl rfl)
  clear hA0
  obtain ⟨hT, ⟨eb, hE⟩, hS, hF⟩ := all_of_laid hL
  refine (signs_walk i0 s0 q9 nm key sz tk ep rt sg na nn nc n2 pa pn pc eb W hT (size_of_tab hT) hE hS hF k0 k1).mono fun e W' ⟨he, bel⟩ => ?_
  subst he
  exact ⟨_, rfl, _, _, _, [], _, [], hW', trodAll_mk1 (shut_bool Tryz.underlying4 _), (trodAll_cons_mk (Below.trod laidOut (by kernel_rfl) (of_decide_eq_true (by kernel_rfl)) h0 bel lt0) (trodAll_cons_mk (Below.trod laidOut (by kernel_rfl) (of_decide_eq_true (by kernel_rfl)) h1 bel lt1) (trodAll_cons_mk (shut_int Tryz.underlying3 f2) (trodAll_cons_mk (Below.trod laidOut (by kernel_rfl) (of_decide_eq_true (by kernel_rfl)) h3 bel lt3) trodAll_mk0)))), rfl, bel.frame _, fun h => by cases h⟩

theorem reads (os : Os) {H : Type} (enc : TypeId × Value → H) : ∃ places, DataW.whole enc Tryz.prog ((Sha.laidIn (laidIn (World.holding Tryz.prog os ⟨#[.cells #[.string ⟨#[118, 97, 108, 117, 101, 32, 111, 117, 116, 32, 111, 102, 32, 114, 97, 110, 103, 101]⟩] 425, .cells #[.string ⟨#[105, 110, 118, 97, 108, 105, 100, 32, 115, 121, 110, 116, 97, 120]⟩] 425, .cells #[.string ⟨#[110, 111, 32, 107, 101, 121, 32, 105, 115, 32, 109, 97, 100, 101, 32, 115, 111]⟩] 425], #[], []⟩))).forCall (fun _ _ => 0) ⟨#[], #[.agg #[.int .i64 0, .int .i64 0, .int .i64 0, .string .empty, .string .empty], .agg #[.int .i64 0, .string .empty, .int .i64 0, .int .i64 0, .slice none 0 0, .string .empty], .int .i64 0, .slice none 0 0], []⟩).memory Tryz.f3.params.toList Rows.rowsSignsSpec.vars false #[Value.agg #[.int .i64 0, .int .i64 0, .int .i64 0, .string .empty, .string .empty], Value.agg #[.int .i64 0, .string .empty, .int .i64 0, .int .i64 0, .slice none 0 0, .string .empty], Value.int .i64 0, Value.slice none 0 0].toList 8 = some ([.agg [.lit (.int .i64 0), .lit (.int .i64 0), .lit (.int .i64 0), .lit (.string []), .lit (.string [])], .agg [.lit (.int .i64 0), .lit (.string []), .lit (.int .i64 0), .lit (.int .i64 0), .nil, .lit (.string [])], .lit (.int .i64 0), .nil], [], places) :=
  ⟨[], by kernel_rfl⟩

set_option maxRecDepth 100000 in
theorem lifted (os : Os) (started : os.Started) (H : Type) (enc : TypeId × Value → H) (F : Stop.Interp) :
    ReturnsInHanded {} Tryz.checked os 3 .any ((OpenSpec.ofChange Rows.rowsSignsSpec).preRow enc Tryz.prog Tryz.f3 Rows.rowsSignsRow.domain false Rows.rowsSignsRow.laid) (((OpenSpec.ofChange Rows.rowsSignsSpec).at F).post enc Tryz.prog Tryz.f3 false true false false) := by
  obtain ⟨places, hx⟩ := reads os enc
  refine returnsInHanded_of_row (C := Tryz.checked) (s := OpenSpec.ofChange Rows.rowsSignsSpec) own started (by kernel_rfl) Tryz.func3
    (witness_row_at (enc := enc) (C := Tryz.checked) false (Sha.laidIn (laidIn (World.holding Tryz.prog os ⟨#[.cells #[.string ⟨#[118, 97, 108, 117, 101, 32, 111, 117, 116, 32, 111, 102, 32, 114, 97, 110, 103, 101]⟩] 425, .cells #[.string ⟨#[105, 110, 118, 97, 108, 105, 100, 32, 115, 121, 110, 116, 97, 120]⟩] 425, .cells #[.string ⟨#[110, 111, 32, 107, 101, 121, 32, 105, 115, 32, 109, 97, 100, 101, 32, 115, 111]⟩] 425], #[], []⟩))) #[.agg #[.int .i64 0, .int .i64 0, .int .i64 0, .string .empty, .string .empty], .agg #[.int .i64 0, .string .empty, .int .i64 0, .int .i64 0, .slice none 0 0, .string .empty], .int .i64 0, .slice none 0 0] rfl (by kernel_rfl) (by kernel_rfl) (by kernel_rfl)
      (OpenSpec.preRow_of_cond 8 hx (by kernel_rfl) (fun k hk => by cases hk) (by kernel_rfl) (laid_met8 os _))) ?_
  intro W base args ds gs before hval hW _ _ hsz hL _ _
  exact contract H enc W base args ds gs before hval hW hsz hL

set_option maxRecDepth 100000 in
theorem closed : joinedFacts Tryz.prog 3 Tryz.f3 (OpenSpec.ofChange Rows.rowsSignsSpec).bare Rows.rowsSignsRow = true :=
  joined_of fact_k1 fact_k2 fact_k3 fact_k4 fact_k5 fact_k6 fact_k7 fact_k8 fact_k9 fact_k10 fact_k11 fact_k12 fact_k13 fact_k14 fact_k15 fact_k16 fact_k17 fact_k17b fact_k18 fact_k19 fact_k20 fact_k21 fact_k22 fact_k23 fact_k23b fact_k24 fact_k24b fact_k24c (by kernel_rfl) fact_k26 fact_k27 fact_k28

theorem said : Rows.RowsSignsSaid :=
  OpenClaim.holds_of_cond 3 Tryz.f3 rfl rfl rfl rfl rfl rfl rfl ⟨rfl, rfl, rfl, rfl, rfl⟩ rfl rfl rfl rfl rfl (by kernel_rfl) Tryz.func3 closed
    (of_decide_eq_true (by kernel_rfl)) (by unfold Func.isWrapper; first | (rw [if_pos (by decide +kernel)]; kernel_rfl) | (rw [if_neg (by decide +kernel)]; exact ⟨rfl, rfl⟩))
    (fun os started H enc _ F => by rw [OpenClaim.pre_eq_preRow]; exact lifted os started H enc F)

theorem plain (f : FuncId) (fn : Func) (hf : Tryz.pinned.checked.prog.funcNamed "sawyer/sawyerlaw18.RowsSigns" = some f) (hfn : Tryz.pinned.checked.prog.funcs[f]? = some fn) :
    true = Tryz.pinned.checked.prog.looks [] ∧ ∀ (j : Nat) t, fn.params[j]? = some t → Tryz.pinned.checked.prog.wantsStandIn t = false := by
  obtain rfl : f = 3 := Option.some.inj ((show Tryz.prog.funcNamed "sawyer/sawyerlaw18.RowsSigns" = some 3 by kernel_rfl).symm.trans hf) |>.symm
  obtain rfl : fn = Tryz.f3 := (Option.some.inj (Tryz.func3.symm.trans hfn)).symm
  refine ⟨fact_looks, fun j t ht => ?_⟩
  rw [Tryz.params3] at ht
  have hm := Array.mem_of_getElem? ht
  have hk : ([23, 26, 3, 24] : List TypeId).all (fun u => Tryz.pinned.checked.prog.wantsStandIn u == false) = true := by kernel_rfl
  exact eq_of_beq (List.all_eq_true.1 hk t (by simpa using hm))

theorem card : Rows.RowsSignsCardSaid :=
  Claim7.holds_tied_plain_at .later [] _ _ _ _ said (fun _ h => by cases h) fact_wf (fun _ h => by cases h) rowsSigns_row_tie rfl ⟨rfl, rfl⟩ (by kernel_rfl) rfl plain fact_goes
#print axioms card
end Go.Proofs.YtogphpejdnhnjaaGreatDoor.rowsSigns
