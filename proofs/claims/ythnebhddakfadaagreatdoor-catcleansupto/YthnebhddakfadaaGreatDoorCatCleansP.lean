/- CatCleans proved in the second form: a clean takes away just what a version does not name; its own file, its tables' files, its segments and all files that are called otherwise stay. Its conditions: what comes in holds together at most 1048576 values and letters (the bound of the second form); the library's five variables hold what their initialisers lay (the card ties them to the program's text). -/
import Derived.Test.YthnebhddakfadaaGreatDoorFz
import Derived.Test.YthnebhddakfadaaGreatDoorJoinFo
import Derived.Test.YthnebhddakfadaaGreatDoorJoinOi
import Derived.Test.YthnebhddakfadaaGreatDoorJk1
import Derived.Test.YthnebhddakfadaaGreatDoorJk2
import Derived.Test.YthnebhddakfadaaGreatDoorJk3
import Derived.Test.YthnebhddakfadaaGreatDoorJk4
import Derived.Test.YthnebhddakfadaaGreatDoorJk5
import Derived.Test.YthnebhddakfadaaGreatDoorJk6
import Derived.Test.YthnebhddakfadaaGreatDoorJk7
import Derived.Test.YthnebhddakfadaaGreatDoorJk8
import Derived.Test.YthnebhddakfadaaGreatDoorJk9
import Derived.Test.YthnebhddakfadaaGreatDoorJka
import Derived.Test.YthnebhddakfadaaGreatDoorJoinFzi
namespace Go.Proofs.YthnebhddakfadaaGreatDoor.catCleans
open Go.ChangeShapes Go.WideShapes Go.ChangeAt Go.RowKit

set_option maxRecDepth 100000 in
theorem contract (H : Type) (enc : TypeId × Value → H) (W : World) (base : Nat) (args : Array Value) (ds gs : List (DataW H)) (before : List MemPlace)
    (hval : ∀ (j : Nat) t v, Tryz.f6.params[j]? = some t → args[j]? = some v → Value.okWide Tryz.prog W .any base t v)
    (hW : DataW.Whole enc Tryz.prog Tryz.f6.params.toList Rows.catCleansSpec.vars false W args.toList ds gs before)
    (hk : Rows.uptoSmall H (ds ++ gs) = true) (hL : laidMetH Tryz.prog Rows.catCleansUptoRow.laid W) :
    Calls Tryz.prog 6 args W fun e W' => ∃ v, e = .returned v ∧ Rows.catCleansSpec.post enc Tryz.prog Tryz.f6 false true false false W args v W' := by
  have hW' := hW
  obtain ⟨p, q, hA0, hV, rfl, hfz, hnd⟩ := hW
  have hA : DataW.TrodAll enc Tryz.prog W 0 (fun _ => true) true Tryz.f6.params.toList args.toList ds p := hA0
  rw [Tryz.params6] at hA hval
  obtain ⟨v0, vs0, d0, ds0, p0, q0, hargs, rfl, rfl, h0, r0⟩ := trodAll_cons hA
  obtain ⟨v1, vs1, d1, ds1, p1, q1, rfl, rfl, rfl, h1, r1⟩ := trodAll_cons r0
  obtain ⟨rfl, rfl, rfl⟩ := trodAll_nil r1
  obtain rfl : args = #[v0, v1] := by cases args; simp_all
  obtain ⟨rfl, rfl⟩ := trodVars_none hV
  have lt0 : ∀ x ∈ p0, x.block < W.heap.size := by obtain ⟨m, hm⟩ := h0; exact DataW.trod_lt m _ _ _ hm
  obtain ⟨a0, m0, c0, l0, rfl, s0, k0, g0, u0⟩ := open_files (hval 0 22 v0 rfl rfl) h0
  have lt1 : ∀ x ∈ p1, x.block < W.heap.size := by obtain ⟨m, hm⟩ := h1; exact DataW.trod_lt m _ _ _ hm
  obtain ⟨⟨vp1, vn1, vc1, vgen1, vnext1, vlog1, vseq1, ves1⟩, rfl, s1, _⟩ := open_ver (hval 1 34 v1 rfl rfl) h1
  clear hA0
  have hGl := gl_of_laid hL
  have hk0 : Rows.uptoSmall H ([d0, d1] : List (DataW H)) = true := by simpa only [List.append_nil] using hk
  have hk1 : Rows.uptoBulkAll ([d0, d1] : List (DataW H)) ≤ 1048576 := of_decide_eq_true hk0
  simp only [Rows.uptoBulkAll] at hk1
  refine (cleans_walk a0 m0 c0 l0 vp1 vn1 vc1 vgen1 vnext1 vlog1 vseq1 ves1 W s0 (by omega) (by omega) (fun e he => by have := bulk_mem he; omega) k0 s1 hGl).mono fun e W' ⟨he, bel⟩ => ?_
  subst he
  exact ⟨_, rfl, _, _, _, [], _, [], hW', trodAll_mk1 (shut_bool Tryz.underlying4 _), (trodAll_cons_mk (Below.trod laidOut (by kernel_rfl) (of_decide_eq_true (by kernel_rfl)) h0 bel lt0) (trodAll_cons_mk (Below.trod laidOut (by kernel_rfl) (of_decide_eq_true (by kernel_rfl)) h1 bel lt1) trodAll_mk0)), rfl, bel.frame _, fun h => by cases h⟩

theorem reads (os : Os) {H : Type} (enc : TypeId × Value → H) : ∃ places, DataW.whole enc Tryz.prog ((laidIn (World.holding Tryz.prog os ⟨#[.cells #[.string ⟨#[118, 97, 108, 117, 101, 32, 111, 117, 116, 32, 111, 102, 32, 114, 97, 110, 103, 101]⟩] 274, .cells #[.string ⟨#[105, 110, 118, 97, 108, 105, 100, 32, 115, 121, 110, 116, 97, 120]⟩] 274], #[], []⟩)).forCall (fun _ _ => 0) ⟨#[], #[.slice none 0 0, .agg #[.int .i64 0, .int .i64 0, .int .i64 0, .int .i64 0, .slice none 0 0]], []⟩).memory Tryz.f6.params.toList Rows.catCleansSpec.vars false #[Value.slice none 0 0, Value.agg #[.int .i64 0, .int .i64 0, .int .i64 0, .int .i64 0, .slice none 0 0]].toList 8 = some ([.nil, .agg [.lit (.int .i64 0), .lit (.int .i64 0), .lit (.int .i64 0), .lit (.int .i64 0), .nil]], [], places) :=
  ⟨[], by kernel_rfl⟩

set_option maxRecDepth 100000 in
theorem lifted (os : Os) (started : os.Started) (H : Type) (enc : TypeId × Value → H) (F : Stop.Interp) :
    ReturnsInHanded {} Tryz.checked os 6 .any ((Rows.OpenSpec.upto Rows.catCleansSpec).preRow enc Tryz.prog Tryz.f6 Rows.catCleansUptoRow.domain false Rows.catCleansUptoRow.laid) (((Rows.OpenSpec.upto Rows.catCleansSpec).at F).post enc Tryz.prog Tryz.f6 false true false false) := by
  obtain ⟨places, hx⟩ := reads os enc
  refine returnsInHanded_of_row (C := Tryz.checked) (s := Rows.OpenSpec.upto Rows.catCleansSpec) own started (by kernel_rfl) Tryz.func6
    (witness_row_at (enc := enc) (C := Tryz.checked) false (laidIn (World.holding Tryz.prog os ⟨#[.cells #[.string ⟨#[118, 97, 108, 117, 101, 32, 111, 117, 116, 32, 111, 102, 32, 114, 97, 110, 103, 101]⟩] 274, .cells #[.string ⟨#[105, 110, 118, 97, 108, 105, 100, 32, 115, 121, 110, 116, 97, 120]⟩] 274], #[], []⟩)) #[.slice none 0 0, .agg #[.int .i64 0, .int .i64 0, .int .i64 0, .int .i64 0, .slice none 0 0]] rfl (by kernel_rfl) (by kernel_rfl) (by kernel_rfl)
      (OpenSpec.preRow_of_cond 8 hx (by kernel_rfl) (fun k hk => by cases hk; kernel_rfl) (by kernel_rfl) (laid_met os _))) ?_
  intro W base args ds gs before hval hW _ hcond _ hL _ _
  exact contract H enc W base args ds gs before hval hW (hcond _ rfl) hL

set_option maxRecDepth 100000 in
theorem closed : joinedFacts Tryz.prog 6 Tryz.f6 (Rows.OpenSpec.upto Rows.catCleansSpec).bare Rows.catCleansUptoRow = true :=
  joined_of fact_k1 fact_k2 fact_k3 fact_k4 fact_k5 fact_k6 fact_k7 fact_k8 fact_k9 fact_k10 fact_k11 fact_k12 fact_k13 fact_k14 fact_k15 fact_k16 fact_k17 fact_k17b fact_k18 fact_k19 fact_k20 fact_k21 fact_k22 fact_k23 fact_k23b fact_k24 fact_k24b fact_k24c (by kernel_rfl) fact_k26 fact_k27 fact_k28

theorem said : Rows.CatCleansUptoSaid :=
  OpenClaim.holds_of_cond 6 Tryz.f6 rfl rfl rfl rfl rfl rfl rfl ⟨rfl, rfl, rfl, rfl, rfl⟩ rfl rfl rfl rfl rfl (by kernel_rfl) Tryz.func6 closed
    (of_decide_eq_true (by kernel_rfl)) (by unfold Func.isWrapper; first | (rw [if_pos (by decide +kernel)]; kernel_rfl) | (rw [if_neg (by decide +kernel)]; exact ⟨rfl, rfl⟩))
    (fun os started H enc _ F => by rw [OpenClaim.pre_eq_preRow]; exact lifted os started H enc F)

theorem plain (f : FuncId) (fn : Func) (hf : Tryz.pinned.checked.prog.funcNamed "sawyer/sawyerlaw11.CatCleans" = some f) (hfn : Tryz.pinned.checked.prog.funcs[f]? = some fn) :
    true = Tryz.pinned.checked.prog.looks [] ∧ ∀ (j : Nat) t, fn.params[j]? = some t → Tryz.pinned.checked.prog.wantsStandIn t = false := by
  obtain rfl : f = 6 := Option.some.inj ((show Tryz.prog.funcNamed "sawyer/sawyerlaw11.CatCleans" = some 6 by kernel_rfl).symm.trans hf) |>.symm
  obtain rfl : fn = Tryz.f6 := (Option.some.inj (Tryz.func6.symm.trans hfn)).symm
  refine ⟨fact_looks, fun j t ht => ?_⟩
  rw [Tryz.params6] at ht
  have hm := Array.mem_of_getElem? ht
  have hk : ([22, 34] : List TypeId).all (fun u => Tryz.pinned.checked.prog.wantsStandIn u == false) = true := by kernel_rfl
  exact eq_of_beq (List.all_eq_true.1 hk t (by simpa using hm))

theorem card : Rows.CatCleansUptoCardSaid :=
  Claim7.holds_tied_plain_at .later [] _ _ _ _ said (fun _ h => by cases h) fact_wf (fun _ h => by cases h) catCleansUpto_row_tie rfl ⟨rfl, rfl⟩ (by kernel_rfl) rfl plain fact_goes
#print axioms card
end Go.Proofs.YthnebhddakfadaaGreatDoor.catCleans
