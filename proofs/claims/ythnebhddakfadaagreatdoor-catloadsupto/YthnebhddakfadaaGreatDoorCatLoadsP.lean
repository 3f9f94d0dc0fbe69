/- CatLoads proved in the second form: loading writes nothing; cleaning by what was loaded, and a crash behind that, leave what is loaded as it was. Its conditions: what comes in holds together at most 1048576 values and letters (the bound of the second form); the library's five variables hold what their initialisers lay (the card ties them to the program's text). -/
import Derived.Test.YthnebhddakfadaaGreatDoorFz
import Derived.Test.YthnebhddakfadaaGreatDoorJoinFo
import Derived.Test.YthnebhddakfadaaGreatDoorJoinOi
import Derived.Test.YthnebhddakfadaaGreatDoorJl1
import Derived.Test.YthnebhddakfadaaGreatDoorJl2
import Derived.Test.YthnebhddakfadaaGreatDoorJl3
import Derived.Test.YthnebhddakfadaaGreatDoorJl4
import Derived.Test.YthnebhddakfadaaGreatDoorJl5
import Derived.Test.YthnebhddakfadaaGreatDoorJl6
import Derived.Test.YthnebhddakfadaaGreatDoorJl7
import Derived.Test.YthnebhddakfadaaGreatDoorJl8
import Derived.Test.YthnebhddakfadaaGreatDoorJl9
import Derived.Test.YthnebhddakfadaaGreatDoorJla
import Derived.Test.YthnebhddakfadaaGreatDoorJoinFzh
namespace Go.Proofs.YthnebhddakfadaaGreatDoor.catLoads
open Go.ChangeShapes Go.WideShapes Go.ChangeAt Go.RowKit

set_option maxRecDepth 100000 in
theorem contract (H : Type) (enc : TypeId × Value → H) (W : World) (base : Nat) (args : Array Value) (ds gs : List (DataW H)) (before : List MemPlace)
    (hval : ∀ (j : Nat) t v, Tryz.f8.params[j]? = some t → args[j]? = some v → Value.okWide Tryz.prog W .any base t v)
    (hW : DataW.Whole enc Tryz.prog Tryz.f8.params.toList Rows.catLoadsSpec.vars false W args.toList ds gs before)
    (hk : Rows.uptoSmall H (ds ++ gs) = true) (hL : laidMetH Tryz.prog Rows.catLoadsUptoRow.laid W) :
    Calls Tryz.prog 8 args W fun e W' => ∃ v, e = .returned v ∧ Rows.catLoadsSpec.post enc Tryz.prog Tryz.f8 false true false false W args v W' := by
  have hW' := hW
  obtain ⟨p, q, hA0, hV, rfl, hfz, hnd⟩ := hW
  have hA : DataW.TrodAll enc Tryz.prog W 0 (fun _ => true) true Tryz.f8.params.toList args.toList ds p := hA0
  rw [Tryz.params8] at hA hval
  obtain ⟨v0, vs0, d0, ds0, p0, q0, hargs, rfl, rfl, h0, r0⟩ := trodAll_cons hA
  obtain ⟨v1, vs1, d1, ds1, p1, q1, rfl, rfl, rfl, h1, r1⟩ := trodAll_cons r0
  obtain ⟨rfl, rfl, rfl⟩ := trodAll_nil r1
  obtain rfl : args = #[v0, v1] := by cases args; simp_all
  obtain ⟨rfl, rfl⟩ := trodVars_none hV
  have lt0 : ∀ x ∈ p0, x.block < W.heap.size := by obtain ⟨m, hm⟩ := h0; exact DataW.trod_lt m _ _ _ hm
  obtain ⟨a0, m0, c0, l0, rfl, s0, k0, g0, u0⟩ := open_files (hval 0 22 v0 rfl rfl) h0
  have lt1 : ∀ x ∈ p1, x.block < W.heap.size := by obtain ⟨m, hm⟩ := h1; exact DataW.trod_lt m _ _ _ hm
  obtain ⟨a1, m1, c1, l1, rfl, s1, k1⟩ := open_picks (hval 1 35 v1 rfl rfl) h1
  clear hA0
  have hGl := gl_of_laid hL
  have hk0 : Rows.uptoSmall H ([d0, d1] : List (DataW H)) = true := by simpa only [List.append_nil] using hk
  have hk1 : Rows.uptoBulkAll ([d0, d1] : List (DataW H)) ≤ 1048576 := of_decide_eq_true hk0
  simp only [Rows.uptoBulkAll] at hk1
  refine (loads_walk a0 m0 c0 l0 a1 m1 c1 l1 W s0 (by omega) (by omega) (fun e he => by have := bulk_mem he; omega) k0 s1 k1 hGl).mono fun e W' ⟨he, bel⟩ => ?_
  subst he
  exact ⟨_, rfl, _, _, _, [], _, [], hW', trodAll_mk1 (shut_bool Tryz.underlying4 _), (trodAll_cons_mk (Below.trod laidOut (by kernel_rfl) (of_decide_eq_true (by kernel_rfl)) h0 bel lt0) (trodAll_cons_mk (Below.trod laidOut (by kernel_rfl) (of_decide_eq_true (by kernel_rfl)) h1 bel lt1) trodAll_mk0)), rfl, bel.frame _, fun h => by cases h⟩

theorem reads (os : Os) {H : Type} (enc : TypeId × Value → H) : ∃ places, DataW.whole enc Tryz.prog ((laidIn (World.holding Tryz.prog os ⟨#[.cells #[.string ⟨#[118, 97, 108, 117, 101, 32, 111, 117, 116, 32, 111, 102, 32, 114, 97, 110, 103, 101]⟩] 274, .cells #[.string ⟨#[105, 110, 118, 97, 108, 105, 100, 32, 115, 121, 110, 116, 97, 120]⟩] 274], #[], []⟩)).forCall (fun _ _ => 0) ⟨#[], #[.slice none 0 0, .slice none 0 0], []⟩).memory Tryz.f8.params.toList Rows.catLoadsSpec.vars false #[Value.slice none 0 0, Value.slice none 0 0].toList 8 = some ([.nil, .nil], [], places) :=
  ⟨[], by kernel_rfl⟩

set_option maxRecDepth 100000 in
theorem lifted (os : Os) (started : os.Started) (H : Type) (enc : TypeId × Value → H) (F : Stop.Interp) :
    ReturnsInHanded {} Tryz.checked os 8 .any ((Rows.OpenSpec.upto Rows.catLoadsSpec).preRow enc Tryz.prog Tryz.f8 Rows.catLoadsUptoRow.domain false Rows.catLoadsUptoRow.laid) (((Rows.OpenSpec.upto Rows.catLoadsSpec).at F).post enc Tryz.prog Tryz.f8 false true false false) := by
  obtain ⟨places, hx⟩ := reads os enc
  refine returnsInHanded_of_row (C := Tryz.checked) (s := Rows.OpenSpec.upto Rows.catLoadsSpec) own started (by kernel_rfl) Tryz.func8
    (witness_row_at (enc := enc) (C := Tryz.checked) false (laidIn (World.holding Tryz.prog os ⟨#[.cells #[.string ⟨#[118, 97, 108, 117, 101, 32, 111, 117, 116, 32, 111, 102, 32, 114, 97, 110, 103, 101]⟩] 274, .cells #[.string ⟨#[105, 110, 118, 97, 108, 105, 100, 32, 115, 121, 110, 116, 97, 120]⟩] 274], #[], []⟩)) #[.slice none 0 0, .slice none 0 0] rfl (by kernel_rfl) (by kernel_rfl) (by kernel_rfl)
      (OpenSpec.preRow_of_cond 8 hx (by kernel_rfl) (fun k hk => by cases hk; kernel_rfl) (by kernel_rfl) (laid_met os _))) ?_
  intro W base args ds gs before hval hW _ hcond _ hL _ _
  exact contract H enc W base args ds gs before hval hW (hcond _ rfl) hL

set_option maxRecDepth 100000 in
theorem closed : joinedFacts Tryz.prog 8 Tryz.f8 (Rows.OpenSpec.upto Rows.catLoadsSpec).bare Rows.catLoadsUptoRow = true :=
  joined_of fact_k1 fact_k2 fact_k3 fact_k4 fact_k5 fact_k6 fact_k7 fact_k8 fact_k9 fact_k10 fact_k11 fact_k12 fact_k13 fact_k14 fact_k15 fact_k16 fact_k17 fact_k17b fact_k18 fact_k19 fact_k20 fact_k21 fact_k22 fact_k23 fact_k23b fact_k24 fact_k24b fact_k24c (by kernel_rfl) fact_k26 fact_k27 fact_k28

theorem said : Rows.CatLoadsUptoSaid :=
  OpenClaim.holds_of_cond 8 Tryz.f8 rfl rfl rfl rfl rfl rfl rfl ⟨rfl, rfl, rfl, rfl, rfl⟩ rfl rfl rfl rfl rfl (by kernel_rfl) Tryz.func8 closed
    (of_decide_eq_true (by kernel_rfl)) (by unfold Func.isWrapper; first | (rw [if_pos (by decide +kernel)]; kernel_rfl) | (rw [if_neg (by decide +kernel)]; exact ⟨rfl, rfl⟩))
    (fun os started H enc _ F => by rw [OpenClaim.pre_eq_preRow]; exact lifted os started H enc F)

theorem plain (f : FuncId) (fn : Func) (hf : Tryz.pinned.checked.prog.funcNamed "sawyer/sawyerlaw11.CatLoads" = some f) (hfn : Tryz.pinned.checked.prog.funcs[f]? = some fn) :
    true = Tryz.pinned.checked.prog.looks [] ∧ ∀ (j : Nat) t, fn.params[j]? = some t → Tryz.pinned.checked.prog.wantsStandIn t = false := by
  obtain rfl : f = 8 := Option.some.inj ((show Tryz.prog.funcNamed "sawyer/sawyerlaw11.CatLoads" = some 8 by kernel_rfl).symm.trans hf) |>.symm
  obtain rfl : fn = Tryz.f8 := (Option.some.inj (Tryz.func8.symm.trans hfn)).symm
  refine ⟨fact_looks, fun j t ht => ?_⟩
  rw [Tryz.params8] at ht
  have hm := Array.mem_of_getElem? ht
  have hk : ([22, 35] : List TypeId).all (fun u => Tryz.pinned.checked.prog.wantsStandIn u == false) = true := by kernel_rfl
  exact eq_of_beq (List.all_eq_true.1 hk t (by simpa using hm))

theorem card : Rows.CatLoadsUptoCardSaid :=
  Claim7.holds_tied_plain_at .later [] _ _ _ _ said (fun _ h => by cases h) fact_wf (fun _ h => by cases h) catLoadsUpto_row_tie rfl ⟨rfl, rfl⟩ (by kernel_rfl) rfl plain fact_goes
#print axioms card
end Go.Proofs.YthnebhddakfadaaGreatDoor.catLoads
