/- The walk of Count on a table whose pieces were asked. -/
import Derived.Test.YtjblicgbdecbcaaZQc
namespace Go.Proofs.Ytjblicgbdecbcaa
open Go.RowKit Go.Shelf
open Sk (Ent)
attribute [local go_sem] Oper.semAt_some

set_option maxHeartbeats 4000000 in
set_option maxRecDepth 100000 in
theorem count_done (tb : Nat) (ds : List DE) (Fl : List UInt8) (w : World) (hT : TDone w tb ds Fl) (hl : ds.length ≤ 64) (hds : ∀ d ∈ ds, d.ys.length ≤ 64) (hev : (evsD ds).length ≤ 4096) :
    Calls Try.prog 20 #[.pointer (some ⟨tb, 0, none⟩)] w fun e w' => e = .returned (.int .i64 ((evsD ds).length : Int)) ∧ Below w.heap.size w w' := by
  have TD := keep hT
  obtain ⟨W1, hW1⟩ : ∃ W1, w.alloc (.cells #[.int .i64 0] 3) = W1 := ⟨_, rfl⟩
  have b1 : Hid (Below w.heap.size w W1) := by rw [← hW1]; exact (Below.refl _ _).alloc (Nat.le_refl _) _
  have x1 : Hid (Boxed W1 w.heap.size 3 (.int .i64 0)) := by rw [← hW1]; exact Boxed.new _ _ _
  have HW1 := keep hW1
  clear hT hW1
  rw [← callsIn_wide (n := 8)]
  refine callsIn_of_wp_marks Try.func20 rfl trivial ?_ rfl
  simp only [Try.ntmps20, List.size_toArray, List.length_cons, List.length_nil, Nat.reduceAdd, Nat.reduceSub, Array.replicate_succ, Array.replicate_zero, List.push_toArray, List.append_toArray, List.nil_append, List.cons_append]
  gi_wp2_with fail
  refine ⟨trivial, ?_⟩
  rw [HW1.out]
  refine (callsIn_wide.2 (each_any tb W1)).mono ?_
  rintro e w9 ⟨rfl, hw9⟩
  have b9 : Hid (Below W1.heap.size W1 w9) := by rw [hw9]; exact (Below.refl _ _).alloc (Nat.le_refl _) _
  have q1 : Hid (w9.cell? ⟨W1.heap.size, 0, none⟩ = some (.pointer (some ⟨tb, 0, none⟩))) := by rw [hw9]; exact cell_of_row _ _ _ _ _ _ (heap_alloc_new W1 _)
  have B9 := keep (b1.out.trans (b9.out.mono b1.out.size))
  have x9 : Hid (Boxed w9 w.heap.size 3 (.int .i64 0)) := (b9.out.block _ x1.out.lt).trans x1.out
  clear hw9 HW1
  gi_wp2_with fail
  refine wpIn_rangeFunc_ownG (α := Nat) (F := Fence.wide) rfl (by decide) (gf := 58) (lb := #[.pointer (some ⟨W1.heap.size, 0, none⟩)]) rfl trivial (enters_of Try.func58 (by kernel_rfl) rfl)
    (each_stops 7 (by decide) W1.heap.size tb w.heap.size ds Fl w w9 rfl B9.out hl hds TD.out q1.out) belowK_t (fun W l o o' h1 h2 h3 h4 => belowK_b B9.out.size W l o o' h1 h2 h3 h4) (Below.refl _ _) (fun _ => rfl)
    (fun pre W => Boxed W w.heap.size 3 (.int .i64 (pre.length : Int)) ∧ Below w.heap.size w W)
    (fun _ _ _ => False)
    (fun pre W W' row h hg hr => ⟨h.1.kept hg (fun e => by have := (hr _ e.symm).1; have := x9.out.lt; omega), h.2.grown hg h.2.size (fun k e => by have := (hr k e).1; have := B9.out.size; omega)⟩)
    (fun c pre W W' row h hg hr => h)
    ⟨x9.out, B9.out⟩
    (fun x => { tmps := #[.pointer (some ⟨tb, 0, none⟩), undef, .int .i64 0, .pointer (some ⟨w.heap.size, 0, none⟩), .pointer (some ⟨tb, 0, none⟩), .func (.func 58) #[] #[.pointer (some ⟨W1.heap.size, 0, none⟩)], ev (nthE ds x), undef, undef, undef], defers := [] }) ?assign ?body ?done ?stop
  case assign =>
    intro l x W K hK
    gi_wp2
    simp only [List.zip_toArray, List.zip_cons_cons, List.zip_nil_right, List.foldl_toArray, List.foldl_cons, List.foldl_nil, List.setIfInBounds_toArray, List.set_cons_zero, List.set_cons_succ]
    exact hK
  case body =>
    rintro l pre x W ⟨hx, hb⟩ hlen
    have HX := keep hx
    have HB := keep hb
    have hc := hx.cell
    have hf := hx.frozen
    have sw : IntKind.i64.wrap ((pre.length : Int) + 1) = (pre.length : Int) + 1 := wrap_small _ (by omega) (by omega)
    obtain ⟨z, hz⟩ : ∃ z, nthE ds x = z := ⟨_, rfl⟩
    rw [hz]
    clear hx hb hz
    gi_wp2
    refine ⟨(KeepsOthers.setCell _ _ _).from _, (Below.refl _ _).setCell (p := ⟨w.heap.size, 0, none⟩) (Nat.le_refl _) _, ?_, HB.out.setCell (p := ⟨w.heap.size, 0, none⟩) (Nat.le_refl _) _⟩
    have := HX.out.set (.int .i64 ((pre.length : Int) + 1))
    rw [List.length_append]
    exact this
  case done =>
    rintro D ys W hD rfl ⟨hx, hb⟩ hK
    have hc := hx.cell
    have HB := keep hb
    have HK := keep hK
    rw [List.length_range] at hc
    clear hb hK hx
    gi_wp2
    refine leaves_marks (B := w.heap.size) [D] _ ⟨by simp, fun x hx => ?_, fun x hx => ?_⟩ (fun W' hs => ⟨.int .i64 ((evsD ds).length : Int), ?_, rfl, HB.out.trans (hs.below HB.out.size)⟩)
    · rw [List.mem_singleton.1 hx]; exact Nat.le_trans B9.out.size hD
    · rw [List.mem_singleton.1 hx]; exact HK.out
    · simp [results, Try.f20, go_sem]
  case stop =>
    rintro D c pre W hD _ h hK
    exact h.elim
end Go.Proofs.Ytjblicgbdecbcaa
