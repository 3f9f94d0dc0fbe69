/- The calls on a table that was never made. -/
import Derived.Test.YtjblicgbdecbcaaGreatZQuj
namespace Go.Proofs.YtjblicgbdecbcaaGreat
open Go.RowKit Go.Shelf
open Sk (Ent)
attribute [local go_sem] Oper.semAt_some

set_option maxHeartbeats 1000000 in
set_option maxRecDepth 100000 in
theorem nget_any (kp : Option Addr) (kc : Nat) (K : Nat) (s : Int) (w : World) :
    Calls Tryz.prog 13 #[.pointer none, .slice kp K kc, .int .i64 s] w fun e w' => e = .returned (.tuple #[ev evZ, .bool false]) ∧ Below w.heap.size w w' := by
  obtain ⟨W1, hW1⟩ : ∃ W1, w.alloc (.cells #[.slice none 0 0, .int .i64 0, .bool false, .slice none 0 0] 37) = W1 := ⟨_, rfl⟩
  have b1 : Hid (Below w.heap.size w W1) := by rw [← hW1]; exact (Below.refl _ _).alloc (Nat.le_refl _) _
  have g1 : Hid (W1.heap[w.heap.size]? = some (.cells #[.slice none 0 0, .int .i64 0, .bool false, .slice none 0 0] 37)) := by rw [← hW1]; exact heap_alloc_new w _
  have t0 : W1.cell? ⟨w.heap.size, 0, none⟩ = some (.slice none 0 0) := cell_of_row _ _ _ _ _ _ g1.out
  have t1 : W1.cell? ⟨w.heap.size, 1, none⟩ = some (.int .i64 0) := cell_of_row _ _ _ _ _ _ g1.out
  have t2 : W1.cell? ⟨w.heap.size, 2, none⟩ = some (.bool false) := cell_of_row _ _ _ _ _ _ g1.out
  have t3 : W1.cell? ⟨w.heap.size, 3, none⟩ = some (.slice none 0 0) := cell_of_row _ _ _ _ _ _ g1.out
  have f0 : W1.frozen? ⟨w.heap.size, 0, none⟩ = false := by simp [World.frozen?, g1.out]
  have f1 : W1.frozen? ⟨w.heap.size, 1, none⟩ = false := by simp [World.frozen?, g1.out]
  have f2 : W1.frozen? ⟨w.heap.size, 2, none⟩ = false := by simp [World.frozen?, g1.out]
  have f3 : W1.frozen? ⟨w.heap.size, 3, none⟩ = false := by simp [World.frozen?, g1.out]
  go_enter Tryz.func13, Tryz.ntmps13
  go_wp2
  refine ⟨rfl, .tuple #[ev evZ, .bool false], ?_, rfl, ?_⟩
  · have s0 : (W1.setCell ⟨w.heap.size, 0, none⟩ (.slice none 0 0)).cell? ⟨w.heap.size, 0, none⟩ = some (.slice none 0 0) := World.cell?_setCell_same' _ _ _ (by simp [go_sem, t0])
    have s1 : ((W1.setCell ⟨w.heap.size, 0, none⟩ (.slice none 0 0)).setCell ⟨w.heap.size, 1, none⟩ (.int .i64 0)).cell? ⟨w.heap.size, 1, none⟩ = some (.int .i64 0) := World.cell?_setCell_same' _ _ _ (by simp [go_sem, t1])
    have s2 : (((W1.setCell ⟨w.heap.size, 0, none⟩ (.slice none 0 0)).setCell ⟨w.heap.size, 1, none⟩ (.int .i64 0)).setCell ⟨w.heap.size, 2, none⟩ (.bool false)).cell? ⟨w.heap.size, 2, none⟩ = some (.bool false) := World.cell?_setCell_same' _ _ _ (by simp [go_sem, t2])
    have s3 : ((((W1.setCell ⟨w.heap.size, 0, none⟩ (.slice none 0 0)).setCell ⟨w.heap.size, 1, none⟩ (.int .i64 0)).setCell ⟨w.heap.size, 2, none⟩ (.bool false)).setCell ⟨w.heap.size, 3, none⟩ (.slice none 0 0)).cell? ⟨w.heap.size, 3, none⟩ = some (.slice none 0 0) := World.cell?_setCell_same' _ _ _ (by simp [go_sem, t3])
    simp [results, Tryz.f13, go_sem, loadCells, loadCellsFrom, s0, s1, s2, s3, ev, evZ]
  · exact ((((b1.out.setCell (p := ⟨w.heap.size, 0, none⟩) (Nat.le_refl _) _).setCell (p := ⟨w.heap.size, 1, none⟩) (Nat.le_refl _) _).setCell (p := ⟨w.heap.size, 2, none⟩) (Nat.le_refl _) _).setCell (p := ⟨w.heap.size, 3, none⟩) (Nat.le_refl _) _)
set_option maxHeartbeats 1000000 in
set_option maxRecDepth 100000 in
theorem neach_any (w : World) : Calls Tryz.prog 48 #[.pointer none] w fun e w' => e = .returned (.func (.func 78) #[] #[.pointer (some ⟨w.heap.size, 0, none⟩)]) ∧ w' = w.alloc (.cells #[.pointer none] 31) := by
  have hmf : ∀ (fn : Fn) (first cap : Array Value) (w : World), (Instr.makeFunc fn first cap).run Tryz.prog w = .ok (.func fn first cap) w := fun _ _ _ _ => rfl
  go_enter Tryz.func48, Tryz.ntmps48
  go_wp2
  go_ret
  exact ⟨rfl, rfl⟩
/-- The iterator tells nothing of a table that was never made. -/
theorem neach_stops (nn : Nat) (Bt n0 : Nat) (w9 : World) (hBt : w9.cell? ⟨Bt, 0, none⟩ = some (.pointer none)) :
    SeqStopsK Fence.wide nn Tryz.prog 78 #[.pointer (some ⟨Bt, 0, none⟩)] (fun _ : Nat => #[ev evZ]) (Below n0) (fun ys => ys = []) (fun _ => False) 0 w9 := by
  intro l J Jx W hW hJ _ hY h0
  have c0 := belowc hW hBt
  have H0 := keep h0
  clear hY h0 hJ hBt hW
  refine callsIn_of_wp Tryz.func78 rfl trivial ?_ rfl
  simp only [Tryz.ntmps78, List.size_toArray, List.length_cons, List.length_nil, Nat.reduceAdd, Nat.reduceSub, Array.replicate_succ, Array.replicate_zero, List.push_toArray, List.append_toArray, List.nil_append, List.cons_append]
  gi_wp2
  refine bodyPost_ret (results_none rfl _ _ _) rfl ?_
  exact ⟨⟨_, rfl⟩, .inl ⟨[], rfl, H0.out⟩⟩
set_option maxHeartbeats 2000000 in
set_option maxRecDepth 100000 in
theorem nall_any (w : World) :
    Calls Tryz.prog 17 #[.pointer none] w fun e w' => e = .returned (.slice none 0 0) ∧ Below w.heap.size w w' := by
  obtain ⟨U0, hU0⟩ : ∃ W1, w.alloc (.cells #[.slice none 0 0] 22) = W1 := ⟨_, rfl⟩
  have bU0 : Hid (Below w.heap.size w U0) := by rw [← hU0]; exact (Below.refl _ _).alloc (Nat.le_refl _) _
  have HU0 := keep hU0
  have BU0 := keep bU0.out
  have x1 : Hid (Boxed U0 w.heap.size 22 (.slice none 0 0)) := by rw [← hU0]; exact Boxed.new _ _ _
  clear hU0
  rw [← callsIn_wide (n := 8)]
  refine callsIn_of_wp_marks Tryz.func17 rfl trivial ?_ rfl
  simp only [Tryz.ntmps17, List.size_toArray, List.length_cons, List.length_nil, Nat.reduceAdd, Nat.reduceSub, Array.replicate_succ, Array.replicate_zero, List.push_toArray, List.append_toArray, List.nil_append, List.cons_append]
  gi_wp2_with fail
  refine ⟨trivial, ?_⟩
  simp only [HU0.out]
  obtain ⟨nX, hnX⟩ : ∃ q, w.heap.size = q := ⟨_, rfl⟩
  rw [hnX] at x1 ⊢
  have NX : Hid (w.heap.size ≤ nX) := by show _ ≤ _; omega
  clear hnX
  refine (callsIn_wide.2 (neach_any U0)).mono ?_
  rintro e w9 ⟨rfl, hw9⟩
  have b9 : Hid (Below U0.heap.size U0 w9) := by rw [hw9]; exact (Below.refl _ _).alloc (Nat.le_refl _) _
  have q1 : Hid (w9.cell? ⟨U0.heap.size, 0, none⟩ = some (.pointer none)) := by rw [hw9]; exact cell_of_row _ _ _ _ _ _ (heap_alloc_new U0 _)
  have B9 := keep (BU0.out.trans (b9.out.mono BU0.out.size))
  have x9 : Hid (Boxed w9 nX 22 (.slice none 0 0)) := (b9.out.block _ x1.out.lt).trans x1.out
  clear hw9
  gi_wp2_with fail
  refine wpIn_rangeFunc_ownH (α := Nat) (F := Fence.wide) rfl (by decide) (gf := 78) (lb := #[.pointer (some ⟨U0.heap.size, 0, none⟩)]) rfl trivial (enters_of Tryz.func78 (by kernel_rfl) rfl)
    (neach_stops 7 U0.heap.size w.heap.size w9 q1.out) belowK_t (fun W l o o' h1 h2 h3 h4 => belowK_b B9.out.size W l o o' h1 h2 h3 h4) (Below.refl _ _) (fun _ => rfl)
    (fun _ W => Boxed W nX 22 (.slice none 0 0) ∧ Below w.heap.size w W)
    (fun _ _ _ => False)
    (fun pre W W' row h hg hr => ⟨(hg.block _ h.1.lt (fun e => by
        obtain ⟨_, o, ho, hc⟩ := hr _ e.symm
        rw [show W.heap[nX]? = _ from h.1] at ho
        cases ho
        cases hc)).trans h.1, h.2.grown hg h.2.size (fun k e => Nat.le_trans B9.out.size (hr k e).1)⟩)
    (fun c pre W W' row h hg hr => h)
    ⟨x9.out, B9.out⟩
    (fun _ _ _ => True) (fun _ _ _ W W' row h hg hr => trivial) ?assign ?body ?done ?stop
  case assign =>
    intro l pre x W K hI hK
    have ST := keep (fun a' W' h1 h2 h3 h4 => hK a' W' h1 h2 h3 h4)
    have II := keep hI
    clear hK hI
    simp only [List.zip_toArray, List.zip_cons_cons, List.zip_nil_right, List.foldl_toArray, List.foldl_cons, List.foldl_nil, List.setIfInBounds_toArray, List.set_cons_zero, List.set_cons_succ]
    unfold ev evZ
    gi_wp2
    exact ST.out _ _ ((KeepsOthers.alloc _ _).from _) ((Below.refl _ _).alloc II.out.2.size _) ⟨(Below.heap_alloc _ _ _ II.out.1.lt).trans II.out.1, II.out.2.alloc II.out.2.size _⟩ trivial
  case body =>
    intro l pre x a' W _ _ _ _ hlen
    exact absurd hlen (Nat.not_lt_zero _)
  case done =>
    rintro D ys W hD _ ⟨hx, hb⟩ hK
    have hc := hx.cell
    have HB := keep hb
    have HK := keep hK
    clear hK hb hx
    gi_wp2
    refine leaves_marks (B := w.heap.size) [D] _ ⟨by simp, fun x hx => ?_, fun x hx => ?_⟩ (fun W' hs => ⟨.slice none 0 0, ?_, rfl, HB.out.trans (hs.below HB.out.size)⟩)
    · rw [List.mem_singleton.1 hx]; exact Nat.le_trans B9.out.size hD
    · rw [List.mem_singleton.1 hx]; exact HK.out
    · simp [results, Tryz.f17, go_sem]
  case stop =>
    rintro D c pre W hD _ h hK
    exact h.elim
set_option maxHeartbeats 2000000 in
set_option maxRecDepth 100000 in
theorem ncount_any (w : World) :
    Calls Tryz.prog 20 #[.pointer none] w fun e w' => e = .returned (.int .i64 0) ∧ Below w.heap.size w w' := by
  obtain ⟨U0, hU0⟩ : ∃ W1, w.alloc (.cells #[.int .i64 0] 3) = W1 := ⟨_, rfl⟩
  have bU0 : Hid (Below w.heap.size w U0) := by rw [← hU0]; exact (Below.refl _ _).alloc (Nat.le_refl _) _
  have HU0 := keep hU0
  have BU0 := keep bU0.out
  have x1 : Hid (Boxed U0 w.heap.size 3 (.int .i64 0)) := by rw [← hU0]; exact Boxed.new _ _ _
  clear hU0
  rw [← callsIn_wide (n := 8)]
  refine callsIn_of_wp_marks Tryz.func20 rfl trivial ?_ rfl
  simp only [Tryz.ntmps20, List.size_toArray, List.length_cons, List.length_nil, Nat.reduceAdd, Nat.reduceSub, Array.replicate_succ, Array.replicate_zero, List.push_toArray, List.append_toArray, List.nil_append, List.cons_append]
  gi_wp2_with fail
  refine ⟨trivial, ?_⟩
  simp only [HU0.out]
  obtain ⟨nX, hnX⟩ : ∃ q, w.heap.size = q := ⟨_, rfl⟩
  rw [hnX] at x1 ⊢
  have NX : Hid (w.heap.size ≤ nX) := by show _ ≤ _; omega
  clear hnX
  refine (callsIn_wide.2 (neach_any U0)).mono ?_
  rintro e w9 ⟨rfl, hw9⟩
  have b9 : Hid (Below U0.heap.size U0 w9) := by rw [hw9]; exact (Below.refl _ _).alloc (Nat.le_refl _) _
  have q1 : Hid (w9.cell? ⟨U0.heap.size, 0, none⟩ = some (.pointer none)) := by rw [hw9]; exact cell_of_row _ _ _ _ _ _ (heap_alloc_new U0 _)
  have B9 := keep (BU0.out.trans (b9.out.mono BU0.out.size))
  have x9 : Hid (Boxed w9 nX 3 (.int .i64 0)) := (b9.out.block _ x1.out.lt).trans x1.out
  clear hw9
  gi_wp2_with fail
  refine wpIn_rangeFunc_ownH (α := Nat) (F := Fence.wide) rfl (by decide) (gf := 78) (lb := #[.pointer (some ⟨U0.heap.size, 0, none⟩)]) rfl trivial (enters_of Tryz.func78 (by kernel_rfl) rfl)
    (neach_stops 7 U0.heap.size w.heap.size w9 q1.out) belowK_t (fun W l o o' h1 h2 h3 h4 => belowK_b B9.out.size W l o o' h1 h2 h3 h4) (Below.refl _ _) (fun _ => rfl)
    (fun _ W => Boxed W nX 3 (.int .i64 0) ∧ Below w.heap.size w W)
    (fun _ _ _ => False)
    (fun pre W W' row h hg hr => ⟨(hg.block _ h.1.lt (fun e => by
        obtain ⟨_, o, ho, hc⟩ := hr _ e.symm
        rw [show W.heap[nX]? = _ from h.1] at ho
        cases ho
        cases hc)).trans h.1, h.2.grown hg h.2.size (fun k e => Nat.le_trans B9.out.size (hr k e).1)⟩)
    (fun c pre W W' row h hg hr => h)
    ⟨x9.out, B9.out⟩
    (fun _ _ _ => True) (fun _ _ _ W W' row h hg hr => trivial) ?assign ?body ?done ?stop
  case assign =>
    intro l pre x W K hI hK
    have ST := keep (fun a' W' h1 h2 h3 h4 => hK a' W' h1 h2 h3 h4)
    have II := keep hI
    clear hK hI
    simp only [List.zip_toArray, List.zip_cons_cons, List.zip_nil_right, List.foldl_toArray, List.foldl_cons, List.foldl_nil, List.setIfInBounds_toArray, List.set_cons_zero, List.set_cons_succ]
    unfold ev evZ
    gi_wp2
    exact ST.out _ _ (KeepsFrom.refl _ _) (Below.refl _ _) II.out trivial
  case body =>
    intro l pre x a' W _ _ _ _ hlen
    exact absurd hlen (Nat.not_lt_zero _)
  case done =>
    rintro D ys W hD _ ⟨hx, hb⟩ hK
    have hc := hx.cell
    have HB := keep hb
    have HK := keep hK
    clear hK hb hx
    gi_wp2
    refine leaves_marks (B := w.heap.size) [D] _ ⟨by simp, fun x hx => ?_, fun x hx => ?_⟩ (fun W' hs => ⟨.int .i64 0, ?_, rfl, HB.out.trans (hs.below HB.out.size)⟩)
    · rw [List.mem_singleton.1 hx]; exact Nat.le_trans B9.out.size hD
    · rw [List.mem_singleton.1 hx]; exact HK.out
    · simp [results, Tryz.f20, go_sem]
  case stop =>
    rintro D c pre W hD _ h hK
    exact h.elim
set_option maxHeartbeats 2000000 in
set_option maxRecDepth 100000 in
theorem nscan_any (fp : Option Addr) (FL fc : Nat) (tp : Option Addr) (TL tc : Nat) (s : Int) (w : World) :
    Calls Tryz.prog 18 #[.pointer none, .slice fp FL fc, .slice tp TL tc, .int .i64 s] w fun e w' => e = .returned (.slice none 0 0) ∧ Below w.heap.size w w' := by
  obtain ⟨U0, hU0⟩ : ∃ W1, w.alloc (.cells #[.slice fp FL fc] 24) = W1 := ⟨_, rfl⟩
  have bU0 : Hid (Below w.heap.size w U0) := by rw [← hU0]; exact (Below.refl _ _).alloc (Nat.le_refl _) _
  have HU0 := keep hU0
  have BU0 := keep bU0.out
  obtain ⟨U1, hU1⟩ : ∃ W1, U0.alloc (.cells #[.slice tp TL tc] 24) = W1 := ⟨_, rfl⟩
  have bU1 : Hid (Below U0.heap.size U0 U1) := by rw [← hU1]; exact (Below.refl _ _).alloc (Nat.le_refl _) _
  have HU1 := keep hU1
  have BU1 := keep (BU0.out.trans (bU1.out.mono BU0.out.size))
  obtain ⟨U2, hU2⟩ : ∃ W1, U1.alloc (.cells #[.int .i64 s] 3) = W1 := ⟨_, rfl⟩
  have bU2 : Hid (Below U1.heap.size U1 U2) := by rw [← hU2]; exact (Below.refl _ _).alloc (Nat.le_refl _) _
  have HU2 := keep hU2
  have BU2 := keep (BU1.out.trans (bU2.out.mono BU1.out.size))
  obtain ⟨U3, hU3⟩ : ∃ W1, U2.alloc (.cells #[.slice none 0 0] 22) = W1 := ⟨_, rfl⟩
  have bU3 : Hid (Below U2.heap.size U2 U3) := by rw [← hU3]; exact (Below.refl _ _).alloc (Nat.le_refl _) _
  have HU3 := keep hU3
  have BU3 := keep (BU2.out.trans (bU3.out.mono BU2.out.size))
  have x1 : Hid (Boxed U3 U2.heap.size 22 (.slice none 0 0)) := by rw [← hU3]; exact Boxed.new _ _ _
  have z0 : U0.heap.size = w.heap.size + 1 := by rw [← hU0, alloc_size]
  have z1 : U1.heap.size = w.heap.size + 1 + 1 := by rw [← hU1, alloc_size, z0]
  have z2 : U2.heap.size = w.heap.size + 1 + 1 + 1 := by rw [← hU2, alloc_size, z1]
  clear hU0 hU1 hU2 hU3
  rw [← callsIn_wide (n := 8)]
  refine callsIn_of_wp_marks Tryz.func18 rfl trivial ?_ rfl
  simp only [Tryz.ntmps18, List.size_toArray, List.length_cons, List.length_nil, Nat.reduceAdd, Nat.reduceSub, Array.replicate_succ, Array.replicate_zero, List.push_toArray, List.append_toArray, List.nil_append, List.cons_append]
  gi_wp2_with fail
  refine ⟨trivial, ?_⟩
  simp only [HU0.out, HU1.out, HU2.out, HU3.out]
  rw [z2] at x1
  obtain ⟨nX, hnX⟩ : ∃ q, w.heap.size + 1 + 1 + 1 = q := ⟨_, rfl⟩
  rw [hnX] at x1 ⊢
  have NX : Hid (w.heap.size ≤ nX) := by show _ ≤ _; omega
  clear hnX z0 z1 z2
  refine (callsIn_wide.2 (neach_any U3)).mono ?_
  rintro e w9 ⟨rfl, hw9⟩
  have b9 : Hid (Below U3.heap.size U3 w9) := by rw [hw9]; exact (Below.refl _ _).alloc (Nat.le_refl _) _
  have q1 : Hid (w9.cell? ⟨U3.heap.size, 0, none⟩ = some (.pointer none)) := by rw [hw9]; exact cell_of_row _ _ _ _ _ _ (heap_alloc_new U3 _)
  have B9 := keep (BU3.out.trans (b9.out.mono BU3.out.size))
  have x9 : Hid (Boxed w9 nX 22 (.slice none 0 0)) := (b9.out.block _ x1.out.lt).trans x1.out
  clear hw9
  gi_wp2_with fail
  refine wpIn_rangeFunc_ownH (α := Nat) (F := Fence.wide) rfl (by decide) (gf := 78) (lb := #[.pointer (some ⟨U3.heap.size, 0, none⟩)]) rfl trivial (enters_of Tryz.func78 (by kernel_rfl) rfl)
    (neach_stops 7 U3.heap.size w.heap.size w9 q1.out) belowK_t (fun W l o o' h1 h2 h3 h4 => belowK_b B9.out.size W l o o' h1 h2 h3 h4) (Below.refl _ _) (fun _ => rfl)
    (fun _ W => Boxed W nX 22 (.slice none 0 0) ∧ Below w.heap.size w W)
    (fun _ _ _ => False)
    (fun pre W W' row h hg hr => ⟨(hg.block _ h.1.lt (fun e => by
        obtain ⟨_, o, ho, hc⟩ := hr _ e.symm
        rw [show W.heap[nX]? = _ from h.1] at ho
        cases ho
        cases hc)).trans h.1, h.2.grown hg h.2.size (fun k e => Nat.le_trans B9.out.size (hr k e).1)⟩)
    (fun c pre W W' row h hg hr => h)
    ⟨x9.out, B9.out⟩
    (fun _ _ _ => True) (fun _ _ _ W W' row h hg hr => trivial) ?assign ?body ?done ?stop
  case assign =>
    intro l pre x W K hI hK
    have ST := keep (fun a' W' h1 h2 h3 h4 => hK a' W' h1 h2 h3 h4)
    have II := keep hI
    clear hK hI
    simp only [List.zip_toArray, List.zip_cons_cons, List.zip_nil_right, List.foldl_toArray, List.foldl_cons, List.foldl_nil, List.setIfInBounds_toArray, List.set_cons_zero, List.set_cons_succ]
    unfold ev evZ
    gi_wp2
    exact ST.out _ _ ((KeepsOthers.alloc _ _).from _) ((Below.refl _ _).alloc II.out.2.size _) ⟨(Below.heap_alloc _ _ _ II.out.1.lt).trans II.out.1, II.out.2.alloc II.out.2.size _⟩ trivial
  case body =>
    intro l pre x a' W _ _ _ _ hlen
    exact absurd hlen (Nat.not_lt_zero _)
  case done =>
    rintro D ys W hD _ ⟨hx, hb⟩ hK
    have hc := hx.cell
    have HB := keep hb
    have HK := keep hK
    clear hK hb hx
    gi_wp2
    refine leaves_marks (B := w.heap.size) [D] _ ⟨by simp, fun x hx => ?_, fun x hx => ?_⟩ (fun W' hs => ⟨.slice none 0 0, ?_, rfl, HB.out.trans (hs.below HB.out.size)⟩)
    · rw [List.mem_singleton.1 hx]; exact Nat.le_trans B9.out.size hD
    · rw [List.mem_singleton.1 hx]; exact HK.out
    · simp [results, Tryz.f18, go_sem]
  case stop =>
    rintro D c pre W hD _ h hK
    exact h.elim
end Go.Proofs.YtjblicgbdecbcaaGreat
