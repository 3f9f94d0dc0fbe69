/- The walk of the document's Same of versions that are the same. -/
/- CatTwo's walk. -/
/- The arguments of stage 10's statements opened: a version, a slice of notes, a slice of ints; no walk. -/
/- A row of versions opened; no walk. -/
import Derived.Test.YthnebhddakfadaaGreatDoorJoinHm
import Derived.Test.YthnebhddakfadaaGreatDoorJoinFm
import Derived.Test.YthnebhddakfadaaGreatDoorH7
import Derived.Test.YthnebhddakfadaaGreatDoorJoinOi
namespace Go.Proofs.YthnebhddakfadaaGreatDoor
open Go.RowKit
open Ed (Nt)

set_option maxHeartbeats 2000000 in
set_option maxRecDepth 100000 in
theorem rsame_yes (x y : VV) (w : World) (hx : VV.held w x) (hy : VV.held w y) (he : x.v = y.v) (hn : x.n ≤ 1000000000) :
    Calls Tryz.prog 26 #[x.val, y.val] w fun e w' => e = .returned (.bool true) ∧ Below w.heap.size w w' := by
  obtain ⟨p, n, c, gen, next, log, seq, es⟩ := x
  obtain ⟨p2, n2, c2, gen2, next2, log2, seq2, es2⟩ := y
  have SX : Hid (RSrc metaKind w p n c es) := hx
  have SY : Hid (RSrc metaKind w p2 n2 c2 es2) := hy
  have h0 : gen = gen2 := congrArg Ed.Ver.gen he
  have h1 : next = next2 := congrArg Ed.Ver.next he
  have h2 : log = log2 := congrArg Ed.Ver.log he
  have h3 : seq = seq2 := congrArg Ed.Ver.seq he
  have h4 : es.map (·.m) = es2.map (·.m) := congrArg Ed.Ver.tabs he
  have hl : n = n2 := by
    have := congrArg List.length h4
    rw [List.length_map, List.length_map, SX.out.len, SY.out.len] at this
    exact this
  subst h0 h1 h2 h3 hl
  simp only at hn
  unfold VV.val
  simp only
  obtain ⟨W1, hW1⟩ : ∃ W1, (w.alloc (.cells #[.int .i64 gen, .int .i64 next, .int .i64 log, .int .i64 seq, .slice p n c] 34)).alloc (.cells #[.int .i64 gen, .int .i64 next, .int .i64 log, .int .i64 seq, .slice p2 n c2] 34) = W1 := ⟨_, rfl⟩
  have b1 : Hid (Below w.heap.size w W1) := by rw [← hW1]; exact ((Below.refl _ _).alloc (Nat.le_refl _) _).alloc (by simp) _
  have g0 : Hid (W1.heap[w.heap.size]? = some (.cells #[.int .i64 gen, .int .i64 next, .int .i64 log, .int .i64 seq, .slice p n c] 34)) := by
    rw [← hW1]; exact (Below.heap_alloc _ _ _ (by simp)).trans (heap_alloc_new w _)
  have g1 : Hid (W1.heap[w.heap.size + 1]? = some (.cells #[.int .i64 gen, .int .i64 next, .int .i64 log, .int .i64 seq, .slice p2 n c2] 34)) := by
    have := heap_alloc_new (w.alloc (.cells #[.int .i64 gen, .int .i64 next, .int .i64 log, .int .i64 seq, .slice p n c] 34)) (.cells #[.int .i64 gen, .int .i64 next, .int .i64 log, .int .i64 seq, .slice p2 n c2] 34)
    rw [World.size_alloc] at this
    rw [← hW1]; exact this
  have x0 : W1.cell? ⟨w.heap.size, 0, none⟩ = some (.int .i64 gen) := cell_of_row _ _ _ _ _ _ g0.out
  have x1 : W1.cell? ⟨w.heap.size, 1, none⟩ = some (.int .i64 next) := cell_of_row _ _ _ _ _ _ g0.out
  have x2 : W1.cell? ⟨w.heap.size, 2, none⟩ = some (.int .i64 log) := cell_of_row _ _ _ _ _ _ g0.out
  have x3 : W1.cell? ⟨w.heap.size, 3, none⟩ = some (.int .i64 seq) := cell_of_row _ _ _ _ _ _ g0.out
  have x4 : W1.cell? ⟨w.heap.size, 4, none⟩ = some (.slice p n c) := cell_of_row _ _ _ _ _ _ g0.out
  have y0 : W1.cell? ⟨w.heap.size + 1, 0, none⟩ = some (.int .i64 gen) := cell_of_row _ _ _ _ _ _ g1.out
  have y1 : W1.cell? ⟨w.heap.size + 1, 1, none⟩ = some (.int .i64 next) := cell_of_row _ _ _ _ _ _ g1.out
  have y2 : W1.cell? ⟨w.heap.size + 1, 2, none⟩ = some (.int .i64 log) := cell_of_row _ _ _ _ _ _ g1.out
  have y3 : W1.cell? ⟨w.heap.size + 1, 3, none⟩ = some (.int .i64 seq) := cell_of_row _ _ _ _ _ _ g1.out
  have y4 : W1.cell? ⟨w.heap.size + 1, 4, none⟩ = some (.slice p2 n c2) := cell_of_row _ _ _ _ _ _ g1.out
  have SM := keep (sameMetas_yes p n c es p2 c2 es2 W1 (SX.out.below metaKind_ok b1.out) (SY.out.below metaKind_ok b1.out) h4 (by omega))
  clear hx hy he h4
  go_enter Tryz.func26, Tryz.ntmps26
  go_wp2_with fail
  refine SM.out.mono ?_
  rintro e w2 ⟨rfl, hb2⟩
  have B2 := keep (b1.out.trans (hb2.mono b1.out.size))
  clear hb2 SM
  go_wp2
  go_ret
  exact ⟨rfl, B2.out⟩
end Go.Proofs.YthnebhddakfadaaGreatDoor
namespace Go.Proofs.YthnebhddakfadaaGreatDoor
open Go.RowKit
open Dk (File Disk)

/-- Between two saves. -/
structure TwI (w : World) (b k : Nat) (W : World) (d : Disk) : Prop where
  disk : ∃ S, DW w S W b d
  vn : Vn d
  cap : d.cap = 1099511627776
  done : d.done ≤ k * 2300000000000
theorem TwI.next {w : World} {b k : Nat} {W W' : World} {d : Disk} (h : TwI w b k W d) (hb : Below W.heap.size W W') : TwI w b k W' d := by
  obtain ⟨S, h1⟩ := h.disk
  exact ⟨⟨S, h1.next hb⟩, h.vn, h.cap, h.done⟩
theorem TwI.up {w : World} {b k : Nat} {W : World} {d : Disk} (h : TwI w b k W d) : TwI w b (k + 1) W d := ⟨h.disk, h.vn, h.cap, Nat.le_trans h.done (Nat.mul_le_mul_right _ (Nat.le_succ k))⟩
theorem TwI.bel {w : World} {b k : Nat} {W : World} {d : Disk} (h : TwI w b k W d) : Below w.heap.size w W := by
  obtain ⟨S, h1⟩ := h.disk
  exact h1.bel
end Go.Proofs.YthnebhddakfadaaGreatDoor
namespace Go.Proofs.YthnebhddakfadaaGreatDoor
open Go.ChangeShapes Go.WideShapes Go.ChangeAt Go.RowKit
open Ed (Nt)

end Go.Proofs.YthnebhddakfadaaGreatDoor
namespace Go.Proofs.YthnebhddakfadaaGreatDoor
open Go.ChangeShapes Go.WideShapes Go.ChangeAt Go.RowKit
end Go.Proofs.YthnebhddakfadaaGreatDoor
