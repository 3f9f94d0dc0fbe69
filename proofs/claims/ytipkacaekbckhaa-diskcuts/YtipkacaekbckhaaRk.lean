/- The walk of the document's Copy. -/
import Derived.Test.YtipkacaekbckhaaRd4
namespace Go.Proofs.Ytipkacaekbckhaa
open Go.RowKit
open Dk (File Disk)

set_option maxHeartbeats 1000000 in
set_option maxRecDepth 100000 in
theorem rcopy_any (F G : Nat → Prop) (q : Nat) (r : Disk) (w : World) (h : Ref F w q r) (hlt : ∀ g, G g → g < w.heap.size) :
    Calls Try.prog 34 #[.pointer (some ⟨q, 0, none⟩)] w fun e w' => ∃ q', e = .returned (.pointer (some ⟨q', 0, none⟩)) ∧ Ref G w' q' r ∧ w.heap.size ≤ q' ∧ Below w.heap.size w w' := by
  obtain ⟨ao, n, c, es, h⟩ := h
  have HM := keep h
  have c0 := h.box.c0
  have c1 := h.box.c1
  have c2 := h.box.c2
  have c3 := h.box.c3
  have c4 := h.box.c4
  have HLT := keep hlt
  clear h hlt
  go_enter Try.func34, Try.ntmps34
  go_wp2_with fail
  obtain ⟨W1, hW1⟩ : ∃ W1, w.alloc (.cells #[.int .i64 (r.cap : Int), .slice ao n c, .int .i64 (r.done : Int), .int .i64 (leftOf r.left), .bool r.dark] 41) = W1 := ⟨_, rfl⟩
  have b1 : Below w.heap.size w W1 := by rw [← hW1]; exact (Below.refl _ _).alloc (Nat.le_refl _) _
  have s1 : W1.heap.size = w.heap.size + 1 := by rw [← hW1]; simp
  have x1 : RBox W1 w.heap.size (r.cap : Int) (.slice ao n c) (r.done : Int) (leftOf r.left) r.dark := by rw [← hW1]; exact heap_alloc_new w _
  rw [hW1]
  refine (rdump_any F q r W1 ⟨ao, n, c, es, HM.out.below b1⟩).mono ?_
  rintro e w2 ⟨ao2, k2, es2, rfl, hk2, hr2, hb2⟩
  have B2 := keep hb2
  have R2 := keep hr2
  have x2 := keep (x1.same (hb2.block _ (by omega)))
  have y1 := x2.out.c1
  have f2 := x2.out.warm
  have bb := keep (b1.trans (hb2.mono b1.size))
  clear hr2 hb2 hW1
  go_wp2
  go_ret
  have hlt := HLT.out
  have hset : Kept (At w.heap.size) w2 (w2.setCell ⟨w.heap.size, 1, none⟩ (.slice ao2 r.files.length k2)) := (Kept.refl (At w.heap.size) _).setCell (p := ⟨w.heap.size, 1, none⟩) (.inl (show At w.heap.size w.heap.size from rfl)) _
  have hsz : w.heap.size ≤ w2.heap.size := bb.out.size
  refine ⟨w.heap.size, rfl, ⟨ao2, r.files.length, k2, es2, x2.out.set1 _, ⟨?_, R2.out.same, rfl⟩, HM.out.good, HM.out.capb, fun e => by have := hlt _ e; omega, fun g hg => by have := hlt g hg; have := hset.size; omega, HM.out.leftb⟩, Nat.le_refl _, bb.out.setCell (p := ⟨w.heap.size, 1, none⟩) (Nat.le_refl _) _⟩
  refine R2.out.rows.next' (V := beside G w.heap.size) (hset.wide (fun g _ e => by show g < W1.heap.size; have : g = w.heap.size := e; omega)) (fun g _ e => ?_)
  show g < W1.heap.size
  rcases e with e | e
  · have := hlt g e; omega
  · omega
/-- The document's disk at q, whatever becomes of the program's. -/
theorem Ref.steady {F : Nat → Prop} {w : World} {q : Nat} {r : Disk} (h : Ref F w q r) : Steady F w fun w => Ref (fun _ => False) w q r := by
  obtain ⟨ao, n, c, es, h⟩ := h
  intro w' hk
  exact ⟨ao, n, c, es, h.move hk (fun _ _ e => e.elim) (fun e => e) (fun _ e => e.elim)⟩
end Go.Proofs.Ytipkacaekbckhaa
