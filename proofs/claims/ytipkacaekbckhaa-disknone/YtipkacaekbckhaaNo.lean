/- The walk of the statement on a disk that was never made. -/
import Derived.Test.YtipkacaekbckhaaAw
import Derived.Test.YtipkacaekbckhaaUn4
import Derived.Test.YtipkacaekbckhaaOp
namespace Go.Proofs.Ytipkacaekbckhaa
open Go.RowKit

set_option maxHeartbeats 1000000 in
set_option maxRecDepth 100000 in
theorem diskNone_walk (o : OpE) (w : World) (_ : opKind.held w o) (_ : Fine o) : Calls Try.prog 4 #[.agg (opKind.vals o).toArray] w fun e w' => e = .returned (.bool true) ∧ Below w.heap.size w w' := by
  obtain ⟨wh, z, a, b, dp, dc, da, pp, pc, ps⟩ := o
  simp only [opKind]
  have hW : ∃ W0, w.alloc (.cells #[.int .i64 wh, .int .i64 z, .string ⟨a.toArray⟩, .string ⟨b.toArray⟩, .slice dp da.length dc, .slice pp ps.length pc] 38) = W0 := ⟨_, rfl⟩
  obtain ⟨W0, hW⟩ := hW
  have hb0 : Below w.heap.size w W0 := by rw [← hW]; exact (Below.refl _ _).alloc (Nat.le_refl _) _
  have g0 : W0.heap[w.heap.size]? = some (.cells #[.int .i64 wh, .int .i64 z, .string ⟨a.toArray⟩, .string ⟨b.toArray⟩, .slice dp da.length dc, .slice pp ps.length pc] 38) := by rw [← hW]; exact heap_alloc_new w _
  have G0 := keep g0
  have HB0 := keep hb0
  clear g0 hb0
  go_enter Try.func4, Try.ntmps4
  go_wp2_with fail
  clear hW
  refine (awake_any W0).mono ?_
  rintro e w1 ⟨rfl, hb1⟩
  have HB1 := keep hb1
  clear hb1
  go_wp2_with fail
  have hW2 : ∃ W2, (w1.alloc (.cells #[.map none, .int .i64 0, .int .i64 0, .bool false, .int .i64 0] 56)).alloc (.cells #[.pointer none, .pointer (some ⟨w1.heap.size, 0, none⟩)] 25) = W2 := ⟨_, rfl⟩
  obtain ⟨W2, hW2⟩ := hW2
  rw [hW2]
  have b2 : Below w1.heap.size w1 W2 := by rw [← hW2]; exact ((Below.refl _ _).alloc (Nat.le_refl _) _).alloc (by simp) _
  have g1 : W2.cell? ⟨w1.heap.size, 0, none⟩ = some (.map none) := by
    rw [← hW2]
    exact below_cell ((Below.refl _ _).alloc (Nat.le_refl _) _) (cell_of_row _ _ _ _ _ _ (heap_alloc_new w1 _))
  have g2 : W2.heap[w1.heap.size + 1]? = some (.cells #[.pointer none, .pointer (some ⟨w1.heap.size, 0, none⟩)] 25) := by
    rw [← hW2]
    have := heap_alloc_new (w1.alloc (.cells #[.map none, .int .i64 0, .int .i64 0, .bool false, .int .i64 0] 56)) (.cells #[.pointer none, .pointer (some ⟨w1.heap.size, 0, none⟩)] 25)
    rwa [show (w1.alloc (.cells #[.map none, .int .i64 0, .int .i64 0, .bool false, .int .i64 0] 56)).heap.size = w1.heap.size + 1 from by simp] at this
  have hsz : w.heap.size < W0.heap.size := (Array.getElem?_eq_some_iff.1 G0.out).1
  have hg : Hid (W2.heap[w.heap.size]? = some (.cells #[.int .i64 wh, .int .i64 z, .string ⟨a.toArray⟩, .string ⟨b.toArray⟩, .slice dp da.length dc, .slice pp ps.length pc] 38)) := (b2.block w.heap.size (Nat.lt_of_lt_of_le hsz HB1.out.size)).trans ((HB1.out.block w.heap.size hsz).trans G0.out)
  have hall : Hid (Below w.heap.size w W2) := HB0.out.trans ((HB1.out.mono HB0.out.size).trans (b2.mono (Nat.le_trans HB0.out.size HB1.out.size)))
  have facts : Hid (∀ wr, Below W2.heap.size W2 wr → (wr.cell? ⟨w.heap.size, 1, none⟩ = some (.int .i64 z) ∧ wr.cell? ⟨w.heap.size, 2, none⟩ = some (.string ⟨a.toArray⟩) ∧ wr.cell? ⟨w.heap.size, 3, none⟩ = some (.string ⟨b.toArray⟩) ∧ wr.cell? ⟨w.heap.size, 4, none⟩ = some (.slice dp da.length dc) ∧ wr.cell? ⟨w.heap.size, 5, none⟩ = some (.slice pp ps.length pc))) := fun wr hb =>
    ⟨below_cell hb (cell_of_row _ _ _ _ _ _ hg.out), below_cell hb (cell_of_row _ _ _ _ _ _ hg.out), below_cell hb (cell_of_row _ _ _ _ _ _ hg.out), below_cell hb (cell_of_row _ _ _ _ _ _ hg.out), below_cell hb (cell_of_row _ _ _ _ _ _ hg.out)⟩
  have G1 := keep g1
  have G2 := keep g2
  clear hW2 b2 g1 g2 hsz
  go_loopw [6] (fun i wr => ∃ t : Nat, t ≤ 2 ∧ i = .int .i64 (t : Int) ∧ Hid (Below W2.heap.size W2 wr)) (fun i _ => 2 - (intOf i).toNat)
  case atStart => exact ⟨0, by omega, rfl, Below.refl _ _⟩
  case round =>
    obtain ⟨t, ht, rfl, hk⟩ := hrel
    rcases Nat.lt_or_ge t 2 with hlt | hge
    · obtain ⟨p, hp, hu⟩ : ∃ p, wr.cell? ⟨w1.heap.size + 1, t, none⟩ = some (.pointer p) ∧ Hid (Unmade W2 p) := by
        rcases (by omega : t = 0 ∨ t = 1) with rfl | rfl
        · exact ⟨none, below_cell hk.out (cell_of_row _ _ _ _ _ _ G2.out), .inl rfl⟩
        · exact ⟨_, below_cell hk.out (cell_of_row _ _ _ _ _ _ G2.out), .inr ⟨_, rfl, G1.out⟩⟩
      have t1 : (t : Int) < 2 := by omega
      have t0 : (0 : Int) ≤ (t : Int) := by omega
      obtain ⟨f1, f2, f3, f4, f5⟩ := facts.out wr hk.out
      go_wp2_with fail
      refine (read_no p a _ (hu.out.below hk.out)).mono ?_
      rintro e x0 ⟨rfl, hb0⟩
      have h10 := keep (hk.out.trans (hb0.mono hk.out.size))
      clear hb0 f1 f2 f3 f4 f5
      obtain ⟨f1, f2, f3, f4, f5⟩ := facts.out x0 h10.out
      go_wp2_with fail
      refine (append_no p a dp da.length dc _ (hu.out.below h10.out)).mono ?_
      rintro e x1 ⟨rfl, hb1⟩
      have h11 := keep (h10.out.trans (hb1.mono h10.out.size))
      clear hb1 f1 f2 f3 f4 f5
      obtain ⟨f1, f2, f3, f4, f5⟩ := facts.out x1 h11.out
      go_wp2_with fail
      refine (sync_no p a _ (hu.out.below h11.out)).mono ?_
      rintro e x2 ⟨rfl, hb2⟩
      have h12 := keep (h11.out.trans (hb2.mono h11.out.size))
      clear hb2 f1 f2 f3 f4 f5
      obtain ⟨f1, f2, f3, f4, f5⟩ := facts.out x2 h12.out
      go_wp2_with fail
      refine (rename_no p a b _ (hu.out.below h12.out)).mono ?_
      rintro e x3 ⟨rfl, hb3⟩
      have h13 := keep (h12.out.trans (hb3.mono h12.out.size))
      clear hb3 f1 f2 f3 f4 f5
      obtain ⟨f1, f2, f3, f4, f5⟩ := facts.out x3 h13.out
      go_wp2_with fail
      refine (remove_no p a _ (hu.out.below h13.out)).mono ?_
      rintro e x4 ⟨rfl, hb4⟩
      have h14 := keep (h13.out.trans (hb4.mono h13.out.size))
      clear hb4 f1 f2 f3 f4 f5
      obtain ⟨f1, f2, f3, f4, f5⟩ := facts.out x4 h14.out
      go_wp2_with fail
      refine (cut_no p z _ (hu.out.below h14.out)).mono ?_
      rintro e x5 ⟨rfl, hb5⟩
      have h15 := keep (h14.out.trans (hb5.mono h14.out.size))
      clear hb5 f1 f2 f3 f4 f5
      obtain ⟨f1, f2, f3, f4, f5⟩ := facts.out x5 h15.out
      go_wp2_with fail
      refine (crash_no p pp ps.length pc _ (hu.out.below h15.out)).mono ?_
      rintro e x6 ⟨rfl, hb6⟩
      have h16 := keep (h15.out.trans (hb6.mono h15.out.size))
      clear hb6 f1 f2 f3 f4 f5
      obtain ⟨f1, f2, f3, f4, f5⟩ := facts.out x6 h16.out
      go_wp2_with fail
      refine (has_no p a _ (hu.out.below h16.out)).mono ?_
      rintro e x7 ⟨rfl, hb7⟩
      have h17 := keep (h16.out.trans (hb7.mono h16.out.size))
      clear hb7 f1 f2 f3 f4 f5
      obtain ⟨f1, f2, f3, f4, f5⟩ := facts.out x7 h17.out
      go_wp2_with fail
      refine (off_no p  _ (hu.out.below h17.out)).mono ?_
      rintro e x8 ⟨rfl, hb8⟩
      have h18 := keep (h17.out.trans (hb8.mono h17.out.size))
      clear hb8 f1 f2 f3 f4 f5
      obtain ⟨f1, f2, f3, f4, f5⟩ := facts.out x8 h18.out
      go_wp2_with fail
      refine (free_no p  _ (hu.out.below h18.out)).mono ?_
      rintro e x9 ⟨rfl, hb9⟩
      have h19 := keep (h18.out.trans (hb9.mono h18.out.size))
      clear hb9 f1 f2 f3 f4 f5
      obtain ⟨f1, f2, f3, f4, f5⟩ := facts.out x9 h19.out
      go_wp2_with fail
      refine (ops_no p  _ (hu.out.below h19.out)).mono ?_
      rintro e x10 ⟨rfl, hb10⟩
      have h20 := keep (h19.out.trans (hb10.mono h19.out.size))
      clear hb10 f1 f2 f3 f4 f5
      obtain ⟨f1, f2, f3, f4, f5⟩ := facts.out x10 h20.out
      go_wp2_with fail
      refine (names_no p  _ (hu.out.below h20.out)).mono ?_
      rintro e x11 ⟨rfl, hb11⟩
      have h21 := keep (h20.out.trans (hb11.mono h20.out.size))
      clear hb11 f1 f2 f3 f4 f5
      obtain ⟨f1, f2, f3, f4, f5⟩ := facts.out x11 h21.out
      go_wp2_with fail
      refine (dump_no p  _ (hu.out.below h21.out)).mono ?_
      rintro e x12 ⟨rfl, hb12⟩
      have h22 := keep (h21.out.trans (hb12.mono h21.out.size))
      clear hb12 f1 f2 f3 f4 f5
      obtain ⟨f1, f2, f3, f4, f5⟩ := facts.out x12 h22.out
      go_wp2
      go_roundw
      case rel => exact ⟨t + 1, by omega, by first | rfl | go_num, h22⟩
      case measure => simp [intOf]; omega
    · obtain rfl : t = 2 := by omega
      go_wp2
      go_ret
      exact ⟨rfl, hall.out.trans (hk.out.mono hall.out.size)⟩
end Go.Proofs.Ytipkacaekbckhaa
