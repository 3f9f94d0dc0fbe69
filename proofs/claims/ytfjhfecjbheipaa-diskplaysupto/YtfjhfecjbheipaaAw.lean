/- The walk of awake. -/
import Derived.Test.YtfjhfecjbheipaaCx
import Derived.Test.YtfjhfecjbheipaaDp
import Derived.Test.YtfjhfecjbheipaaJoinE4
import Derived.Lib.SlBytesConst
namespace Go.Proofs.Ytfjhfecjbheipaa
open Go.RowKit
open Dk (File Disk)

abbrev nmF : List UInt8 := [102]
theorem aw1 : Dk.raw ⟨1000, [], 0, none, false⟩ 0 nmF [] [97, 98] = (0, ⟨1000, [⟨nmF, 0, [97, 98]⟩], 1, none, false⟩) := by rfl
theorem aw2 : Dk.raw ⟨1000, [⟨nmF, 0, [97, 98]⟩], 1, none, false⟩ 1 nmF [] [] = (0, ⟨1000, [⟨nmF, 2, [97, 98]⟩], 2, none, false⟩) := by rfl
theorem aw3 : Dk.raw ⟨1000, [⟨nmF, 2, [97, 98]⟩], 2, none, false⟩ 0 nmF [] [99, 100] = (0, ⟨1000, [⟨nmF, 2, [97, 98, 99, 100]⟩], 3, none, false⟩) := by rfl
theorem aw4 : Dk.crash ⟨1000, [⟨nmF, 2, [97, 98, 99, 100]⟩], 3, none, false⟩ ([1].map up) = ⟨1000, [⟨nmF, 3, [97, 98, 99]⟩], 3, none, false⟩ := by rfl

/-- A disk that was made since w. -/
structure Own (w : World) (S : Nat → Prop) (W : World) (b : Nat) (d : Disk) : Prop where
  mem : Mem S W b d
  news : ∀ g, S g → w.heap.size ≤ g
  at_ : w.heap.size ≤ b
  bel : Below w.heap.size w W
theorem Own.next {w : World} {S : Nat → Prop} {W W' : World} {b : Nat} {d : Disk} (h : Own w S W b d) (hb : Below W.heap.size W W') : Own w S W' b d := ⟨h.mem.below hb, h.news, h.at_, h.bel.trans (hb.mono h.bel.size)⟩
theorem Own.mines {w : World} {S : Nat → Prop} {W : World} {b : Nat} {d : Disk} (h : Own w S W b d) : ∀ g, Go.Proofs.Ytfjhfecjbheipaa.mine S b g → w.heap.size ≤ g ∧ g < W.heap.size := fun g hg => by
  rcases hg with hg | hg
  · exact ⟨h.news g hg, h.mem.lt.1 g hg⟩
  · rw [hg]; exact ⟨h.at_, h.mem.lt.2.1⟩
theorem Own.raw {w : World} {S : Nat → Prop} {W W' : World} {b : Nat} {d : Disk} {r : Nat × Disk} {e : Ending} (h : Own w S W b d) (hr : RawPost S W b r e W') : e = .returned (.int .i64 (r.1 : Int)) ∧ Own w (more S W W') W' b r.2 :=
  ⟨hr.1, hr.2.1, fun g hg => by
    rcases hg with hg | hg
    · exact h.news g hg
    · exact Nat.le_trans h.bel.size hg.1, h.at_, h.bel.trans (hr.2.2.below h.bel.size (fun g hg => (h.mines g hg).1))⟩
theorem block_steady {U : Nat → Prop} {w : World} {g : Nat} {o : Obj} (h : w.heap[g]? = some o) (hg : ¬ U g) : Steady U w fun w => w.heap[g]? = some o := fun _ hk => (hk.block g (Array.getElem?_eq_some_iff.1 h).1 hg).trans h
theorem Src.block {w : World} {g n : Nat} {l : List UInt8} {fr : Nat × Nat} (h : w.heap[g]? = some (.cells (bv l).toArray 5 fr)) (hl : l.length = n) : Src w (some ⟨g, 0, none⟩) n n l :=
  ⟨hl, Nat.le_refl _, (fun e => by cases e), fun ad had j u hu => by
    cases had
    rw [Addr.add_mid, Nat.zero_add, cell_of_row _ _ _ _ _ _ h]
    simpa using hu⟩
theorem conv_const (w : World) (C : Array Value) (n c : Nat) : (convert 35 35 (.slice (some ⟨w.heap.size, 0, none⟩) n c)).run Try.prog (w.alloc (.cells C 5)) = .ok (.slice (some ⟨w.heap.size, 0, none⟩) n c) (w.alloc (.cells C 5 (C.size, C.size + 1))) :=
  Lib.run_convert_bytes_const w 35 5 C n c Try.underlying35 Try.underlying5
/-- Bytes that are laid anew, beside a disk. -/
theorem bytes_beside {w W : World} {S : Nat → Prop} {b : Nat} {d : Disk} (h : Own w S W b d) (l : List UInt8) (fr : Nat × Nat) : Steady (Go.Proofs.Ytfjhfecjbheipaa.mine S b) (W.alloc (.cells (bv l).toArray 5 fr)) fun w => Src w (some ⟨W.heap.size, 0, none⟩) l.length l.length l := fun _ hk =>
  Src.block (block_steady (heap_alloc_new W _) (fun e => by have := (h.mines _ e).2; omega) _ hk) rfl
theorem ints_beside {w W : World} {S : Nat → Prop} {b : Nat} {d : Disk} (h : Own w S W b d) (z : Int) (t : TypeId) : Steady (Go.Proofs.Ytfjhfecjbheipaa.mine S b) (W.alloc (.cells #[.int .i64 z] t)) fun w => RSrc intKind w (some ⟨W.heap.size, 0, none⟩) 1 1 [z] := fun w' hk =>
  ⟨rfl, Nat.le_refl _, (fun e => by cases e), (fun ad had j u hu => by
    cases had
    rw [Addr.add_mid, Nat.zero_add, cell_of_row _ _ _ _ _ _ (block_steady (heap_alloc_new W _) (fun e => by have := (h.mines _ e).2; omega) w' hk)]
    simpa [rv, intKind] using hu), fun _ _ => trivial⟩

set_option maxHeartbeats 1000000 in
set_option maxRecDepth 100000 in
theorem awake_any (w : World) : Calls Try.prog 4 #[] w fun e w' => e = .returned (.bool true) ∧ Below w.heap.size w w' := by
  have hcv := conv_const
  have hn := keep (new_mem 1000 w (by omega))
  rw [show ((1000 : Nat) : Int) = 1000 from rfl] at hn
  go_enter Try.func4, Try.ntmps4
  go_wp2_with fail
  refine hn.out.mono ?_
  rintro e w1 ⟨b, S, rfl, hm, hS, hb, hbel⟩
  have H1 : Hid (Own w S w1 b ⟨1000, [], 0, none, false⟩) := ⟨hm, hS, hb, hbel⟩
  clear hm hS hbel hn hb
  go_wp2_with fail
  have h2 := (append_raw S b ⟨1000, [], 0, none, false⟩ nmF [97, 98] (some ⟨w1.heap.size, 0, none⟩) 2 (w1.alloc (.cells #[.int .u8 97, .int .u8 98] 5 (2, 3))) (H1.out.next ((Below.refl _ _).alloc (Nat.le_refl _) _)).mem (by decide) (bytes_beside H1.out [97, 98] (2, 3)) (by decide) [])
  rw [aw1] at h2
  refine h2.mono ?_
  intro e w2 hp
  obtain ⟨rfl, hq⟩ := (H1.out.next ((Below.refl _ _).alloc (Nat.le_refl _) (.cells #[.int .u8 97, .int .u8 98] 5 (2, 3)))).raw hp
  have H2 := keep hq
  generalize more S (w1.alloc (.cells #[.int .u8 97, .int .u8 98] 5 (2, 3))) w2 = S2 at H2
  clear hp hq H1 h2
  go_wp2_with fail
  have h3 := sync_raw S2 b _ nmF w2 H2.out.mem (by decide) (by decide) [] []
  rw [aw2] at h3
  refine h3.mono ?_
  intro e w3 hp
  obtain ⟨rfl, hq⟩ := H2.out.raw hp
  have H3 := keep hq
  generalize more S2 w2 w3 = S3 at H3
  clear hp hq H2 h3
  go_wp2_with fail
  have h4 := (append_raw S3 b _ nmF [99, 100] (some ⟨w3.heap.size, 0, none⟩) 2 (w3.alloc (.cells #[.int .u8 99, .int .u8 100] 5 (2, 3))) (H3.out.next ((Below.refl _ _).alloc (Nat.le_refl _) _)).mem (by decide) (bytes_beside H3.out [99, 100] (2, 3)) (by decide) [])
  rw [aw3] at h4
  refine h4.mono ?_
  intro e w4 hp
  obtain ⟨rfl, hq⟩ := (H3.out.next ((Below.refl _ _).alloc (Nat.le_refl _) (.cells #[.int .u8 99, .int .u8 100] 5 (2, 3)))).raw hp
  have H4 := keep hq
  generalize more S3 (w3.alloc (.cells #[.int .u8 99, .int .u8 100] 5 (2, 3))) w4 = S4 at H4
  clear hp hq H3 h4
  go_wp2_with fail
  have h5 := crash_mem S4 b _ (some ⟨w4.heap.size, 0, none⟩) 1 1 [1] (w4.alloc (.cells #[.int .i64 1] 3)) (H4.out.next ((Below.refl _ _).alloc (Nat.le_refl _) _)).mem (ints_beside H4.out 1 3) (by decide)
  rw [aw4] at h5
  refine h5.mono ?_
  intro e w5 hp
  obtain ⟨rfl, hq⟩ := (H4.out.next ((Below.refl _ _).alloc (Nat.le_refl _) (.cells #[.int .i64 1] 3))).raw hp
  have H5 := keep hq
  generalize more S4 (w4.alloc (.cells #[.int .i64 1] 3)) w5 = S5 at H5
  clear hp hq H4 h5
  go_wp2_with fail
  refine (read_some S5 b _ nmF nmF 3 [97, 98, 99] w5 H5.out.mem (by decide) (by decide) (by rfl) (by decide)).mono ?_
  rintro e w6 ⟨v, rfl, hv⟩
  have H6 := keep (H5.out.next hv.2)
  obtain ⟨ao, c, rfl, hs, _⟩ := hv.src
  have hcs : (convert 35 9 (.slice ao 3 c)).run Try.prog w6 = .ok (.string ⟨#[97, 98, 99]⟩) w6 := conv_src (l := [97, 98, 99]) hs
  clear hv hs H5
  obtain ⟨m, l, left, hM⟩ := H6.out.mem
  have HM := keep hM
  clear hM
  go_wp2_with fail
  refine (ops_box b m _ left false _ _ HM.out.box).mono ?_
  rintro e w7 ⟨rfl, hb7⟩
  have H7 := keep (H6.out.next hb7)
  clear hb7 hcs
  go_wp2
  go_ret
  exact ⟨rfl, H7.out.bel⟩
end Go.Proofs.Ytfjhfecjbheipaa
