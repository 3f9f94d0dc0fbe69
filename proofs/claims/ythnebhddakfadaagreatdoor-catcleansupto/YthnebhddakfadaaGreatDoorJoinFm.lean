/- The walks of the laws' mine and theirs. -/
/- The document's example, over plain disks; the walk of the laws' awake. -/
import Derived.Test.YthnebhddakfadaaGreatDoorFk
import Derived.Test.YthnebhddakfadaaGreatDoorJoinHm
import Derived.Test.YthnebhddakfadaaGreatDoorJoinFj
import Derived.Test.YthnebhddakfadaaGreatDoorJoinNn
namespace Go.Proofs.YthnebhddakfadaaGreatDoor
open Go.RowKit
open Ed (Nt)

theorem below_row {w W : World} {g : Nat} {o : Obj} (h : w.heap[g]? = some o) (hb : Below w.heap.size w W) : W.heap[g]? = some o := (hb.block g (Array.getElem?_eq_some_iff.1 h).1).trans h
/-- How far the copy has come: the argument's box, the answer's, the copy's. -/
structure CpI (SV DV DM : TypeId) (w : World) (p : Option Addr) (n c : Nat) (gen next log seq : Int) (es : List MV) (k : Nat) (v : Value) (W : World) : Prop where
  g0 : W.heap[w.heap.size]? = some (.cells #[.int .i64 gen, .int .i64 next, .int .i64 log, .int .i64 seq, .slice p n c] SV)
  g1 : W.heap[w.heap.size + 1]? = some (.cells #[.int .i64 0, .int .i64 0, .int .i64 0, .int .i64 0, .slice none 0 0] DV)
  g2 : W.heap[w.heap.size + 2]? = some (.cells #[.int .i64 gen, .int .i64 next, .int .i64 log, .int .i64 seq, v] DV)
  row : W.ownsRow w.heap.size DM 5 v k (rv metaKind (es.take k))
  bel : Below w.heap.size w W
  size : w.heap.size + 3 ≤ W.heap.size
theorem CpI.next {SV DV DM : TypeId} {w : World} {p : Option Addr} {n c : Nat} {gen next log seq : Int} {es : List MV} {k : Nat} {v : Value} {W W' : World} (h : CpI SV DV DM w p n c gen next log seq es k v W) (hb : Below W.heap.size W W') : CpI SV DV DM w p n c gen next log seq es k v W' :=
  ⟨below_row h.g0 hb, below_row h.g1 hb, below_row h.g2 hb, own_block h.row (fun g hg => hb.block g (own_size h.row hg)), h.bel.trans (hb.mono h.bel.size), Nat.le_trans h.size hb.size⟩
theorem CpI.far {SV DV DM : TypeId} {w : World} {p : Option Addr} {n c : Nat} {gen next log seq : Int} {es : List MV} {k : Nat} {v : Value} {W W' : World} (h : CpI SV DV DM w p n c gen next log seq es k v W) (h2 : DV ≠ DM) (hg : W.grownBy W' v.ownBlock) : W'.heap[w.heap.size + 2]? = some (.cells #[.int .i64 gen, .int .i64 next, .int .i64 log, .int .i64 seq, v] DV) := by
  refine (hg.block _ (Array.getElem?_eq_some_iff.1 h.g2).1 (fun e => ?_)).trans h.g2
  obtain ⟨cur, hc⟩ := own_tag h.row e.symm
  rw [h.g2] at hc
  cases hc
  exact h2 rfl
theorem CpI.warm {SV DV DM : TypeId} {w : World} {p : Option Addr} {n c : Nat} {gen next log seq : Int} {es : List MV} {k : Nat} {v : Value} {W W' : World} (h : CpI SV DV DM w p n c gen next log seq es k v W) (h2 : DV ≠ DM) (hg : W.grownBy W' v.ownBlock) : W'.frozen? ⟨w.heap.size + 2, 4, none⟩ = false := by
  have h3 := h.far h2 hg
  simp [World.frozen?, h3]
/-- A row is grown, and laid into the copy's box. -/
theorem CpI.more {SV DV DM : TypeId} {w : World} {p : Option Addr} {n c : Nat} {gen next log seq : Int} {es : List MV} {k : Nat} {v v' : Value} {W W' : World} (h : CpI SV DV DM w p n c gen next log seq es k v W) (h1 : SV ≠ DM) (h2 : DV ≠ DM) (hg : W.grownBy W' v.ownBlock) (hr : W'.ownsRow w.heap.size DM 5 v' (k + 1) (rv metaKind (es.take (k + 1)))) :
    CpI SV DV DM w p n c gen next log seq es (k + 1) v' (W'.setCell ⟨w.heap.size + 2, 4, none⟩ v') := by
  have far : ∀ (g T : Nat) (cs : Array Value) (fz : Nat × Nat), W.heap[g]? = some (.cells cs T fz) → T ≠ DM → W'.heap[g]? = some (.cells cs T fz) := fun g T cs fz hh hT => by
    refine (hg.block g (Array.getElem?_eq_some_iff.1 hh).1 (fun e => ?_)).trans hh
    obtain ⟨cur, hc⟩ := own_tag h.row e.symm
    rw [hc] at hh
    cases hh
    exact hT rfl
  have a0 := far _ _ _ _ h.g0 h1
  have a1 := far _ _ _ _ h.g1 h2
  have a2 := far _ _ _ _ h.g2 h2
  have k1 : ∀ g, g ≠ w.heap.size + 2 → (W'.setCell ⟨w.heap.size + 2, 4, none⟩ v').heap[g]? = W'.heap[g]? := fun g hne => Below.heap_setCell W' ⟨w.heap.size + 2, 4, none⟩ v' g hne
  refine ⟨(k1 _ (by omega)).trans a0, (k1 _ (by omega)).trans a1, set_row a2 4 v', own_block hr (fun g hgg => k1 g (fun e => ?_)), ?_, ?_⟩
  · obtain ⟨cur, hc⟩ := own_tag hr hgg
    rw [e, a2] at hc
    cases hc
    exact h2 rfl
  · exact (h.bel.grown hg h.bel.size (fun j hj => (h.row.lt j hj).1)).setCell (p := ⟨w.heap.size + 2, 4, none⟩) (by show w.heap.size ≤ w.heap.size + 2; omega) _
  · simp only [World.setCell, Array.size_modify]
    exact Nat.le_trans h.size hg.size
set_option maxHeartbeats 4000000 in
set_option maxRecDepth 100000 in
theorem mine11 (x : VV) (w : World) (hx : VV.held w x) (hn : x.n ≤ 1954687338268) :
    Calls Tryz.prog 23 #[x.val] w fun e w' => ∃ y : VV, e = .returned y.val ∧ VV.held w' y ∧ y.v = x.v ∧ y.n = x.n ∧ Below w.heap.size w w' := by
  obtain ⟨i0, hi0, hz0, hz1, hz2⟩ := info_partsM infoMeta
  obtain ⟨p, n, c, gen, next, log, seq, es⟩ := x
  have SX : Hid (RSrc metaKind w p n c es) := hx
  have HN : Hid (es.length = n) := hx.len
  simp only at hn
  unfold VV.val
  simp only
  obtain ⟨W1, hW1⟩ : ∃ W1, ((w.alloc (.cells #[.int .i64 gen, .int .i64 next, .int .i64 log, .int .i64 seq, .slice p n c] 34)).alloc (.cells #[.int .i64 0, .int .i64 0, .int .i64 0, .int .i64 0, .slice none 0 0] 50)) = W1 := ⟨_, rfl⟩
  obtain ⟨W2, hW2⟩ : ∃ W2, W1.alloc (.cells #[.int .i64 gen, .int .i64 next, .int .i64 log, .int .i64 seq, .slice none 0 0] 50) = W2 := ⟨_, rfl⟩
  have s1 : W1.heap.size = w.heap.size + 2 := by rw [← hW1]; simp
  have s2 : W2.heap.size = w.heap.size + 3 := by rw [← hW2]; simp [s1]
  have b1 : Hid (Below w.heap.size w W1) := by rw [← hW1]; exact ((Below.refl _ _).alloc (Nat.le_refl _) _).alloc (by simp) _
  have b2 : Hid (Below W1.heap.size W1 W2) := by rw [← hW2]; exact (Below.refl _ _).alloc (Nat.le_refl _) _
  have h10 : W1.heap[w.heap.size]? = some (.cells #[.int .i64 gen, .int .i64 next, .int .i64 log, .int .i64 seq, .slice p n c] 34) := by
    rw [← hW1]; exact (Below.heap_alloc _ _ _ (by simp)).trans (heap_alloc_new w _)
  have h11 : W1.heap[w.heap.size + 1]? = some (.cells #[.int .i64 0, .int .i64 0, .int .i64 0, .int .i64 0, .slice none 0 0] 50) := by
    have := heap_alloc_new (w.alloc (.cells #[.int .i64 gen, .int .i64 next, .int .i64 log, .int .i64 seq, .slice p n c] 34)) (.cells #[.int .i64 0, .int .i64 0, .int .i64 0, .int .i64 0, .slice none 0 0] 50)
    rw [World.size_alloc] at this
    rw [← hW1]; exact this
  have I0 : Hid (CpI 34 50 113 w p n c gen next log seq es 0 (.slice none 0 0) W2) := by
    refine ⟨below_row h10 b2.out, below_row h11 b2.out, ?_, World.ownsRow_nil _ _ _ _, b1.out.trans (b2.out.mono b1.out.size), Nat.le_of_eq s2.symm⟩
    have := heap_alloc_new W1 (.cells #[.int .i64 gen, .int .i64 next, .int .i64 log, .int .i64 seq, .slice none 0 0] 50)
    rw [hW2, s1] at this
    exact this
  have c0 : W1.cell? ⟨w.heap.size, 0, none⟩ = some (.int .i64 gen) := cell_of_row _ _ _ _ _ _ h10
  have c1 : W1.cell? ⟨w.heap.size, 1, none⟩ = some (.int .i64 next) := cell_of_row _ _ _ _ _ _ h10
  have c2 : W1.cell? ⟨w.heap.size, 2, none⟩ = some (.int .i64 log) := cell_of_row _ _ _ _ _ _ h10
  have c3 : W1.cell? ⟨w.heap.size, 3, none⟩ = some (.int .i64 seq) := cell_of_row _ _ _ _ _ _ h10
  have HW2 := keep hW2
  clear hx h10 h11 hW2
  go_enter Tryz.func23, Tryz.ntmps23
  go_wp2_with fail
  rw [HW2.out]
  go_loopw [4] (fun i wr => ∃ k : Nat, k ≤ n ∧ i = .int .i64 (k : Int) ∧ Hid (∃ v, CpI 34 50 113 w p n c gen next log seq es k v wr)) (fun i _ => n - (intOf i).toNat)
  case atStart => exact ⟨0, Nat.zero_le _, rfl, _, I0.out⟩
  case round =>
    clear I0 HW2 s2 b2
    obtain ⟨k, hk, rfl, hI⟩ := hrel
    obtain ⟨v, hI⟩ := hI.out
    have HI := keep hI
    have x4 : wr.cell? ⟨w.heap.size, 4, none⟩ = some (.slice p n c) := cell_of_row _ _ _ _ _ _ hI.g0
    by_cases hkn : k < n
    · have SR := SX.out.below metaKind_ok hI.bel
      obtain ⟨b, off, rfl, _, _⟩ := SR.form metaKind_ok (by omega)
      obtain ⟨y, hy⟩ : ∃ y, es[k]? = some y := ⟨es[k]'(by rw [HN.out]; exact hkn), List.getElem?_eq_getElem _⟩
      obtain ⟨p0, p1, p2, p3, p4⟩ := meta_cells SR hy
      have TM := keep (take_moreE hy)
      have ll : (k : Int) < (n : Int) := by omega
      have l0 : (0 : Int) ≤ (k : Int) := by omega
      have YV : Hid (y.m = y.m) := rfl
      obtain ⟨W3, hW3⟩ : ∃ W3, wr.alloc (.cells #[.int .i64 y.m.num, .int .i64 y.m.level, .int .i64 y.m.count, .slice y.fp y.m.first.length y.fc, .slice y.lp y.m.last.length y.lc] 73) = W3 := ⟨_, rfl⟩
      have b3 : Hid (Below wr.heap.size wr W3) := by rw [← hW3]; exact (Below.refl _ _).alloc (Nat.le_refl _) _
      have g3 : W3.heap[wr.heap.size]? = some (.cells #[.int .i64 y.m.num, .int .i64 y.m.level, .int .i64 y.m.count, .slice y.fp y.m.first.length y.fc, .slice y.lp y.m.last.length y.lc] 73) := by rw [← hW3]; exact heap_alloc_new wr _
      have m0 : W3.cell? ⟨wr.heap.size, 0, none⟩ = some (.int .i64 y.m.num) := cell_of_row _ _ _ _ _ _ g3
      have m1 : W3.cell? ⟨wr.heap.size, 1, none⟩ = some (.int .i64 y.m.level) := cell_of_row _ _ _ _ _ _ g3
      have m2 : W3.cell? ⟨wr.heap.size, 2, none⟩ = some (.int .i64 y.m.count) := cell_of_row _ _ _ _ _ _ g3
      have m3 : W3.cell? ⟨wr.heap.size, 3, none⟩ = some (.slice y.fp y.m.first.length y.fc) := cell_of_row _ _ _ _ _ _ g3
      have m4 : W3.cell? ⟨wr.heap.size, 4, none⟩ = some (.slice y.lp y.m.last.length y.lc) := cell_of_row _ _ _ _ _ _ g3
      have C3 := keep (HI.out.next b3.out)
      have q4 : W3.cell? ⟨w.heap.size + 2, 4, none⟩ = some v := cell_of_row _ _ _ _ _ _ C3.out.g2
      have b4 : Hid (Below W3.heap.size W3 (W3.alloc (.cells #[.int .i64 y.m.num, .int .i64 y.m.level, .int .i64 y.m.count, .slice y.fp y.m.first.length y.fc, .slice y.lp y.m.last.length y.lc] 113))) := (Below.refl _ _).alloc (Nat.le_refl _) _
      have C4 := keep (C3.out.next b4.out)
      have NEWS : Hid (∀ ad, some (⟨W3.heap.size, 0, none⟩ : Addr) = some ad → ∀ j u, (metaKind.vals y)[j]? = some u → (W3.alloc (.cells #[.int .i64 y.m.num, .int .i64 y.m.level, .int .i64 y.m.count, .slice y.fp y.m.first.length y.fc, .slice y.lp y.m.last.length y.lc] 113)).cell? (ad.add j) = some u) := fun ad had j u hu => by
        cases had
        rw [Addr.add_mid, Nat.zero_add, cell_of_row _ _ _ _ _ _ (heap_alloc_new W3 _)]
        simpa [metaKind] using hu
      have ONE : Hid (∀ u ∈ metaKind.vals y, u.oneCell' = true) := metaKind_ok.one y
      have HKN := keep hkn
      clear hI hy SR
      go_wp2_with (at_builtin; (refine wpList_append_rowsM rfl _ _ 48 113 rfl w.heap.size i0 _ 5 72 Tryz.underlying48 hi0 hz0 hz1 hz2 rfl (by decide) v k (rv metaKind (es.take k)) rfl C4.out.row (some ⟨W3.heap.size, 0, none⟩) 1 1 (metaKind.vals y) rfl (fun h => by cases h) rfl NEWS.out ONE.out (by unfold maxLen; omega) (by omega) C4.out.bel.size ?_); intro v2 w2 ho2 hg2; obtain ⟨a2, c2, rfl⟩ := own_slice ho2; have HO2 := keep ho2; have HG2 := keep hg2; have zr := C4.out.far (by decide) hg2; have z4 : w2.cell? ⟨w.heap.size + 2, 4, none⟩ = some v := cell_of_row _ _ _ _ _ _ zr; have f4 : w2.frozen? ⟨w.heap.size + 2, 4, none⟩ = false := C4.out.warm (by decide) hg2; clear ho2 hg2 zr)
      go_roundw
      case rel => exact ⟨k + 1, by have := HKN.out; omega, by go_num, _, C4.out.more (by decide) (by decide) HG2.out (by rw [TM.out, rv_append]; simpa [rv] using HO2.out)⟩
      case measure => simp [intOf]; omega
    · obtain rfl : k = n := by omega
      have hlt1 : ¬ (k : Int) < (k : Int) := by omega
      have hrow := hI.row
      rw [List.take_of_length_le (by rw [HN.out]; exact Nat.le_refl _)] at hrow
      obtain ⟨ao, c', rfl, _, _⟩ := RSrc.own metaKind_ok hrow (fun y hy => metaKind_ok.below (SX.out.held y hy) hI.bel)
      have HR := keep hrow
      have z0 : wr.cell? ⟨w.heap.size + 1, 0, none⟩ = some (.int .i64 0) := cell_of_row _ _ _ _ _ _ hI.g1
      have z1 : wr.cell? ⟨w.heap.size + 1, 1, none⟩ = some (.int .i64 0) := cell_of_row _ _ _ _ _ _ hI.g1
      have z2 : wr.cell? ⟨w.heap.size + 1, 2, none⟩ = some (.int .i64 0) := cell_of_row _ _ _ _ _ _ hI.g1
      have z3 : wr.cell? ⟨w.heap.size + 1, 3, none⟩ = some (.int .i64 0) := cell_of_row _ _ _ _ _ _ hI.g1
      have z4 : wr.cell? ⟨w.heap.size + 1, 4, none⟩ = some (.slice none 0 0) := cell_of_row _ _ _ _ _ _ hI.g1
      have f0 : wr.frozen? ⟨w.heap.size + 1, 0, none⟩ = false := by simp [World.frozen?, hI.g1]
      have f1 : wr.frozen? ⟨w.heap.size + 1, 1, none⟩ = false := by simp [World.frozen?, hI.g1]
      have f2 : wr.frozen? ⟨w.heap.size + 1, 2, none⟩ = false := by simp [World.frozen?, hI.g1]
      have f3 : wr.frozen? ⟨w.heap.size + 1, 3, none⟩ = false := by simp [World.frozen?, hI.g1]
      have f4 : wr.frozen? ⟨w.heap.size + 1, 4, none⟩ = false := by simp [World.frozen?, hI.g1]
      have t0 : wr.cell? ⟨w.heap.size + 2, 0, none⟩ = some (.int .i64 gen) := cell_of_row _ _ _ _ _ _ hI.g2
      have t1 : wr.cell? ⟨w.heap.size + 2, 1, none⟩ = some (.int .i64 next) := cell_of_row _ _ _ _ _ _ hI.g2
      have t2 : wr.cell? ⟨w.heap.size + 2, 2, none⟩ = some (.int .i64 log) := cell_of_row _ _ _ _ _ _ hI.g2
      have t3 : wr.cell? ⟨w.heap.size + 2, 3, none⟩ = some (.int .i64 seq) := cell_of_row _ _ _ _ _ _ hI.g2
      have t4 : wr.cell? ⟨w.heap.size + 2, 4, none⟩ = some (.slice ao k c') := cell_of_row _ _ _ _ _ _ hI.g2
      have hle : w.heap.size ≤ w.heap.size + 1 := Nat.le_succ _
      have BF : Hid (Below w.heap.size w (((((wr.setCell ⟨w.heap.size + 1, 0, none⟩ (.int .i64 gen)).setCell ⟨w.heap.size + 1, 1, none⟩ (.int .i64 next)).setCell ⟨w.heap.size + 1, 2, none⟩ (.int .i64 log)).setCell ⟨w.heap.size + 1, 3, none⟩ (.int .i64 seq)).setCell ⟨w.heap.size + 1, 4, none⟩ (.slice ao k c'))) := (((((HI.out.bel.setCell (p := ⟨w.heap.size + 1, 0, none⟩) hle _).setCell (p := ⟨w.heap.size + 1, 1, none⟩) hle _).setCell (p := ⟨w.heap.size + 1, 2, none⟩) hle _).setCell (p := ⟨w.heap.size + 1, 3, none⟩) hle _).setCell (p := ⟨w.heap.size + 1, 4, none⟩) hle _)
      have OF := keep (own_fiveX HR.out HI.out.g1 (by decide) (.int .i64 gen) (.int .i64 next) (.int .i64 log) (.int .i64 seq) (.slice ao k c'))
      clear hI hrow
      go_wp2
      refine ⟨rfl, .agg #[.int .i64 gen, .int .i64 next, .int .i64 log, .int .i64 seq, .slice ao k c'], ?_, ?_⟩
      · have r0 : (wr.setCell ⟨w.heap.size + 1, 0, none⟩ (.int .i64 gen)).cell? ⟨w.heap.size + 1, 0, none⟩ = some (.int .i64 gen) := World.cell?_setCell_same' _ _ _ (by simp [go_sem, z0])
        have r1 : ((wr.setCell ⟨w.heap.size + 1, 0, none⟩ (.int .i64 gen)).setCell ⟨w.heap.size + 1, 1, none⟩ (.int .i64 next)).cell? ⟨w.heap.size + 1, 1, none⟩ = some (.int .i64 next) := World.cell?_setCell_same' _ _ _ (by simp [go_sem, z1])
        have r2 : (((wr.setCell ⟨w.heap.size + 1, 0, none⟩ (.int .i64 gen)).setCell ⟨w.heap.size + 1, 1, none⟩ (.int .i64 next)).setCell ⟨w.heap.size + 1, 2, none⟩ (.int .i64 log)).cell? ⟨w.heap.size + 1, 2, none⟩ = some (.int .i64 log) := World.cell?_setCell_same' _ _ _ (by simp [go_sem, z2])
        have r3 : ((((wr.setCell ⟨w.heap.size + 1, 0, none⟩ (.int .i64 gen)).setCell ⟨w.heap.size + 1, 1, none⟩ (.int .i64 next)).setCell ⟨w.heap.size + 1, 2, none⟩ (.int .i64 log)).setCell ⟨w.heap.size + 1, 3, none⟩ (.int .i64 seq)).cell? ⟨w.heap.size + 1, 3, none⟩ = some (.int .i64 seq) := World.cell?_setCell_same' _ _ _ (by simp [go_sem, z3])
        have r4 : (((((wr.setCell ⟨w.heap.size + 1, 0, none⟩ (.int .i64 gen)).setCell ⟨w.heap.size + 1, 1, none⟩ (.int .i64 next)).setCell ⟨w.heap.size + 1, 2, none⟩ (.int .i64 log)).setCell ⟨w.heap.size + 1, 3, none⟩ (.int .i64 seq)).setCell ⟨w.heap.size + 1, 4, none⟩ (.slice ao k c')).cell? ⟨w.heap.size + 1, 4, none⟩ = some (.slice ao k c') := World.cell?_setCell_same' _ _ _ (by simp [go_sem, z4])
        simp [results, Tryz.f23, go_sem, loadCells, loadCellsFrom, r0, r1, r2, r3, r4]
      · obtain ⟨ao2, c2, e2, hs2, _⟩ := RSrc.own metaKind_ok OF.out (fun y hy => metaKind_ok.below (SX.out.held y hy) BF.out)
        cases e2
        exact ⟨⟨ao, k, c', gen, next, log, seq, es⟩, rfl, hs2, rfl, rfl, BF.out⟩
end Go.Proofs.YthnebhddakfadaaGreatDoor
namespace Go.Proofs.YthnebhddakfadaaGreatDoor
open Go.RowKit
open Dk (File Disk)

def awV7 : Ed.Ver := ⟨1, 0, 0, 7, []⟩
theorem aw7_chk : Ed.chk awV7 = true := by decide
theorem aw7_bytes : (Ed.verB awV7).length = 5 := by
  have h : ∀ z : Int, 0 ≤ z → z < 128 → (num (cl z)).length = 1 := fun z h0 h1 => by
    rw [num_small (by unfold cl; omega)]
    rfl
  unfold awV7 Ed.verB Ed.numsB Ed.notesB
  simp only [List.flatMap_cons, List.flatMap_nil, List.length_append, List.length_nil, List.append_nil]
  rw [h 1 (by omega) (by omega), h 0 (by omega) (by omega), h 7 (by omega) (by omega)]
  rw [show (num (cl ((0 : Nat) : Int))).length = 1 from h 0 (by omega) (by omega)]
theorem man1 : manN 1 = [109, 97, 110, 47, 48, 48, 48, 48, 48, 48, 48, 48, 48, 48, 48, 48, 49] := by
  unfold manN
  rw [digs_fix rfl]
  rfl
theorem frame_small {b : List UInt8} (h : b.length < 128) : (frame b).length = b.length + 5 := by
  have h1 := frame_length b
  have h2 : (num b.length).length = 1 := by rw [num_small h]; rfl
  omega
theorem chunks_one {fr : List UInt8} (h0 : 0 < fr.length) (h : fr.length ≤ 4096) : chunksOf fr = [fr] := by
  unfold chunksOf
  rw [show (fr.length + 4095) / 4096 = 1 by omega]
  show [chunkOf fr 0] = [fr]
  unfold chunkOf
  rw [Nat.zero_mul, List.drop_zero, List.take_of_length_le h]
/-- The files of the example's save. -/
theorem aw7_save : ∃ f1 f2, catSave ⟨1000, [], 0, none, false⟩ awV7 = (0, ⟨1000, [⟨curN, 6, f2⟩, ⟨manN 1, 10, f1⟩], 5, none, false⟩) := by
  have h1 : (frame (Ed.verB awV7)).length = 10 := by rw [frame_small (by rw [aw7_bytes]; omega), aw7_bytes]
  have hn : (num (cl awV7.gen)).length = 1 := by
    show (num (cl 1)).length = 1
    rw [num_small (by unfold cl; omega)]
    rfl
  have h2 : (frame (num (cl awV7.gen))).length = 6 := by rw [frame_small (by rw [hn]; omega), hn]
  obtain ⟨f1, hf1⟩ : ∃ f1, frame (Ed.verB awV7) = f1 := ⟨_, rfl⟩
  obtain ⟨f2, hf2⟩ : ∃ f2, frame (num (cl awV7.gen)) = f2 := ⟨_, rfl⟩
  refine ⟨f1, f2, ?_⟩
  rw [hf1] at h1
  rw [hf2] at h2
  have hv : verF awV7 = [(manN 1, f1), (tmpN, f2)] := by unfold verF; rw [hf1, hf2]; rfl
  have hm : isMan (manN 1) = true := isMan_yes rfl
  have hl : (manN 1).length = 17 := by rw [man1]; rfl
  have hc : costF (verF awV7) = 69 := by rw [hv]; simp [costF, hl, h1, h2, tmpN]
  have hg : awV7.gen = 1 := rfl
  have lt : less tmpN (manN 1) = true := by rw [man1]; rfl
  have lc : less curN (manN 1) = true := by rw [man1]; rfl
  have ln : less (manN 1) tmpN = false := by rw [man1]; rfl
  have ne1 : manN 1 ≠ tmpN := manN_tmp 1
  have ne2 : manN 1 ≠ curN := manN_cur 1
  have nm := manN_named (n := 1) rfl
  have w1 : walGo ⟨1000, [], 0, none, false⟩ (manN 1) f1 = (0, ⟨1000, [⟨manN 1, 10, f1⟩], 2, none, false⟩) := by
    have a1 : Dk.raw ⟨1000, [], 0, none, false⟩ 0 (manN 1) [] f1 = (0, ⟨1000, [⟨manN 1, 0, f1⟩], 1, none, false⟩) := by
      simp [Dk.raw, Dk.plan, Dk.guard, nm, h1, Dk.planAppend, Dk.look, Dk.used, hl, Dk.put, Dk.act, Dk.write, Dk.tick]
    have a2 : Dk.raw ⟨1000, [⟨manN 1, 0, f1⟩], 1, none, false⟩ 1 (manN 1) [] [] = (0, ⟨1000, [⟨manN 1, 10, f1⟩], 2, none, false⟩) := by
      simp [Dk.raw, Dk.plan, Dk.guard, nm, h1, Dk.planSync, Dk.look, Dk.put, less_irrefl, Dk.act, Dk.write, Dk.tick]
    unfold walGo
    rw [chunks_one (by omega) (by omega)]
    simp only [adds, a1, if_true]
    rw [a2]
  have w2 : walGo ⟨1000, [⟨manN 1, 10, f1⟩], 2, none, false⟩ tmpN f2 = (0, ⟨1000, [⟨tmpN, 6, f2⟩, ⟨manN 1, 10, f1⟩], 4, none, false⟩) := by
    have a1 : Dk.raw ⟨1000, [⟨manN 1, 10, f1⟩], 2, none, false⟩ 0 tmpN [] f2 = (0, ⟨1000, [⟨tmpN, 0, f2⟩, ⟨manN 1, 10, f1⟩], 3, none, false⟩) := by
      have hz : tmpN.length = 4 := rfl
      simp [Dk.raw, Dk.plan, Dk.guard, tmpN_named, h1, h2, Dk.planAppend, Dk.look, ne1, Dk.used, Dk.cost, hl, hz, Dk.put, ln, Dk.act, Dk.write, Dk.tick]
    have a2 : Dk.raw ⟨1000, [⟨tmpN, 0, f2⟩, ⟨manN 1, 10, f1⟩], 3, none, false⟩ 1 tmpN [] [] = (0, ⟨1000, [⟨tmpN, 6, f2⟩, ⟨manN 1, 10, f1⟩], 4, none, false⟩) := by
      simp [Dk.raw, Dk.plan, Dk.guard, tmpN_named, h2, Dk.planSync, Dk.look, Dk.put, less_irrefl, Dk.act, Dk.write, Dk.tick]
    unfold walGo
    rw [chunks_one (by omega) (by omega)]
    simp only [adds, a1, if_true]
    rw [a2]
  have r1 : rmvAll (fun n => n == tmpN || n == manN awV7.gen) ⟨1000, [], 0, none, false⟩ = (0, ⟨1000, [], 0, none, false⟩) := rfl
  have r2 : wrt ⟨1000, [], 0, none, false⟩ (verF awV7) = (0, ⟨1000, [⟨tmpN, 6, f2⟩, ⟨manN 1, 10, f1⟩], 4, none, false⟩) := by
    rw [hv]
    simp only [wrt, w1, if_true, w2]
  have r3 : Dk.raw ⟨1000, [⟨tmpN, 6, f2⟩, ⟨manN 1, 10, f1⟩], 4, none, false⟩ 2 tmpN curN [] = (0, ⟨1000, [⟨curN, 6, f2⟩, ⟨manN 1, 10, f1⟩], 5, none, false⟩) := by
    have hz : tmpN.length = 4 := rfl
    have hy : curN.length = 3 := rfl
    have n3 : ¬ tmpN = curN := by decide
    have n4 : less (manN 1) curN = false := by rw [man1]; rfl
    simp [Dk.raw, Dk.plan, Dk.guard, tmpN_named, curN_named, Dk.planRename, Dk.look, Dk.wants, n3, ne1, ne2, Dk.used, Dk.cost, hl, hz, hy, h1, h2, Dk.drop, Dk.put, n4, Dk.act, Dk.write, Dk.tick]
  have r4 : rmvAll (fun n => isMan n && !(n == manN awV7.gen)) ⟨1000, [⟨curN, 6, f2⟩, ⟨manN 1, 10, f1⟩], 5, none, false⟩ = (0, ⟨1000, [⟨curN, 6, f2⟩, ⟨manN 1, 10, f1⟩], 5, none, false⟩) := by
    rw [hg]
    simp [rmvAll, namesOf, rmv, isMan_cur]
  have e1 : catSave ⟨1000, [], 0, none, false⟩ awV7 = catGo ⟨1000, [], 0, none, false⟩ awV7 := by
    unfold catSave
    rw [if_neg (by rw [aw7_chk, hg]; decide), if_neg (by decide), hc, if_neg (by simp [Dk.used])]
  rw [e1, catGo_d r1 r2 r3, r4]
theorem tab3 : calledL [116, 97, 98, 47] 3 = [116, 97, 98, 47, 48, 48, 48, 48, 48, 48, 48, 48, 48, 48, 48, 48, 51] := by
  unfold calledL
  rw [if_pos (show isSeg 3 = true from rfl), digs_fix rfl]
  rfl
theorem tabM : calledL [116, 97, 98, 47] (-1) = [] := rfl
/-- A disk that was made since w, in a world where the library's variables lie. -/
structure DW (w : World) (S : Nat → Prop) (W : World) (b : Nat) (d : Disk) : Prop where
  mem : Mem S W b d
  news : ∀ g, Go.Proofs.YthnebhddakfadaaGreatDoor.mine S b g → w.heap.size ≤ g
  bel : Below w.heap.size w W
  gl : Gl w
theorem DW.next {w : World} {S : Nat → Prop} {W W' : World} {b : Nat} {d : Disk} (h : DW w S W b d) (hb : Below W.heap.size W W') : DW w S W' b d := ⟨h.mem.below hb, h.news, h.bel.trans (hb.mono h.bel.size), h.gl⟩
theorem DW.gW {w : World} {S : Nat → Prop} {W : World} {b : Nat} {d : Disk} (h : DW w S W b d) : Gl W := h.gl.below h.bel
theorem DW.gK {w : World} {S : Nat → Prop} {W W' : World} {b : Nat} {d : Disk} (h : DW w S W b d) (hk : Kept (Go.Proofs.YthnebhddakfadaaGreatDoor.mine S b) W W') : Below w.heap.size w W' := h.bel.trans (hk.below h.bel.size h.news)
theorem DW.then {w : World} {S S' : Nat → Prop} {W W' : World} {b : Nat} {d d' : Disk} (h : DW w S W b d) (h' : Own (Go.Proofs.YthnebhddakfadaaGreatDoor.mine S b) W S' W' b d') : DW w S' W' b d' := by
  refine ⟨h'.mem, fun g hg => ?_, h.gK h'.bel, h.gl⟩
  rcases (h'.mines g hg).1 with h1 | h1
  · exact h.news g h1
  · exact Nat.le_trans h.bel.size h1
set_option maxHeartbeats 4000000 in
set_option maxRecDepth 100000 in
theorem awake11 (w : World) (hg : Gl w) : Calls Tryz.prog 9 #[] w fun e w' => e = .returned (.bool true) ∧ Below w.heap.size w w' := by
  have hn := keep (new_mem 1000 w (by omega))
  rw [show ((1000 : Nat) : Int) = 1000 from rfl] at hn
  obtain ⟨f1, f2, hsv⟩ := aw7_save
  have SV := keep hsv
  have SU := keep (catSave_ok (Dk.new_good 1000) (v := awV7) (by rw [hsv]))
  have L1 : Hid (catLoad ⟨1000, [], 0, none, false⟩ = (0, zeroVer)) := catLoad_none rfl
  have L2 := keep SU.out.2.2.load
  rw [hsv] at L2
  have T3 : Hid (∀ w', Below w.heap.size w w' → Calls Tryz.prog 17 #[.int .i64 3] w' fun e w'' => e = .returned (.string ⟨#[116, 97, 98, 47, 48, 48, 48, 48, 48, 48, 48, 48, 48, 48, 48, 48, 51]⟩) ∧ Below w'.heap.size w' w'') := fun w' hb => by
    have := table_any 3 w' (hg.below hb).tab
    rw [tab3] at this
    exact this
  have TM : Hid (∀ w', Below w.heap.size w w' → Calls Tryz.prog 17 #[.int .i64 (-1)] w' fun e w'' => e = .returned (.string ⟨#[]⟩) ∧ Below w'.heap.size w' w'') := fun w' hb => by
    have := table_any (-1) w' (hg.below hb).tab
    rw [tabM] at this
    exact this
  have HC : Hid ((Dk.look (⟨1000, [⟨curN, 6, f2⟩, ⟨manN 1, 10, f1⟩], 5, none, false⟩ : Disk).files [99, 117, 114]).isSome = true) := rfl
  have HM : Hid ((Dk.look (⟨1000, [⟨curN, 6, f2⟩, ⟨manN 1, 10, f1⟩], 5, none, false⟩ : Disk).files [109, 97, 110, 47, 48, 48, 48, 48, 48, 48, 48, 48, 48, 48, 48, 48, 49]).isSome = true) := by
    show _ = _
    rw [← man1]
    simp only [Dk.look]
    rw [if_neg (fun e => manN_cur 1 e.symm), if_pos trivial]
    rfl
  have HG := keep hg
  clear hsv hg SU
  go_enter Tryz.func9, Tryz.ntmps9
  go_wp2_with fail
  refine hn.out.mono ?_
  rintro e w1 ⟨b, S, rfl, hm, hs, hb, hbel⟩
  have D1 : Hid (DW w S w1 b ⟨1000, [], 0, none, false⟩) := ⟨hm, fun g hg => by
    rcases hg with hg | hg
    · exact hs g hg
    · rw [hg]; exact hb, hbel, HG.out⟩
  have LA := keep (catload_any S b _ w1 D1.out.mem D1.out.gW)
  rw [L1.out] at LA
  unfold LoadA at LA
  clear hm hs hb hbel hn
  go_wp2_with fail
  refine LA.out.mono ?_
  rintro e w2 ⟨⟨y, rfl, _, hyv⟩, hb2⟩
  have hgen : y.gen = 0 := (VV.isV hyv).1
  obtain ⟨yp, yn, yc, ygen, ynext, ylog, yseq, yes⟩ := y
  simp only at hgen
  subst hgen
  unfold VV.val
  simp only
  obtain ⟨W3, hW3⟩ : ∃ W3, w2.alloc (.cells #[.int .i64 0, .int .i64 ynext, .int .i64 ylog, .int .i64 yseq, .slice yp yn yc] 50) = W3 := ⟨_, rfl⟩
  have b3 : Hid (Below w2.heap.size w2 W3) := by rw [← hW3]; exact (Below.refl _ _).alloc (Nat.le_refl _) _
  have g3 : Hid (W3.heap[w2.heap.size]? = some (.cells #[.int .i64 0, .int .i64 ynext, .int .i64 ylog, .int .i64 yseq, .slice yp yn yc] 50)) := by rw [← hW3]; exact heap_alloc_new w2 _
  have D3 := keep (D1.out.next (hb2.trans (b3.out.mono hb2.size)))
  have SA := keep (save_own S W3 b _ ⟨none, 0, 0, 1, 0, 0, 7, []⟩ D3.out.mem (RSrc.empty (fun _ => rfl)) (fun w' hk => HG.out.below (D3.out.gK hk)) (by decide))
  have hV : VV.v ⟨none, 0, 0, 1, 0, 0, 7, []⟩ = awV7 := rfl
  rw [hV, SV.out] at SA
  unfold VV.val at SA
  simp only at SA
  have N3 : Hid (¬ Go.Proofs.YthnebhddakfadaaGreatDoor.mine S b w2.heap.size) := fun e => by
    have h1 := D1.out.mem.lt
    have h2 := hb2.size
    rcases e with e | e
    · have := h1.1 _ e; omega
    · have := h1.2.1; omega
  clear hyv hb2 LA hV
  go_wp2_with fail
  refine SA.out.mono ?_
  rintro e w4 ⟨S4, rfl, hO4⟩
  have D4 := keep (D3.out.then hO4)
  have q4 : Hid (w4.heap[w2.heap.size]? = some (.cells #[.int .i64 0, .int .i64 ynext, .int .i64 ylog, .int .i64 yseq, .slice yp yn yc] 50)) := (hO4.bel.block _ (Array.getElem?_eq_some_iff.1 g3.out).1 N3.out).trans g3.out
  have LB := keep (catload_any S4 b _ w4 D4.out.mem D4.out.gW)
  rw [L2.out] at LB
  unfold LoadA at LB
  clear hO4 SA hW3
  go_wp2_with fail
  refine LB.out.mono ?_
  rintro e w5 ⟨⟨z, rfl, _, hzv⟩, hb5⟩
  have hz1 : z.gen = 1 := (VV.isV hzv).1
  have hz7 : z.seq = 7 := (VV.isV hzv).2.2.2.1
  obtain ⟨zp, zn, zc, zgen, znext, zlog, zseq, zes⟩ := z
  simp only at hz1 hz7
  subst hz1 hz7
  unfold VV.val
  simp only
  obtain ⟨W6, hW6⟩ : ∃ W6, w5.alloc (.cells #[.int .i64 1, .int .i64 znext, .int .i64 zlog, .int .i64 7, .slice zp zn zc] 50) = W6 := ⟨_, rfl⟩
  have b6 : Hid (Below w5.heap.size w5 W6) := by rw [← hW6]; exact (Below.refl _ _).alloc (Nat.le_refl _) _
  have L46 := keep (hb5.trans (b6.out.mono hb5.size))
  have g6 : W6.heap[w5.heap.size]? = some (.cells #[.int .i64 1, .int .i64 znext, .int .i64 zlog, .int .i64 7, .slice zp zn zc] 50) := by rw [← hW6]; exact heap_alloc_new w5 _
  have q6 := below_row q4.out L46.out
  have D6 := keep (D4.out.next L46.out)
  have x0 : W6.cell? ⟨w2.heap.size, 0, none⟩ = some (.int .i64 0) := cell_of_row _ _ _ _ _ _ q6
  have x1 : W6.cell? ⟨w5.heap.size, 0, none⟩ = some (.int .i64 1) := cell_of_row _ _ _ _ _ _ g6
  have x2 : W6.cell? ⟨w5.heap.size, 3, none⟩ = some (.int .i64 7) := cell_of_row _ _ _ _ _ _ g6
  have NM : Hid (Calls Tryz.prog 28 #[.pointer (some ⟨b, 0, none⟩)] W6 fun e w' => (∃ ao c, e = .returned (.slice ao 2 c)) ∧ Below W6.heap.size W6 w') := by
    obtain ⟨m, l, left, hm⟩ := D6.out.mem
    refine (names_mem S4 b m l left _ W6 hm).mono ?_
    rintro e w' ⟨ao, c, rfl, _, _, hb⟩
    exact ⟨⟨ao, c, rfl⟩, hb⟩
  clear hzv hb5 LB q6 g6
  go_wp2_with fail
  refine NM.out.mono ?_
  rintro e w7 ⟨⟨ao, c, rfl⟩, hb7⟩
  have D7 := keep (D6.out.next hb7)
  clear hb7 NM
  go_wp2_with fail
  refine (has_mem S4 b _ [99, 117, 114] w7 D7.out.mem (by decide)).mono ?_
  rintro e w8 ⟨rfl, hb8⟩
  rw [HC.out]
  have D8 := keep (D7.out.next hb8)
  clear hb8
  go_wp2_with fail
  refine (has_mem S4 b _ [109, 97, 110, 47, 48, 48, 48, 48, 48, 48, 48, 48, 48, 48, 48, 48, 49] w8 D8.out.mem (by decide)).mono ?_
  rintro e w9 ⟨rfl, hb9⟩
  rw [HM.out]
  have D9 := keep (D8.out.next hb9)
  clear hb9
  go_wp2_with fail
  refine (T3.out w9 D9.out.bel).mono ?_
  rintro e w10 ⟨rfl, hb10⟩
  have D10 := keep (D9.out.next hb10)
  clear hb10
  go_wp2_with fail
  refine (TM.out w10 D10.out.bel).mono ?_
  rintro e w11 ⟨rfl, hb11⟩
  have D11 := keep (D10.out.next hb11)
  clear hb11
  go_wp2
  go_ret
  exact ⟨rfl, D11.out.bel⟩
end Go.Proofs.YthnebhddakfadaaGreatDoor
