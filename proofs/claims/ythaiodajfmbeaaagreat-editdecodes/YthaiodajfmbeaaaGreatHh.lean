/- The walk of Apply. -/
import Derived.Test.YthaiodajfmbeaaaGreatHf
import Derived.Test.YthaiodajfmbeaaaGreatHg
import Derived.Shelf.SlSortCmp.NoneTotal
namespace Go.Proofs.YthaiodajfmbeaaaGreat
open Go.RowKit
open Ed (Nt)

theorem RSrc.setFar {α : Type} {k : Kind α} {w : World} {ao : Option Addr} {n c : Nat} {es : List α} (h : RSrc k w ao n c es) {b i : Nat} {v : Value} (hf : ∀ ad, ao = some ad → ad.block ≠ b) (hh : ∀ e ∈ es, k.held (w.setCell ⟨b, i, none⟩ v) e) : RSrc k (w.setCell ⟨b, i, none⟩ v) ao n c es :=
  ⟨h.len, h.cap, h.nil, fun ad e j u hu => by
    have hb : (ad.add j).block = ad.block := by first | rfl | (unfold Addr.add; split <;> rfl) | simp [Addr.add]
    rw [World.cell?_of_block (w := w) (set_farM i v (by rw [hb]; exact hf ad e))]
    exact h.cells ad e j u hu, hh⟩
/-- The same cell set in both. -/
theorem Below.both {B : Nat} {a b : World} (h : Below B a b) {g i : Nat} (v : Value) (hg : g < B) : Below B (a.setCell ⟨g, i, none⟩ v) (b.setCell ⟨g, i, none⟩ v) :=
  ⟨h.os, h.tape, h.output, by simp only [World.setCell, Array.size_modify]; exact h.size, fun k hk => by
    by_cases e : k = g
    · subst e
      have := h.block k hk
      simp only [World.setCell, Array.getElem?_modify, if_pos, this]
    · rw [set_farM i v e, set_farM i v e]
      exact h.block k hk⟩
theorem RowG.far {w : World} {g cap b i : Nat} {cur : List MV} {v : Value} (h : RowG w g cap cur) (hb : g ≠ b) : RowG (w.setCell ⟨b, i, none⟩ v) g cap cur := by
  obtain ⟨arr, h1, h2, h3⟩ := h.ex
  exact ⟨⟨arr, (set_farM i v hb).trans h1, h2, h3⟩, h.le⟩
theorem Mets.far {B : Nat} {w : World} {v : Value} {ys : List MV} (h : Mets B w v ys) {b i : Nat} {u : Value} (hb : b < B) : Mets B (w.setCell ⟨b, i, none⟩ u) v ys := by
  have one : ∀ {t k n : Nat} {x : Value} {xs : List Value}, w.ownsRow B t k x n xs → (w.setCell ⟨b, i, none⟩ u).ownsRow B t k x n xs := fun hr => own_block hr (fun g hg => set_farM i u (by have := (hr.lt g hg).1; omega))
  exact ⟨one h.row, fun y hy => ⟨one (h.each y hy).1, one (h.each y hy).2⟩⟩
def zeroV : VV := ⟨none, 0, 0, 0, 0, 0, 0, []⟩
theorem zeroV_held (w : World) : VV.held w zeroV := RSrc.empty (fun _ => rfl)
/-- Apply's answer. -/
def AppA (v : Ed.Ver) (ds : List Int) (ms : List Nt) (w : World) (e : Ending) (w' : World) : Prop :=
  (∃ y : VV, e = .returned (.tuple #[y.val, .int .i64 (if Ed.applies v ds ms then 0 else 1)]) ∧ VV.held w' y ∧ y.v = (if Ed.applies v ds ms then Ed.after v ds ms else zeroV.v)) ∧ Below w.heap.size w w'
theorem AppA.no {v : Ed.Ver} {ds : List Int} {ms : List Nt} {w w' : World} (h : Ed.applies v ds ms = false) (hb : Below w.heap.size w w') : AppA v ds ms w (.returned (.tuple #[.agg #[.int .i64 0, .int .i64 0, .int .i64 0, .int .i64 0, .slice none 0 0], .int .i64 1])) w' :=
  ⟨⟨zeroV, by rw [h]; rfl, zeroV_held _, by rw [h]; rfl⟩, hb⟩
set_option maxHeartbeats 8000000 in
set_option maxRecDepth 100000 in
theorem apply_any (x : VV) (dp : Option Addr) (dn dc : Nat) (ds : List Int) (ap : Option Addr) (an ac : Nat) (ms : List MV) (w : World) (hx : VV.held w x) (hd : RSrc inK w dp dn dc ds) (ha : RSrc metaKind w ap an ac ms) (hdn : dn ≤ 1000000) (han : an ≤ 900000) :
    Calls Tryz.prog 10 #[x.val, .slice dp dn dc, .slice ap an ac] w fun e w' => AppA x.v ds (ms.map (·.m)) w e w' := by
  obtain ⟨p, n, c, gen, next, log, seq, es⟩ := x
  have SX : Hid (RSrc metaKind w p n c es) := hx
  have SD := keep hd
  have SA := keep ha
  have HL : Hid (es.length = n) := hx.len
  clear hd ha
  unfold VV.val
  simp only
  obtain ⟨A, hA⟩ : ∃ A, Ed.applies (VV.v ⟨p, n, c, gen, next, log, seq, es⟩) ds (ms.map (·.m)) = A := ⟨_, rfl⟩
  obtain ⟨W1, hW1⟩ : ∃ W1, (w.alloc (.cells #[.int .i64 gen, .int .i64 next, .int .i64 log, .int .i64 seq, .slice p n c] 26)).alloc (.cells #[.int .i64 0, .int .i64 0, .int .i64 0, .int .i64 0, .slice none 0 0] 26) = W1 := ⟨_, rfl⟩
  have b1 : Hid (Below w.heap.size w W1) := by rw [← hW1]; exact ((Below.refl _ _).alloc (Nat.le_refl _) _).alloc (by simp) _
  have s1 : Hid (W1.heap.size = w.heap.size + 2) := by rw [← hW1]; show _ = _; simp
  have g0 : Hid (W1.heap[w.heap.size]? = some (.cells #[.int .i64 gen, .int .i64 next, .int .i64 log, .int .i64 seq, .slice p n c] 26)) := by
    rw [← hW1]; exact (Below.heap_alloc _ _ _ (by simp)).trans (heap_alloc_new w _)
  have g1 : Hid (W1.heap[w.heap.size + 1]? = some (.cells #[.int .i64 0, .int .i64 0, .int .i64 0, .int .i64 0, .slice none 0 0] 26)) := by
    have := heap_alloc_new (w.alloc (.cells #[.int .i64 gen, .int .i64 next, .int .i64 log, .int .i64 seq, .slice p n c] 26)) (.cells #[.int .i64 0, .int .i64 0, .int .i64 0, .int .i64 0, .slice none 0 0] 26)
    rw [World.size_alloc] at this
    rw [← hW1]; exact this
  have CK := keep (vcheck_any ⟨p, n, c, gen, next, log, seq, es⟩ W1 (SX.out.below metaKind_ok b1.out))
  unfold VV.val at CK
  simp only at CK
  have x0 : W1.cell? ⟨w.heap.size, 0, none⟩ = some (.int .i64 gen) := cell_of_row _ _ _ _ _ _ g0.out
  have x1 : W1.cell? ⟨w.heap.size, 1, none⟩ = some (.int .i64 next) := cell_of_row _ _ _ _ _ _ g0.out
  have x2 : W1.cell? ⟨w.heap.size, 2, none⟩ = some (.int .i64 log) := cell_of_row _ _ _ _ _ _ g0.out
  have x3 : W1.cell? ⟨w.heap.size, 3, none⟩ = some (.int .i64 seq) := cell_of_row _ _ _ _ _ _ g0.out
  have x4 : W1.cell? ⟨w.heap.size, 4, none⟩ = some (.slice p n c) := cell_of_row _ _ _ _ _ _ g0.out
  cases hck : Ed.chk (VV.v ⟨p, n, c, gen, next, log, seq, es⟩) with
  | false =>
    have hA0 : Ed.applies (VV.v ⟨p, n, c, gen, next, log, seq, es⟩) ds (ms.map (·.m)) = false := by unfold Ed.applies; rw [hck]; rfl
    have NO := keep (fun w' => AppA.no (w := w) (w' := w') hA0)
    have e1 : chkN (VV.v ⟨p, n, c, gen, next, log, seq, es⟩) = 1 := by unfold chkN; rw [hck]; rfl
    rw [e1] at CK
    clear hck hA hA0 e1
    go_enter Tryz.func10, Tryz.ntmps10
    go_wp2_with fail
    refine CK.out.mono ?_
    rintro e w2 ⟨rfl, hb2⟩
    have B2 := keep (b1.out.trans (hb2.mono b1.out.size))
    have G2 : Hid (w2.heap[w.heap.size + 1]? = _) := (hb2.block _ (by rw [s1.out]; omega)).trans g1.out
    have z0 : w2.cell? ⟨w.heap.size + 1, 0, none⟩ = some (.int .i64 0) := cell_of_row _ _ _ _ _ _ G2.out
    have z1 : w2.cell? ⟨w.heap.size + 1, 1, none⟩ = some (.int .i64 0) := cell_of_row _ _ _ _ _ _ G2.out
    have z2 : w2.cell? ⟨w.heap.size + 1, 2, none⟩ = some (.int .i64 0) := cell_of_row _ _ _ _ _ _ G2.out
    have z3 : w2.cell? ⟨w.heap.size + 1, 3, none⟩ = some (.int .i64 0) := cell_of_row _ _ _ _ _ _ G2.out
    have z4 : w2.cell? ⟨w.heap.size + 1, 4, none⟩ = some (.slice none 0 0) := cell_of_row _ _ _ _ _ _ G2.out
    have f0 : w2.frozen? ⟨w.heap.size + 1, 0, none⟩ = false := by simp [World.frozen?, G2.out]
    have f1 : w2.frozen? ⟨w.heap.size + 1, 1, none⟩ = false := by simp [World.frozen?, G2.out]
    have f2 : w2.frozen? ⟨w.heap.size + 1, 2, none⟩ = false := by simp [World.frozen?, G2.out]
    have f3 : w2.frozen? ⟨w.heap.size + 1, 3, none⟩ = false := by simp [World.frozen?, G2.out]
    have f4 : w2.frozen? ⟨w.heap.size + 1, 4, none⟩ = false := by simp [World.frozen?, G2.out]
    clear hb2 CK x0 x1 x2 x3 x4
    go_wp2
    refine ⟨rfl, .tuple #[.agg #[.int .i64 0, .int .i64 0, .int .i64 0, .int .i64 0, .slice none 0 0], .int .i64 1], ?_, ?_⟩
    · have r0 : (w2.setCell ⟨w.heap.size + 1, 0, none⟩ (.int .i64 0)).cell? ⟨w.heap.size + 1, 0, none⟩ = some (.int .i64 0) := World.cell?_setCell_same' _ _ _ (by simp [go_sem, z0])
      have r1 : ((w2.setCell ⟨w.heap.size + 1, 0, none⟩ (.int .i64 0)).setCell ⟨w.heap.size + 1, 1, none⟩ (.int .i64 0)).cell? ⟨w.heap.size + 1, 1, none⟩ = some (.int .i64 0) := World.cell?_setCell_same' _ _ _ (by simp [go_sem, z1])
      have r2 : (((w2.setCell ⟨w.heap.size + 1, 0, none⟩ (.int .i64 0)).setCell ⟨w.heap.size + 1, 1, none⟩ (.int .i64 0)).setCell ⟨w.heap.size + 1, 2, none⟩ (.int .i64 0)).cell? ⟨w.heap.size + 1, 2, none⟩ = some (.int .i64 0) := World.cell?_setCell_same' _ _ _ (by simp [go_sem, z2])
      have r3 : ((((w2.setCell ⟨w.heap.size + 1, 0, none⟩ (.int .i64 0)).setCell ⟨w.heap.size + 1, 1, none⟩ (.int .i64 0)).setCell ⟨w.heap.size + 1, 2, none⟩ (.int .i64 0)).setCell ⟨w.heap.size + 1, 3, none⟩ (.int .i64 0)).cell? ⟨w.heap.size + 1, 3, none⟩ = some (.int .i64 0) := World.cell?_setCell_same' _ _ _ (by simp [go_sem, z3])
      have r4 : (((((w2.setCell ⟨w.heap.size + 1, 0, none⟩ (.int .i64 0)).setCell ⟨w.heap.size + 1, 1, none⟩ (.int .i64 0)).setCell ⟨w.heap.size + 1, 2, none⟩ (.int .i64 0)).setCell ⟨w.heap.size + 1, 3, none⟩ (.int .i64 0)).setCell ⟨w.heap.size + 1, 4, none⟩ (.slice none 0 0)).cell? ⟨w.heap.size + 1, 4, none⟩ = some (.slice none 0 0) := World.cell?_setCell_same' _ _ _ (by simp [go_sem, z4])
      simp [results, Tryz.f10, go_sem, loadCells, loadCellsFrom, r0, r1, r2, r3, r4]
    · exact NO.out _ (((((B2.out.setCell (p := ⟨w.heap.size + 1, 0, none⟩) (Nat.le_succ _) _).setCell (p := ⟨w.heap.size + 1, 1, none⟩) (Nat.le_succ _) _).setCell (p := ⟨w.heap.size + 1, 2, none⟩) (Nat.le_succ _) _).setCell (p := ⟨w.heap.size + 1, 3, none⟩) (Nat.le_succ _) _).setCell (p := ⟨w.heap.size + 1, 4, none⟩) (Nat.le_succ _) _)
  | true =>
    have e1 : chkN (VV.v ⟨p, n, c, gen, next, log, seq, es⟩) = 0 := by unfold chkN; rw [hck]; rfl
    rw [e1] at CK
    have HCK := keep hck
    clear hck e1
    obtain ⟨hg, hnx, hlg, hsq, hno⟩ := Ed.chk_parts HCK.out
    have hgb := Ed.isNum_bounds hg
    have hlen := Ed.notes_len hno
    have hgl : gen ≤ 1099511627776 := hgb.2
    have hg0 : 0 ≤ gen := hgb.1
    have hn4 : n ≤ 4096 := by
      have e : (VV.v ⟨p, n, c, gen, next, log, seq, es⟩).tabs.length = n := by show (es.map (·.m)).length = n; rw [List.length_map]; exact HL.out
      rw [e] at hlen
      exact hlen
    have wg : IntKind.i64.wrap (gen + 1) = gen + 1 := wrap_small _ (by omega) (by omega)
    clear hg hnx hlg hsq hno hgb hlen hgl hg0
    obtain ⟨FL, hFL⟩ : ∃ FL, (es.filter fun y => !ds.contains y.m.num) = FL := ⟨_, rfl⟩
    have KM : Hid (FL.map (·.m) = Ed.kept (es.map (·.m)) ds) := by
      show _ = _
      rw [← hFL]
      unfold Ed.kept
      rw [List.filter_map]
      rfl
    have FH : Hid (∀ y ∈ FL, metaKind.held w y) := fun y hy => by
      rw [← hFL] at hy
      exact SX.out.held y (List.mem_filter.1 hy).1
    go_enter Tryz.func10, Tryz.ntmps10
    go_wp2_with fail
    refine CK.out.mono ?_
    rintro e w2 ⟨rfl, hb2⟩
    have L2 := keep hb2
    have B2 := keep (b1.out.trans (hb2.mono b1.out.size))
    have G2 : Hid (w2.heap[w.heap.size]? = _) := (hb2.block _ (by rw [s1.out]; omega)).trans g0.out
    have R2 : Hid (w2.heap[w.heap.size + 1]? = _) := (hb2.block _ (by rw [s1.out]; omega)).trans g1.out
    have Z2 : Hid (w.heap.size + 2 ≤ w2.heap.size) := by have := hb2.size; rw [s1.out] at this; exact this
    have y4 : w2.cell? ⟨w.heap.size, 4, none⟩ = some (.slice p n c) := cell_of_row _ _ _ _ _ _ G2.out
    have WO := keep (without_any p n c es dp dn dc ds w2 (SX.out.below metaKind_ok B2.out) (SD.out.below inK_ok B2.out) (by omega) hdn)
    rw [hFL] at WO
    clear hb2 CK x0 x1 x2 x3 x4 hFL hW1
    go_wp2_with fail
    refine WO.out.mono ?_
    rintro e w3 ⟨p3, k3, c3, rfl, hs3, hf3, hb3⟩
    have S3 := keep hs3
    have F3 := keep hf3
    have L3 := keep hb3
    have B3 := keep (B2.out.trans (hb3.mono B2.out.size))
    have G3 : Hid (w3.heap[w.heap.size]? = _) := (hb3.block _ (by have := Z2.out; omega)).trans G2.out
    have R3 : Hid (w3.heap[w.heap.size + 1]? = _) := (hb3.block _ (by have := Z2.out; omega)).trans R2.out
    have hk3 : FL.length = k3 := hs3.len
    have hk3n : k3 ≤ n := by
      have h1 := congrArg List.length KM.out
      rw [List.length_map, hk3] at h1
      have h2 := List.length_filter_le (fun m : Nt => !ds.contains m.num) (es.map (·.m))
      rw [List.length_map, HL.out] at h2
      unfold Ed.kept at h1
      omega
    have HK3 := keep hk3
    have hdl : Hid (ds.length = dn) := SD.out.len
    have u0 : w3.cell? ⟨w.heap.size, 0, none⟩ = some (.int .i64 gen) := cell_of_row _ _ _ _ _ _ G3.out
    have u1 : w3.cell? ⟨w.heap.size, 1, none⟩ = some (.int .i64 next) := cell_of_row _ _ _ _ _ _ G3.out
    have u2 : w3.cell? ⟨w.heap.size, 2, none⟩ = some (.int .i64 log) := cell_of_row _ _ _ _ _ _ G3.out
    have u3 : w3.cell? ⟨w.heap.size, 3, none⟩ = some (.int .i64 seq) := cell_of_row _ _ _ _ _ _ G3.out
    have u4 : w3.cell? ⟨w.heap.size, 4, none⟩ = some (.slice p n c) := cell_of_row _ _ _ _ _ _ G3.out
    have v0 : w3.frozen? ⟨w.heap.size, 0, none⟩ = false := by simp [World.frozen?, G3.out]
    clear hs3 hf3 hb3 WO y4 hk3
    by_cases hcount : k3 + dn = n
    · have q1 : ((k3 : Int) + (dn : Int) == (n : Int)) = true := beq_iff_eq.2 (by omega)
      have q2 : ((k3 : Int) + (dn : Int) != (n : Int)) = false := by rw [bne, q1]; rfl
      obtain ⟨W4, hW4⟩ : ∃ W4, w3.setCell ⟨w.heap.size, 0, none⟩ (.int .i64 (gen + 1)) = W4 := ⟨_, rfl⟩
      have B4 : Hid (Below w.heap.size w W4) := by rw [← hW4]; exact B3.out.setCell (p := ⟨w.heap.size, 0, none⟩) (Nat.le_refl _) _
      have G4 : Hid (W4.heap[w.heap.size]? = some (.cells #[.int .i64 (gen + 1), .int .i64 next, .int .i64 log, .int .i64 seq, .slice p n c] 26)) := by rw [← hW4]; have := set_row G3.out 0 (.int .i64 (gen + 1)); show _ = _; simpa using this
      have R4 : Hid (W4.heap[w.heap.size + 1]? = some (.cells #[.int .i64 0, .int .i64 0, .int .i64 0, .int .i64 0, .slice none 0 0] 26)) := by rw [← hW4]; exact (set_farM 0 _ (by omega)).trans R3.out
      have S4 : Hid (RSrc metaKind W4 p3 k3 c3 FL) := by
        have hh : ∀ e ∈ FL, metaKind.held W4 e := fun y hy => metaKind_ok.below (FH.out y hy) B4.out
        rw [← hW4] at hh ⊢
        exact S3.out.setFar (fun ad e h => by have := F3.out ad e; have := Z2.out; omega) hh
      have Z4 : Hid (w.heap.size + 2 ≤ W4.heap.size) := by
        have h1 := L3.out.size
        have h2 := Z2.out
        have h3 : W4.heap.size = w3.heap.size := by rw [← hW4]; simp [World.setCell]
        show _ ≤ _
        omega
      obtain ⟨W5, hW5⟩ : ∃ W5, W4.alloc (.cells #[.slice p3 k3 c3, .slice ap an ac] 24) = W5 := ⟨_, rfl⟩
      have l5 : Hid (Below W4.heap.size W4 W5) := by rw [← hW5]; exact (Below.refl _ _).alloc (Nat.le_refl _) _
      have B5 := keep (B4.out.trans (l5.out.mono B4.out.size))
      have n5 : Hid (W5.heap[W4.heap.size]? = some (.cells #[.slice p3 k3 c3, .slice ap an ac] 24)) := by rw [← hW5]; exact heap_alloc_new W4 _
      have G5 : Hid (W5.heap[w.heap.size]? = _) := (l5.out.block _ (by have := Z4.out; omega)).trans G4.out
      have R5 : Hid (W5.heap[w.heap.size + 1]? = _) := (l5.out.block _ (by have := Z4.out; omega)).trans R4.out
      have Z5 : Hid (w.heap.size + 2 ≤ W5.heap.size) := Nat.le_trans Z4.out l5.out.size
      have CC := keep (mconcat_any W4.heap.size p3 k3 c3 FL ap an ac ms W5 (by omega) (cell_of_row _ _ _ _ _ _ n5.out) (cell_of_row _ _ _ _ _ _ n5.out) (S4.out.below metaKind_ok l5.out) (SA.out.below metaKind_ok B5.out))
      have HALL : Hid (∀ y ∈ FL ++ ms, metaKind.held w y) := fun y hy => by
        rcases List.mem_append.1 hy with h | h
        · exact FH.out y h
        · exact SA.out.held y h
      have NLEN : Hid ((FL ++ ms).length = k3 + an) := by show _ = _; rw [List.length_append, HK3.out, SA.out.len]
      go_wp2_with fail
      refine CC.out.mono ?_
      rintro e w6 ⟨v6, rfl, ho6, hb6⟩
      have L6 := keep hb6
      have O6 := keep ho6
      have B6 := keep (B5.out.trans (hb6.mono B5.out.size))
      obtain ⟨p6, c6, rfl, _, _⟩ := RSrc.own metaKind_ok ho6 (fun y hy => metaKind_ok.below (HALL.out y hy) B6.out)
      have G6 : Hid (w6.heap[w.heap.size]? = _) := (hb6.block _ (by have := Z5.out; omega)).trans G5.out
      have f64 : w6.frozen? ⟨w.heap.size, 4, none⟩ = false := by simp [World.frozen?, G6.out]
      have c64 : w6.cell? ⟨w.heap.size, 4, none⟩ = some (.slice p n c) := cell_of_row _ _ _ _ _ _ G6.out
      obtain ⟨W7, hW7⟩ : ∃ W7, w6.setCell ⟨w.heap.size, 4, none⟩ (.slice p6 (k3 + an) c6) = W7 := ⟨_, rfl⟩
      obtain ⟨w0, hw0⟩ : ∃ w0, W5.setCell ⟨w.heap.size, 4, none⟩ (.slice p6 (k3 + an) c6) = w0 := ⟨_, rfl⟩
      have s0 : Hid (w0.heap.size = W5.heap.size) := by rw [← hw0]; show _ = _; simp [World.setCell]
      have L7 : Hid (Below w0.heap.size w0 W7) := by rw [s0.out, ← hw0, ← hW7]; exact Below.both L6.out _ (by have := Z5.out; omega)
      have B0 : Hid (Below w.heap.size w w0) := by rw [← hw0]; exact B5.out.setCell (p := ⟨w.heap.size, 4, none⟩) (Nat.le_refl _) _
      have G0 : Hid (w0.heap[w.heap.size]? = some (.cells #[.int .i64 (gen + 1), .int .i64 next, .int .i64 log, .int .i64 seq, .slice p6 (k3 + an) c6] 26)) := by rw [← hw0]; have := set_row G5.out 4 (.slice p6 (k3 + an) c6); show _ = _; simpa using this
      have R0 : Hid (w0.heap[w.heap.size + 1]? = some (.cells #[.int .i64 0, .int .i64 0, .int .i64 0, .int .i64 0, .slice none 0 0] 26)) := by rw [← hw0]; exact (set_farM 4 _ (by omega)).trans R5.out
      have Z0 : Hid (w.heap.size + 2 ≤ w0.heap.size) := by rw [s0.out]; exact Z5.out
      have SRT : Hid (Calls Tryz.prog 25 #[.slice p6 (k3 + an) c6, .func (.func 26) #[] #[]] W7 fun e w' => e = .returned (.tuple #[]) ∧ ∃ es' : List MV, es'.Perm (FL ++ ms) ∧ es'.Pairwise (fun a b => ¬ Ed.ahead b.m a.m) ∧ RSrc metaKind w' p6 (k3 + an) c6 es' ∧ Below w0.heap.size w0 w') := by
        rcases O6.out.2 with ⟨e, h0⟩ | ⟨g, cap, cur, e, _⟩
        · injection e with e1 e2 e3
          subst e1
          subst e3
          rw [h0]
          refine (AnyF.slices_SortFunc_none sf_sortM none 0 _ W7).mono ?_
          rintro e w' ⟨rfl, rfl⟩
          have hnil : FL ++ ms = [] := List.length_eq_zero_iff.1 (by rw [NLEN.out, h0])
          exact ⟨rfl, [], by rw [hnil], List.Pairwise.nil, RSrc.empty (fun _ => rfl), L7.out⟩
        · injection e with e1 e2 e3
          subst e1
          subst e3
          obtain ⟨rg, hg1, hg2⟩ := RowG.of O6.out NLEN.out
          have rg7 : RowG W7 g c6 (FL ++ ms) := by rw [← hW7]; exact rg.far (by have := Z5.out; omega)
          refine (msort_any g (k3 + an) c6 (FL ++ ms) w0 W7 rg7 NLEN.out (by rw [s0.out]; exact hg1) (fun y hy => metaKind_ok.below (HALL.out y hy) B0.out) (by omega) L7.out).mono ?_
          rintro e w' ⟨rfl, es', h1, h2, h3, h4⟩
          have hel := h1.length_eq
          rw [NLEN.out] at hel
          have hs := h3.src (fun y hy => metaKind_ok.below (metaKind_ok.below (HALL.out y (h1.mem_iff.1 hy)) B0.out) h4)
          rw [hel] at hs
          exact ⟨rfl, es', h1, h2, hs, h4⟩
      have G7 : Hid (W7.heap[w.heap.size]? = _) := (L7.out.block _ (by have := Z0.out; omega)).trans G0.out
      have c74 : W7.cell? ⟨w.heap.size, 4, none⟩ = some (.slice p6 (k3 + an) c6) := cell_of_row _ _ _ _ _ _ G7.out
      clear ho6 hb6 CC hW5 hW4 u0 u1 u2 u3 u4 v0 hw0
      go_wp2_with fail
      refine SRT.out.mono ?_
      rintro e w8 ⟨rfl, es', hp8, hw8, hs8, hb8⟩
      have P8 := keep hp8
      have K8 := keep hw8
      have S8 := keep hs8
      have L8 := keep hb8
      have B8 := keep (B0.out.trans (hb8.mono B0.out.size))
      have G8 : Hid (w8.heap[w.heap.size]? = _) := (hb8.block _ (by have := Z0.out; omega)).trans G0.out
      have R8 : Hid (w8.heap[w.heap.size + 1]? = _) := (hb8.block _ (by have := Z0.out; omega)).trans R0.out
      have Z8 : Hid (w.heap.size + 2 ≤ w8.heap.size) := Nat.le_trans Z0.out hb8.size
      have PM : Hid ((es'.map (·.m)).Perm (Ed.kept (es.map (·.m)) ds ++ ms.map (·.m))) := by
        have := hp8.map (·.m)
        rw [List.map_append, KM.out] at this
        exact this
      have WK : Hid (Ed.Weak (es'.map (·.m))) := by
        show Ed.Weak _
        unfold Ed.Weak
        rw [List.pairwise_map]
        exact hw8
      have UN := keep (Ed.after_uniq (v := VV.v ⟨p, n, c, gen, next, log, seq, es⟩) (add := ms.map (·.m)) PM.out WK.out)
      have C2 := keep (vcheck_any ⟨p6, k3 + an, c6, gen + 1, next, log, seq, es'⟩ w8 S8.out)
      have E2 : Hid (chkN (VV.v ⟨p6, k3 + an, c6, gen + 1, next, log, seq, es'⟩) = if Ed.chk (Ed.after (VV.v ⟨p, n, c, gen, next, log, seq, es⟩) ds (ms.map (·.m))) then 0 else 1) := by
        show _ = _
        rw [← UN.out.1]
        rfl
      unfold VV.val at C2
      rw [E2.out] at C2
      simp only at C2
      have AP : Hid (A = Ed.chk (Ed.after (VV.v ⟨p, n, c, gen, next, log, seq, es⟩) ds (ms.map (·.m)))) := by
        show _ = _
        rw [← hA]
        unfold Ed.applies
        rw [HCK.out]
        have e : (Ed.kept (VV.v ⟨p, n, c, gen, next, log, seq, es⟩).tabs ds).length + ds.length = (VV.v ⟨p, n, c, gen, next, log, seq, es⟩).tabs.length := by
          show (Ed.kept (es.map (·.m)) ds).length + ds.length = (es.map (·.m)).length
          rw [← KM.out, List.length_map, List.length_map, HK3.out, HL.out, hdl.out]
          exact hcount
        rw [decide_eq_true e]
        simp
      have HA := keep hA
      have y0 : w8.cell? ⟨w.heap.size, 0, none⟩ = some (.int .i64 (gen + 1)) := cell_of_row _ _ _ _ _ _ G8.out
      have y1 : w8.cell? ⟨w.heap.size, 1, none⟩ = some (.int .i64 next) := cell_of_row _ _ _ _ _ _ G8.out
      have y2 : w8.cell? ⟨w.heap.size, 2, none⟩ = some (.int .i64 log) := cell_of_row _ _ _ _ _ _ G8.out
      have y3 : w8.cell? ⟨w.heap.size, 3, none⟩ = some (.int .i64 seq) := cell_of_row _ _ _ _ _ _ G8.out
      have y4 : w8.cell? ⟨w.heap.size, 4, none⟩ = some (.slice p6 (k3 + an) c6) := cell_of_row _ _ _ _ _ _ G8.out
      clear hp8 hw8 hs8 hb8 SRT c74 c64 f64 hA hW7
      cases hca : Ed.chk (Ed.after (VV.v ⟨p, n, c, gen, next, log, seq, es⟩) ds (ms.map (·.m))) with
      | false =>
        rw [hca] at C2 AP
        have NO := keep (fun w' => AppA.no (w := w) (w' := w') (HA.out.trans AP.out))
        clear hca
        simp only [Bool.false_eq_true, if_false] at C2
        go_wp2_with fail
        refine C2.out.mono ?_
        rintro e w9 ⟨rfl, hb9⟩
        have B9 := keep (B8.out.trans (hb9.mono B8.out.size))
        have R9 : Hid (w9.heap[w.heap.size + 1]? = _) := (hb9.block _ (by have := Z8.out; omega)).trans R8.out
        have z0 : w9.cell? ⟨w.heap.size + 1, 0, none⟩ = some (.int .i64 0) := cell_of_row _ _ _ _ _ _ R9.out
        have z1 : w9.cell? ⟨w.heap.size + 1, 1, none⟩ = some (.int .i64 0) := cell_of_row _ _ _ _ _ _ R9.out
        have z2 : w9.cell? ⟨w.heap.size + 1, 2, none⟩ = some (.int .i64 0) := cell_of_row _ _ _ _ _ _ R9.out
        have z3 : w9.cell? ⟨w.heap.size + 1, 3, none⟩ = some (.int .i64 0) := cell_of_row _ _ _ _ _ _ R9.out
        have z4 : w9.cell? ⟨w.heap.size + 1, 4, none⟩ = some (.slice none 0 0) := cell_of_row _ _ _ _ _ _ R9.out
        have f0 : w9.frozen? ⟨w.heap.size + 1, 0, none⟩ = false := by simp [World.frozen?, R9.out]
        have f1 : w9.frozen? ⟨w.heap.size + 1, 1, none⟩ = false := by simp [World.frozen?, R9.out]
        have f2 : w9.frozen? ⟨w.heap.size + 1, 2, none⟩ = false := by simp [World.frozen?, R9.out]
        have f3 : w9.frozen? ⟨w.heap.size + 1, 3, none⟩ = false := by simp [World.frozen?, R9.out]
        have f4 : w9.frozen? ⟨w.heap.size + 1, 4, none⟩ = false := by simp [World.frozen?, R9.out]
        clear hb9 C2 y0 y1 y2 y3 y4
        go_wp2
        refine ⟨rfl, .tuple #[.agg #[.int .i64 0, .int .i64 0, .int .i64 0, .int .i64 0, .slice none 0 0], .int .i64 1], ?_, ?_⟩
        · have r0 : (w9.setCell ⟨w.heap.size + 1, 0, none⟩ (.int .i64 0)).cell? ⟨w.heap.size + 1, 0, none⟩ = some (.int .i64 0) := World.cell?_setCell_same' _ _ _ (by simp [go_sem, z0])
          have r1 : ((w9.setCell ⟨w.heap.size + 1, 0, none⟩ (.int .i64 0)).setCell ⟨w.heap.size + 1, 1, none⟩ (.int .i64 0)).cell? ⟨w.heap.size + 1, 1, none⟩ = some (.int .i64 0) := World.cell?_setCell_same' _ _ _ (by simp [go_sem, z1])
          have r2 : (((w9.setCell ⟨w.heap.size + 1, 0, none⟩ (.int .i64 0)).setCell ⟨w.heap.size + 1, 1, none⟩ (.int .i64 0)).setCell ⟨w.heap.size + 1, 2, none⟩ (.int .i64 0)).cell? ⟨w.heap.size + 1, 2, none⟩ = some (.int .i64 0) := World.cell?_setCell_same' _ _ _ (by simp [go_sem, z2])
          have r3 : ((((w9.setCell ⟨w.heap.size + 1, 0, none⟩ (.int .i64 0)).setCell ⟨w.heap.size + 1, 1, none⟩ (.int .i64 0)).setCell ⟨w.heap.size + 1, 2, none⟩ (.int .i64 0)).setCell ⟨w.heap.size + 1, 3, none⟩ (.int .i64 0)).cell? ⟨w.heap.size + 1, 3, none⟩ = some (.int .i64 0) := World.cell?_setCell_same' _ _ _ (by simp [go_sem, z3])
          have r4 : (((((w9.setCell ⟨w.heap.size + 1, 0, none⟩ (.int .i64 0)).setCell ⟨w.heap.size + 1, 1, none⟩ (.int .i64 0)).setCell ⟨w.heap.size + 1, 2, none⟩ (.int .i64 0)).setCell ⟨w.heap.size + 1, 3, none⟩ (.int .i64 0)).setCell ⟨w.heap.size + 1, 4, none⟩ (.slice none 0 0)).cell? ⟨w.heap.size + 1, 4, none⟩ = some (.slice none 0 0) := World.cell?_setCell_same' _ _ _ (by simp [go_sem, z4])
          simp [results, Tryz.f10, go_sem, loadCells, loadCellsFrom, r0, r1, r2, r3, r4]
        · exact NO.out _ (((((B9.out.setCell (p := ⟨w.heap.size + 1, 0, none⟩) (Nat.le_succ _) _).setCell (p := ⟨w.heap.size + 1, 1, none⟩) (Nat.le_succ _) _).setCell (p := ⟨w.heap.size + 1, 2, none⟩) (Nat.le_succ _) _).setCell (p := ⟨w.heap.size + 1, 3, none⟩) (Nat.le_succ _) _).setCell (p := ⟨w.heap.size + 1, 4, none⟩) (Nat.le_succ _) _)
      | true =>
        rw [hca] at C2 AP
        have TB := keep (UN.out.2 hca)
        have hno2 := (Ed.chk_parts hca).2.2.2.2
        have HNO := keep hno2
        clear hca hno2
        simp only [if_true] at C2
        go_wp2_with fail
        refine C2.out.mono ?_
        rintro e w9 ⟨rfl, hb9⟩
        have L9 := keep hb9
        have B9 := keep (B8.out.trans (hb9.mono B8.out.size))
        have G9 : Hid (w9.heap[w.heap.size]? = _) := (hb9.block _ (by have := Z8.out; omega)).trans G8.out
        have R9 : Hid (w9.heap[w.heap.size + 1]? = _) := (hb9.block _ (by have := Z8.out; omega)).trans R8.out
        have Z9 : Hid (w.heap.size + 2 ≤ w9.heap.size) := Nat.le_trans Z8.out hb9.size
        have CP := keep (copies_any p6 (k3 + an) c6 es' w9 (S8.out.below metaKind_ok hb9) (by omega) (fun y hy => by
          have hm : y.m ∈ (Ed.after (VV.v ⟨p, n, c, gen, next, log, seq, es⟩) ds (ms.map (·.m))).tabs := by rw [← TB.out]; exact List.mem_map_of_mem hy
          have := Ed.may_keys (Ed.notes_may HNO.out hm).1
          omega))
        have c94 : w9.cell? ⟨w.heap.size, 4, none⟩ = some (.slice p6 (k3 + an) c6) := cell_of_row _ _ _ _ _ _ G9.out
        clear hb9 C2 y0 y1 y2 y3 y4
        go_wp2_with fail
        refine CP.out.mono ?_
        rintro e w10 ⟨v10, ys, rfl, hm10, hv10, hb10⟩
        have M10 := keep hm10
        have V10 := keep hv10
        have B10 := keep (B9.out.trans (hb10.mono B9.out.size))
        obtain ⟨q10, c10, rfl, _, _⟩ := hm10.src
        have G10 : Hid (w10.heap[w.heap.size]? = _) := (hb10.block _ (by have := Z9.out; omega)).trans G9.out
        have R10 : Hid (w10.heap[w.heap.size + 1]? = _) := (hb10.block _ (by have := Z9.out; omega)).trans R9.out
        have f104 : w10.frozen? ⟨w.heap.size, 4, none⟩ = false := by simp [World.frozen?, G10.out]
        have c104 : w10.cell? ⟨w.heap.size, 4, none⟩ = some (.slice p6 (k3 + an) c6) := cell_of_row _ _ _ _ _ _ G10.out
        obtain ⟨Y, hY⟩ : ∃ Y, ys.length = Y := ⟨_, rfl⟩
        have HY := keep hY
        rw [hY] at M10 ⊢
        obtain ⟨W11, hW11⟩ : ∃ W11, w10.setCell ⟨w.heap.size, 4, none⟩ (.slice q10 Y c10) = W11 := ⟨_, rfl⟩
        have B11 : Hid (Below w.heap.size w W11) := by rw [← hW11]; exact B10.out.setCell (p := ⟨w.heap.size, 4, none⟩) (Nat.le_refl _) _
        have G11 : Hid (W11.heap[w.heap.size]? = some (.cells #[.int .i64 (gen + 1), .int .i64 next, .int .i64 log, .int .i64 seq, .slice q10 Y c10] 26)) := by rw [← hW11]; have := set_row G10.out 4 (.slice q10 Y c10); show _ = _; simpa using this
        have R11 : Hid (W11.heap[w.heap.size + 1]? = some (.cells #[.int .i64 0, .int .i64 0, .int .i64 0, .int .i64 0, .slice none 0 0] 26)) := by rw [← hW11]; exact (set_farM 4 _ (by omega)).trans R10.out
        have M11 : Hid (Mets w9.heap.size W11 (.slice q10 Y c10) ys) := by rw [← hW11]; exact M10.out.far (by have := Z9.out; omega)
        have y0 : W11.cell? ⟨w.heap.size, 0, none⟩ = some (.int .i64 (gen + 1)) := cell_of_row _ _ _ _ _ _ G11.out
        have y1 : W11.cell? ⟨w.heap.size, 1, none⟩ = some (.int .i64 next) := cell_of_row _ _ _ _ _ _ G11.out
        have y2 : W11.cell? ⟨w.heap.size, 2, none⟩ = some (.int .i64 log) := cell_of_row _ _ _ _ _ _ G11.out
        have y3 : W11.cell? ⟨w.heap.size, 3, none⟩ = some (.int .i64 seq) := cell_of_row _ _ _ _ _ _ G11.out
        have y4 : W11.cell? ⟨w.heap.size, 4, none⟩ = some (.slice q10 Y c10) := cell_of_row _ _ _ _ _ _ G11.out
        have z0 : W11.cell? ⟨w.heap.size + 1, 0, none⟩ = some (.int .i64 0) := cell_of_row _ _ _ _ _ _ R11.out
        have z1 : W11.cell? ⟨w.heap.size + 1, 1, none⟩ = some (.int .i64 0) := cell_of_row _ _ _ _ _ _ R11.out
        have z2 : W11.cell? ⟨w.heap.size + 1, 2, none⟩ = some (.int .i64 0) := cell_of_row _ _ _ _ _ _ R11.out
        have z3 : W11.cell? ⟨w.heap.size + 1, 3, none⟩ = some (.int .i64 0) := cell_of_row _ _ _ _ _ _ R11.out
        have z4 : W11.cell? ⟨w.heap.size + 1, 4, none⟩ = some (.slice none 0 0) := cell_of_row _ _ _ _ _ _ R11.out
        have f0 : W11.frozen? ⟨w.heap.size + 1, 0, none⟩ = false := by simp [World.frozen?, R11.out]
        have f1 : W11.frozen? ⟨w.heap.size + 1, 1, none⟩ = false := by simp [World.frozen?, R11.out]
        have f2 : W11.frozen? ⟨w.heap.size + 1, 2, none⟩ = false := by simp [World.frozen?, R11.out]
        have f3 : W11.frozen? ⟨w.heap.size + 1, 3, none⟩ = false := by simp [World.frozen?, R11.out]
        have f4 : W11.frozen? ⟨w.heap.size + 1, 4, none⟩ = false := by simp [World.frozen?, R11.out]
        clear hm10 hv10 hb10 CP c94 hY
        go_wp2
        refine ⟨rfl, .tuple #[.agg #[.int .i64 (gen + 1), .int .i64 next, .int .i64 log, .int .i64 seq, .slice q10 Y c10], .int .i64 0], ?_, ?_⟩
        · have r0 : (W11.setCell ⟨w.heap.size + 1, 0, none⟩ (.int .i64 (gen + 1))).cell? ⟨w.heap.size + 1, 0, none⟩ = some (.int .i64 (gen + 1)) := World.cell?_setCell_same' _ _ _ (by simp [go_sem, z0])
          have r1 : ((W11.setCell ⟨w.heap.size + 1, 0, none⟩ (.int .i64 (gen + 1))).setCell ⟨w.heap.size + 1, 1, none⟩ (.int .i64 next)).cell? ⟨w.heap.size + 1, 1, none⟩ = some (.int .i64 next) := World.cell?_setCell_same' _ _ _ (by simp [go_sem, z1])
          have r2 : (((W11.setCell ⟨w.heap.size + 1, 0, none⟩ (.int .i64 (gen + 1))).setCell ⟨w.heap.size + 1, 1, none⟩ (.int .i64 next)).setCell ⟨w.heap.size + 1, 2, none⟩ (.int .i64 log)).cell? ⟨w.heap.size + 1, 2, none⟩ = some (.int .i64 log) := World.cell?_setCell_same' _ _ _ (by simp [go_sem, z2])
          have r3 : ((((W11.setCell ⟨w.heap.size + 1, 0, none⟩ (.int .i64 (gen + 1))).setCell ⟨w.heap.size + 1, 1, none⟩ (.int .i64 next)).setCell ⟨w.heap.size + 1, 2, none⟩ (.int .i64 log)).setCell ⟨w.heap.size + 1, 3, none⟩ (.int .i64 seq)).cell? ⟨w.heap.size + 1, 3, none⟩ = some (.int .i64 seq) := World.cell?_setCell_same' _ _ _ (by simp [go_sem, z3])
          have r4 : (((((W11.setCell ⟨w.heap.size + 1, 0, none⟩ (.int .i64 (gen + 1))).setCell ⟨w.heap.size + 1, 1, none⟩ (.int .i64 next)).setCell ⟨w.heap.size + 1, 2, none⟩ (.int .i64 log)).setCell ⟨w.heap.size + 1, 3, none⟩ (.int .i64 seq)).setCell ⟨w.heap.size + 1, 4, none⟩ (.slice q10 Y c10)).cell? ⟨w.heap.size + 1, 4, none⟩ = some (.slice q10 Y c10) := World.cell?_setCell_same' _ _ _ (by simp [go_sem, z4])
          simp [results, Tryz.f10, go_sem, loadCells, loadCellsFrom, r0, r1, r2, r3, r4]
        · have MF := (((((M11.out.far (b := w.heap.size + 1) (i := 0) (u := .int .i64 (gen + 1)) (by have := Z9.out; omega)).far (b := w.heap.size + 1) (i := 1) (u := .int .i64 next) (by have := Z9.out; omega)).far (b := w.heap.size + 1) (i := 2) (u := .int .i64 log) (by have := Z9.out; omega)).far (b := w.heap.size + 1) (i := 3) (u := .int .i64 seq) (by have := Z9.out; omega)).far (b := w.heap.size + 1) (i := 4) (u := .slice q10 Y c10) (by have := Z9.out; omega))
          obtain ⟨qf, cf, ef, hsf, _⟩ := MF.src
          injection ef with e1 e2 e3
          subst e1
          subst e3
          rw [← e2] at hsf
          refine ⟨⟨⟨q10, Y, c10, gen + 1, next, log, seq, ys⟩, ?_, hsf, ?_⟩, (((((B11.out.setCell (p := ⟨w.heap.size + 1, 0, none⟩) (Nat.le_succ _) _).setCell (p := ⟨w.heap.size + 1, 1, none⟩) (Nat.le_succ _) _).setCell (p := ⟨w.heap.size + 1, 2, none⟩) (Nat.le_succ _) _).setCell (p := ⟨w.heap.size + 1, 3, none⟩) (Nat.le_succ _) _).setCell (p := ⟨w.heap.size + 1, 4, none⟩) (Nat.le_succ _) _)⟩
          · rw [HA.out, AP.out]; rfl
          · rw [HA.out, AP.out]
            show Ed.Ver.mk _ _ _ _ (ys.map (·.m)) = _
            rw [V10.out, TB.out]
            rfl
    · have q1 : ((k3 : Int) + (dn : Int) == (n : Int)) = false := beq_eq_false_iff_ne.2 (by omega)
      have q2 : ((k3 : Int) + (dn : Int) != (n : Int)) = true := by rw [bne, q1]; rfl
      have hA0 : Ed.applies (VV.v ⟨p, n, c, gen, next, log, seq, es⟩) ds (ms.map (·.m)) = false := by
        unfold Ed.applies
        have e : ¬ (Ed.kept (VV.v ⟨p, n, c, gen, next, log, seq, es⟩).tabs ds).length + ds.length = (VV.v ⟨p, n, c, gen, next, log, seq, es⟩).tabs.length := by
          show ¬ (Ed.kept (es.map (·.m)) ds).length + ds.length = (es.map (·.m)).length
          rw [← KM.out, List.length_map, List.length_map, HK3.out, HL.out, hdl.out]
          exact hcount
        rw [decide_eq_false e, Bool.and_false, Bool.false_and]
      have NO := keep (fun w' => AppA.no (w := w) (w' := w') hA0)
      have z0 : w3.cell? ⟨w.heap.size + 1, 0, none⟩ = some (.int .i64 0) := cell_of_row _ _ _ _ _ _ R3.out
      have z1 : w3.cell? ⟨w.heap.size + 1, 1, none⟩ = some (.int .i64 0) := cell_of_row _ _ _ _ _ _ R3.out
      have z2 : w3.cell? ⟨w.heap.size + 1, 2, none⟩ = some (.int .i64 0) := cell_of_row _ _ _ _ _ _ R3.out
      have z3 : w3.cell? ⟨w.heap.size + 1, 3, none⟩ = some (.int .i64 0) := cell_of_row _ _ _ _ _ _ R3.out
      have z4 : w3.cell? ⟨w.heap.size + 1, 4, none⟩ = some (.slice none 0 0) := cell_of_row _ _ _ _ _ _ R3.out
      have f0 : w3.frozen? ⟨w.heap.size + 1, 0, none⟩ = false := by simp [World.frozen?, R3.out]
      have f1 : w3.frozen? ⟨w.heap.size + 1, 1, none⟩ = false := by simp [World.frozen?, R3.out]
      have f2 : w3.frozen? ⟨w.heap.size + 1, 2, none⟩ = false := by simp [World.frozen?, R3.out]
      have f3 : w3.frozen? ⟨w.heap.size + 1, 3, none⟩ = false := by simp [World.frozen?, R3.out]
      have f4 : w3.frozen? ⟨w.heap.size + 1, 4, none⟩ = false := by simp [World.frozen?, R3.out]
      clear hA hA0
      go_wp2
      refine ⟨rfl, .tuple #[.agg #[.int .i64 0, .int .i64 0, .int .i64 0, .int .i64 0, .slice none 0 0], .int .i64 1], ?_, ?_⟩
      · have r0 : (w3.setCell ⟨w.heap.size + 1, 0, none⟩ (.int .i64 0)).cell? ⟨w.heap.size + 1, 0, none⟩ = some (.int .i64 0) := World.cell?_setCell_same' _ _ _ (by simp [go_sem, z0])
        have r1 : ((w3.setCell ⟨w.heap.size + 1, 0, none⟩ (.int .i64 0)).setCell ⟨w.heap.size + 1, 1, none⟩ (.int .i64 0)).cell? ⟨w.heap.size + 1, 1, none⟩ = some (.int .i64 0) := World.cell?_setCell_same' _ _ _ (by simp [go_sem, z1])
        have r2 : (((w3.setCell ⟨w.heap.size + 1, 0, none⟩ (.int .i64 0)).setCell ⟨w.heap.size + 1, 1, none⟩ (.int .i64 0)).setCell ⟨w.heap.size + 1, 2, none⟩ (.int .i64 0)).cell? ⟨w.heap.size + 1, 2, none⟩ = some (.int .i64 0) := World.cell?_setCell_same' _ _ _ (by simp [go_sem, z2])
        have r3 : ((((w3.setCell ⟨w.heap.size + 1, 0, none⟩ (.int .i64 0)).setCell ⟨w.heap.size + 1, 1, none⟩ (.int .i64 0)).setCell ⟨w.heap.size + 1, 2, none⟩ (.int .i64 0)).setCell ⟨w.heap.size + 1, 3, none⟩ (.int .i64 0)).cell? ⟨w.heap.size + 1, 3, none⟩ = some (.int .i64 0) := World.cell?_setCell_same' _ _ _ (by simp [go_sem, z3])
        have r4 : (((((w3.setCell ⟨w.heap.size + 1, 0, none⟩ (.int .i64 0)).setCell ⟨w.heap.size + 1, 1, none⟩ (.int .i64 0)).setCell ⟨w.heap.size + 1, 2, none⟩ (.int .i64 0)).setCell ⟨w.heap.size + 1, 3, none⟩ (.int .i64 0)).setCell ⟨w.heap.size + 1, 4, none⟩ (.slice none 0 0)).cell? ⟨w.heap.size + 1, 4, none⟩ = some (.slice none 0 0) := World.cell?_setCell_same' _ _ _ (by simp [go_sem, z4])
        simp [results, Tryz.f10, go_sem, loadCells, loadCellsFrom, r0, r1, r2, r3, r4]
      · exact NO.out _ (((((B3.out.setCell (p := ⟨w.heap.size + 1, 0, none⟩) (Nat.le_succ _) _).setCell (p := ⟨w.heap.size + 1, 1, none⟩) (Nat.le_succ _) _).setCell (p := ⟨w.heap.size + 1, 2, none⟩) (Nat.le_succ _) _).setCell (p := ⟨w.heap.size + 1, 3, none⟩) (Nat.le_succ _) _).setCell (p := ⟨w.heap.size + 1, 4, none⟩) (Nat.le_succ _) _)
end Go.Proofs.YthaiodajfmbeaaaGreat
