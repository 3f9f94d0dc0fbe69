/- The walk of the laws' awake. -/
import Derived.Test.YthaiodajfmbeaaaGreatHl
import Derived.Lib.SlBytesConst
namespace Go.Proofs.YthaiodajfmbeaaaGreat.Ed
theorem srt_eq {l l2 : List Nt} {next : Int} (hp : l2.Perm l) (h : notesOk l2 next = true) : srt l = l2 := (perm_uniq (hp.trans (srt_perm l).symm) (notes_strict h) (srt_weak l)).symm
def aw3 : Nt := ⟨3, 0, 1, [97], [98]⟩
def aw4 : Nt := ⟨4, 1, 1, [97], [98]⟩
def aw5 : Nt := ⟨5, 0, 1, [97], [98]⟩
def awV : Ver := ⟨0, 6, 0, 0, []⟩
def awW : Ver := ⟨1, 6, 0, 0, [aw5, aw3, aw4]⟩
theorem aw_notes : notesOk [aw5, aw3, aw4] 6 = true := by decide
theorem aw_after : after awV [] [aw3, aw4, aw5] = awW := by
  have h : srt [aw3, aw4, aw5] = [aw5, aw3, aw4] := srt_eq (next := 6) (by
    have h1 : [aw5, aw3, aw4].Perm [aw3, aw5, aw4] := List.Perm.swap _ _ _
    have h2 : [aw3, aw5, aw4].Perm [aw3, aw4, aw5] := (List.Perm.swap _ _ _).cons _
    exact h1.trans h2) aw_notes
  unfold after awV awW kept
  simp only [List.filter_nil, List.nil_append, h]
  rfl
theorem aw_chk : chk awW = true := by
  unfold chk awW
  simp only
  rw [aw_notes]
  decide
theorem aw_first : applies awV [] [aw3, aw4, aw5] = true := by
  unfold applies
  rw [aw_after, aw_chk]
  decide
theorem aw_second : applies awW [9] [] = false := by
  unfold applies
  have : decide ((kept awW.tabs [9]).length + [(9 : Int)].length = awW.tabs.length) = false := by decide
  rw [this, Bool.and_false, Bool.false_and]
theorem aw_find : find awW.tabs [97, 97] = [5, 3, 4] := by decide
theorem aw_level : (level awW.tabs 0).length = 2 := by decide
end Go.Proofs.YthaiodajfmbeaaaGreat.Ed
namespace Go.Proofs.YthaiodajfmbeaaaGreat
open Go.RowKit
open Ed (Nt)

theorem conv_constM (w : World) (C : Array Value) (n c : Nat) : (convert 22 22 (.slice (some ⟨w.heap.size, 0, none⟩) n c)).run Tryz.prog (w.alloc (.cells C 5)) = .ok (.slice (some ⟨w.heap.size, 0, none⟩) n c) (w.alloc (.cells C 5 (C.size, C.size + 1))) :=
  Lib.run_convert_bytes_const (P := Tryz.prog) w 22 5 C n c Tryz.underlying22 Tryz.underlying5
/-- Bytes that lie in another block than the one that has turned. -/
theorem Src.farB {w w' : World} {ao : Option Addr} {m c : Nat} {l : List UInt8} (h : Src w ao m c l) {b : Nat} (hf : ∀ ad, ao = some ad → ad.block ≠ b) (hk : ∀ g, g ≠ b → w'.heap[g]? = w.heap[g]?) : Src w' ao m c l :=
  ⟨h.len, h.cap, h.nil, fun ad e j u hu => by
    have hb : (ad.add j).block = ad.block := by first | rfl | (unfold Addr.add; split <;> rfl) | simp [Addr.add]
    rw [World.cell?_of_block (w := w) (hk _ (by rw [hb]; exact hf ad e))]
    exact h.cells ad e j u hu⟩
theorem Src.builtM (w : World) (xs : List UInt8) (f : Nat × Nat) : Src (w.alloc (.cells (bv xs).toArray 5 f)) (some ⟨w.heap.size, 0, none⟩) xs.length xs.length xs := by
  refine ⟨rfl, Nat.le_refl _, (fun e => by cases e), fun ad e i u hu => ?_⟩
  cases e
  rw [Addr.add_mid, Nat.zero_add, cell_of_row _ _ _ _ _ _ (heap_alloc_new w _)]
  simpa using hu
set_option maxHeartbeats 2000000 in
set_option maxRecDepth 100000 in
theorem awake1_any (n level : Int) (w : World) :
    Calls Tryz.prog 9 #[.int .i64 n, .int .i64 level] w fun e w' => ∃ y : MV, e = .returned (mv y) ∧ y.m = ⟨n, level, 1, [97], [98]⟩ ∧ metaKind.held w' y ∧ Below w.heap.size w w' := by
  have kc := conv_constM
  obtain ⟨W1, hW1⟩ : ∃ W1, w.alloc (.cells #[.int .i64 0, .int .i64 0, .int .i64 0, .slice none 0 0, .slice none 0 0] 39) = W1 := ⟨_, rfl⟩
  have b1 : Hid (Below w.heap.size w W1) := by rw [← hW1]; exact (Below.refl _ _).alloc (Nat.le_refl _) _
  have s1 : Hid (W1.heap.size = w.heap.size + 1) := by rw [← hW1]; show _ = _; simp
  have g1 : Hid (W1.heap[w.heap.size]? = some (.cells #[.int .i64 0, .int .i64 0, .int .i64 0, .slice none 0 0, .slice none 0 0] 39)) := by rw [← hW1]; exact heap_alloc_new w _
  obtain ⟨W2, hW2⟩ : ∃ W2, W1.alloc (.cells #[.int .u8 97] 5 (1, 2)) = W2 := ⟨_, rfl⟩
  have l2 : Hid (Below W1.heap.size W1 W2) := by rw [← hW2]; exact (Below.refl _ _).alloc (Nat.le_refl _) _
  have a2 : Hid (Src W2 (some ⟨W1.heap.size, 0, none⟩) 1 1 [97]) := by rw [← hW2]; exact Src.builtM W1 [97] (1, 2)
  obtain ⟨W3, hW3⟩ : ∃ W3, W2.alloc (.cells #[.int .u8 98] 5 (1, 2)) = W3 := ⟨_, rfl⟩
  have l3 : Hid (Below W2.heap.size W2 W3) := by rw [← hW3]; exact (Below.refl _ _).alloc (Nat.le_refl _) _
  have a3 : Hid (Src W3 (some ⟨W2.heap.size, 0, none⟩) 1 1 [98]) := by rw [← hW3]; exact Src.builtM W2 [98] (1, 2)
  have L3 := keep (l2.out.trans (l3.out.mono l2.out.size))
  have B3 := keep (b1.out.trans (L3.out.mono b1.out.size))
  have G3 : Hid (W3.heap[w.heap.size]? = _) := (L3.out.block _ (by rw [s1.out]; omega)).trans g1.out
  have z0 : W3.cell? ⟨w.heap.size, 0, none⟩ = some (.int .i64 0) := cell_of_row _ _ _ _ _ _ G3.out
  have f0 : W3.frozen? ⟨w.heap.size, 0, none⟩ = false := by simp [World.frozen?, G3.out]
  have z1 : W3.cell? ⟨w.heap.size, 1, none⟩ = some (.int .i64 0) := cell_of_row _ _ _ _ _ _ G3.out
  have f1 : W3.frozen? ⟨w.heap.size, 1, none⟩ = false := by simp [World.frozen?, G3.out]
  have z2 : W3.cell? ⟨w.heap.size, 2, none⟩ = some (.int .i64 0) := cell_of_row _ _ _ _ _ _ G3.out
  have f2 : W3.frozen? ⟨w.heap.size, 2, none⟩ = false := by simp [World.frozen?, G3.out]
  have z3 : W3.cell? ⟨w.heap.size, 3, none⟩ = some (.slice none 0 0) := cell_of_row _ _ _ _ _ _ G3.out
  have f3 : W3.frozen? ⟨w.heap.size, 3, none⟩ = false := by simp [World.frozen?, G3.out]
  have z4 : W3.cell? ⟨w.heap.size, 4, none⟩ = some (.slice none 0 0) := cell_of_row _ _ _ _ _ _ G3.out
  have f4 : W3.frozen? ⟨w.heap.size, 4, none⟩ = false := by simp [World.frozen?, G3.out]
  go_enter Tryz.func9, Tryz.ntmps9
  go_wp2
  refine ⟨rfl, .agg #[.int .i64 n, .int .i64 level, .int .i64 1, .slice (some ⟨W1.heap.size, 0, none⟩) 1 1, .slice (some ⟨W2.heap.size, 0, none⟩) 1 1], ?_, ⟨some ⟨W1.heap.size, 0, none⟩, 1, some ⟨W2.heap.size, 0, none⟩, 1, ⟨n, level, 1, [97], [98]⟩⟩, rfl, rfl, ⟨?_, ?_⟩, ?_⟩
  · clear hW1 hW2 hW3
    have r0 : (W3.setCell ⟨w.heap.size, 0, none⟩ (.int .i64 n)).cell? ⟨w.heap.size, 0, none⟩ = some (.int .i64 n) := World.cell?_setCell_same' _ _ _ (by simp [go_sem, z0])
    have r1 : ((W3.setCell ⟨w.heap.size, 0, none⟩ (.int .i64 n)).setCell ⟨w.heap.size, 1, none⟩ (.int .i64 level)).cell? ⟨w.heap.size, 1, none⟩ = some (.int .i64 level) := World.cell?_setCell_same' _ _ _ (by simp [go_sem, z1])
    have r2 : (((W3.setCell ⟨w.heap.size, 0, none⟩ (.int .i64 n)).setCell ⟨w.heap.size, 1, none⟩ (.int .i64 level)).setCell ⟨w.heap.size, 2, none⟩ (.int .i64 1)).cell? ⟨w.heap.size, 2, none⟩ = some (.int .i64 1) := World.cell?_setCell_same' _ _ _ (by simp [go_sem, z2])
    have r3 : ((((W3.setCell ⟨w.heap.size, 0, none⟩ (.int .i64 n)).setCell ⟨w.heap.size, 1, none⟩ (.int .i64 level)).setCell ⟨w.heap.size, 2, none⟩ (.int .i64 1)).setCell ⟨w.heap.size, 3, none⟩ (.slice (some ⟨W1.heap.size, 0, none⟩) 1 1)).cell? ⟨w.heap.size, 3, none⟩ = some (.slice (some ⟨W1.heap.size, 0, none⟩) 1 1) := World.cell?_setCell_same' _ _ _ (by simp [go_sem, z3])
    have r4 : (((((W3.setCell ⟨w.heap.size, 0, none⟩ (.int .i64 n)).setCell ⟨w.heap.size, 1, none⟩ (.int .i64 level)).setCell ⟨w.heap.size, 2, none⟩ (.int .i64 1)).setCell ⟨w.heap.size, 3, none⟩ (.slice (some ⟨W1.heap.size, 0, none⟩) 1 1)).setCell ⟨w.heap.size, 4, none⟩ (.slice (some ⟨W2.heap.size, 0, none⟩) 1 1)).cell? ⟨w.heap.size, 4, none⟩ = some (.slice (some ⟨W2.heap.size, 0, none⟩) 1 1) := World.cell?_setCell_same' _ _ _ (by simp [go_sem, z4])
    simp [results, Tryz.f9, go_sem, loadCells, loadCellsFrom, r0, r1, r2, r3, r4]
  · refine (a2.out.below l3.out).farB (b := w.heap.size) (fun ad e => by cases e; have := s1.out; show W1.heap.size ≠ w.heap.size; omega) (fun g hg => ?_)
    simp only [set_farM _ _ hg]
  · refine a3.out.farB (b := w.heap.size) (fun ad e => by cases e; have := l2.out.size; rw [s1.out] at this; show W2.heap.size ≠ w.heap.size; omega) (fun g hg => ?_)
    simp only [set_farM _ _ hg]
  · exact (((((B3.out.setCell (p := ⟨w.heap.size, 0, none⟩) (Nat.le_refl _) _).setCell (p := ⟨w.heap.size, 1, none⟩) (Nat.le_refl _) _).setCell (p := ⟨w.heap.size, 2, none⟩) (Nat.le_refl _) _).setCell (p := ⟨w.heap.size, 3, none⟩) (Nat.le_refl _) _).setCell (p := ⟨w.heap.size, 4, none⟩) (Nat.le_refl _) _)
theorem rsrc_new (w : World) (es : List MV) (t : TypeId) (hh : ∀ y ∈ es, metaKind.held (w.alloc (.cells (rv metaKind es).toArray t)) y) : RSrc metaKind (w.alloc (.cells (rv metaKind es).toArray t)) (some ⟨w.heap.size, 0, none⟩) es.length es.length es :=
  ⟨rfl, Nat.le_refl _, fun e => (by cases e), fun ad e j u hu => by
    cases e
    rw [Addr.add_mid, Nat.zero_add, cell_of_row _ _ _ _ _ _ (heap_alloc_new w _)]
    simpa using hu, hh⟩
theorem isrc_new (w : World) (zs : List Int) (t : TypeId) : RSrc inK (w.alloc (.cells (zs.map (Value.int .i64)).toArray t)) (some ⟨w.heap.size, 0, none⟩) zs.length zs.length zs :=
  ⟨rfl, Nat.le_refl _, fun e => (by cases e), fun ad e j u hu => by
    cases e
    rw [rv_int] at hu
    rw [Addr.add_mid, Nat.zero_add, cell_of_row _ _ _ _ _ _ (heap_alloc_new w _)]
    simpa using hu, fun _ _ => trivial⟩
theorem VV.isV {y : VV} {v : Ed.Ver} (h : y.v = v) : y.gen = v.gen ∧ y.next = v.next ∧ y.log = v.log ∧ y.seq = v.seq ∧ y.es.map (·.m) = v.tabs := by subst h; exact ⟨rfl, rfl, rfl, rfl, rfl⟩
set_option maxHeartbeats 4000000 in
set_option maxRecDepth 100000 in
theorem awake_any (w : World) : Calls Tryz.prog 4 #[] w fun e w' => e = .returned (.bool true) ∧ Below w.heap.size w w' := by
  have kc := conv_constM
  go_enter Tryz.func4, Tryz.ntmps4
  go_wp2_with fail
  refine (awake1_any 3 0 w).mono ?_
  rintro e w1 ⟨y3, rfl, hm3, hh3, hb1⟩
  have B1 := keep hb1
  have H3 := keep hh3
  have M3 := keep hm3
  obtain ⟨afp, afc, alp, alc, ⟨anum, alevel, acount, afirst, alast⟩⟩ := y3
  unfold mv
  simp only
  clear hb1 hh3 hm3
  go_wp2_with fail
  refine (awake1_any 4 1 w1).mono ?_
  rintro e w2 ⟨y4, rfl, hm4, hh4, hb2⟩
  have L2 := keep hb2
  have B2 := keep (B1.out.trans (hb2.mono B1.out.size))
  have H4 := keep hh4
  have M4 := keep hm4
  obtain ⟨bfp, bfc, blp, blc, ⟨bnum, blevel, bcount, bfirst, blast⟩⟩ := y4
  unfold mv
  simp only
  clear hb2 hh4 hm4
  go_wp2_with fail
  refine (awake1_any 5 0 w2).mono ?_
  rintro e w3 ⟨y5, rfl, hm5, hh5, hb3⟩
  have L3 := keep hb3
  have B3 := keep (B2.out.trans (hb3.mono B2.out.size))
  have H5 := keep hh5
  have M5 := keep hm5
  obtain ⟨dfp, dfc, dlp, dlc, ⟨dnum, dlevel, dcount, dfirst, dlast⟩⟩ := y5
  unfold mv
  simp only
  clear hb3 hh5 hm5
  obtain ⟨YS, hYS⟩ : ∃ YS : List MV, YS = [⟨afp, afc, alp, alc, ⟨anum, alevel, acount, afirst, alast⟩⟩, ⟨bfp, bfc, blp, blc, ⟨bnum, blevel, bcount, bfirst, blast⟩⟩, ⟨dfp, dfc, dlp, dlc, ⟨dnum, dlevel, dcount, dfirst, dlast⟩⟩] := ⟨_, rfl⟩
  have HM : Hid (YS.map (·.m) = [Ed.aw3, Ed.aw4, Ed.aw5]) := by
    show _ = _
    have e1 := M3.out
    have e2 := M4.out
    have e3 := M5.out
    simp only at e1 e2 e3
    rw [hYS]
    simp only [List.map_cons, List.map_nil, e1, e2, e3]
    rfl
  obtain ⟨W4, hW4⟩ : ∃ W4, w3.alloc (.cells #[.int .i64 anum, .int .i64 alevel, .int .i64 acount, .slice afp afirst.length afc, .slice alp alast.length alc, .int .i64 bnum, .int .i64 blevel, .int .i64 bcount, .slice bfp bfirst.length bfc, .slice blp blast.length blc, .int .i64 dnum, .int .i64 dlevel, .int .i64 dcount, .slice dfp dfirst.length dfc, .slice dlp dlast.length dlc] 39) = W4 := ⟨_, rfl⟩
  have l4 : Hid (Below w3.heap.size w3 W4) := by rw [← hW4]; exact (Below.refl _ _).alloc (Nat.le_refl _) _
  have B4 := keep (B3.out.trans (l4.out.mono B3.out.size))
  have S4 : Hid (RSrc metaKind W4 (some ⟨w3.heap.size, 0, none⟩) 3 3 YS) := by
    have hh : ∀ y ∈ YS, metaKind.held W4 y := fun y hy => by
      rw [hYS] at hy
      simp only [List.mem_cons, List.not_mem_nil, or_false] at hy
      rcases hy with rfl | rfl | rfl
      · exact metaKind_ok.below (metaKind_ok.below (metaKind_ok.below H3.out L2.out) L3.out) l4.out
      · exact metaKind_ok.below (metaKind_ok.below H4.out L3.out) l4.out
      · exact metaKind_ok.below H5.out l4.out
    have := rsrc_new w3 YS 39
    rw [hYS] at this hh ⊢
    rw [← hW4] at hh ⊢
    exact this hh
  have A4 := keep (apply_any ⟨none, 0, 0, 0, 6, 0, 0, []⟩ none 0 0 [] (some ⟨w3.heap.size, 0, none⟩) 3 3 YS W4 (RSrc.empty (fun _ => rfl)) (RSrc.empty (fun _ => rfl)) S4.out (by omega) (by omega))
  unfold VV.val at A4
  simp only at A4
  clear hYS
  go_wp2_with fail
  refine A4.out.mono ?_
  rintro e w5 ⟨⟨y, rfl, hy, hv⟩, hb5⟩
  have B5 := keep (B4.out.trans (hb5.mono B4.out.size))
  rw [HM.out, show Ed.applies (VV.v ⟨none, 0, 0, 0, 6, 0, 0, []⟩) [] [Ed.aw3, Ed.aw4, Ed.aw5] = true from Ed.aw_first] at hv ⊢
  rw [if_pos rfl] at hv ⊢
  rw [show Ed.after (VV.v ⟨none, 0, 0, 0, 6, 0, 0, []⟩) [] [Ed.aw3, Ed.aw4, Ed.aw5] = Ed.awW from Ed.aw_after] at hv
  have HY := keep hy
  have HV := keep hv
  have hn3 : y.n = 3 := by
    have h1 := (VV.isV hv).2.2.2.2
    have h2 : y.es.length = y.n := RSrc.len hy
    have h3 := congrArg List.length h1
    rw [List.length_map, h2] at h3
    exact h3
  obtain ⟨p, n, c, gen, next, log, seq, es⟩ := y
  obtain ⟨e1, e2, e3, e4, _⟩ := VV.isV hv
  simp only at hn3 e1 e2 e3 e4
  have E1 : gen = 1 := e1
  have E2 : next = 6 := e2
  have E3 : log = 0 := e3
  have E4 : seq = 0 := e4
  subst E1 E2 E3 E4 hn3
  unfold VV.val
  simp only
  clear hb5 hv hy e1 e2 e3 e4 A4 hW4
  obtain ⟨W6, hW6⟩ : ∃ W6, w5.alloc (.cells #[.int .i64 1, .int .i64 6, .int .i64 0, .int .i64 0, .slice p 3 c] 26) = W6 := ⟨_, rfl⟩
  have l6 : Hid (Below w5.heap.size w5 W6) := by rw [← hW6]; exact (Below.refl _ _).alloc (Nat.le_refl _) _
  have B6 := keep (B5.out.trans (l6.out.mono B5.out.size))
  have g6 : Hid (W6.heap[w5.heap.size]? = some (.cells #[.int .i64 1, .int .i64 6, .int .i64 0, .int .i64 0, .slice p 3 c] 26)) := by rw [← hW6]; exact heap_alloc_new w5 _
  have CV : Hid (∀ w', Below W6.heap.size W6 w' → w'.cell? ⟨w5.heap.size, 0, none⟩ = some (.int .i64 1) ∧ w'.cell? ⟨w5.heap.size, 1, none⟩ = some (.int .i64 6) ∧ w'.cell? ⟨w5.heap.size, 2, none⟩ = some (.int .i64 0) ∧ w'.cell? ⟨w5.heap.size, 3, none⟩ = some (.int .i64 0) ∧ w'.cell? ⟨w5.heap.size, 4, none⟩ = some (.slice p 3 c)) := fun w' hb => ⟨belowE hb (cell_of_row _ _ _ _ _ _ g6.out), belowE hb (cell_of_row _ _ _ _ _ _ g6.out), belowE hb (cell_of_row _ _ _ _ _ _ g6.out), belowE hb (cell_of_row _ _ _ _ _ _ g6.out), belowE hb (cell_of_row _ _ _ _ _ _ g6.out)⟩
  have HY6 : Hid (VV.held W6 ⟨p, 3, c, 1, 6, 0, 0, es⟩) := HY.out.below l6.out
  obtain ⟨W7, hW7⟩ : ∃ W7, W6.alloc (.cells #[.int .i64 9] 3) = W7 := ⟨_, rfl⟩
  have l7 : Hid (Below W6.heap.size W6 W7) := by rw [← hW7]; exact (Below.refl _ _).alloc (Nat.le_refl _) _
  have D7 : Hid (RSrc inK W7 (some ⟨W6.heap.size, 0, none⟩) 1 1 [9]) := by rw [← hW7]; exact isrc_new W6 [9] 3
  have A7 := keep (apply_any ⟨p, 3, c, 1, 6, 0, 0, es⟩ (some ⟨W6.heap.size, 0, none⟩) 1 1 [9] none 0 0 [] W7 (HY6.out.below l7.out) D7.out (RSrc.empty (fun _ => rfl)) (by omega) (by omega))
  unfold VV.val at A7
  simp only at A7
  obtain ⟨c0, c1, c2, c3, c4⟩ := CV.out W6 (Below.refl _ _)
  go_wp2_with fail
  refine A7.out.mono ?_
  rintro e w8 ⟨⟨y8, rfl, _, hv8⟩, hb8⟩
  have L8 := keep (l7.out.trans (hb8.mono l7.out.size))
  rw [HV.out, List.map_nil, Ed.aw_second] at hv8 ⊢
  rw [if_neg (by decide)] at hv8 ⊢
  obtain ⟨p8, n8, c8, gen8, next8, log8, seq8, es8⟩ := y8
  unfold VV.val
  simp only
  clear hb8 hv8 A7 hW7 c0 c1 c2 c3 c4
  obtain ⟨W9, hW9⟩ : ∃ W9, w8.alloc (.cells #[.int .i64 gen8, .int .i64 next8, .int .i64 log8, .int .i64 seq8, .slice p8 n8 c8] 26) = W9 := ⟨_, rfl⟩
  have l9 : Hid (Below w8.heap.size w8 W9) := by rw [← hW9]; exact (Below.refl _ _).alloc (Nat.le_refl _) _
  have L9 := keep (L8.out.trans (l9.out.mono L8.out.size))
  obtain ⟨W10, hW10⟩ : ∃ W10, W9.alloc (.cells #[.int .u8 97, .int .u8 97] 5 (2, 3)) = W10 := ⟨_, rfl⟩
  have l10 : Hid (Below W9.heap.size W9 W10) := by rw [← hW10]; exact (Below.refl _ _).alloc (Nat.le_refl _) _
  have L10 := keep (L9.out.trans (l10.out.mono L9.out.size))
  have K10 : Hid (Src W10 (some ⟨W9.heap.size, 0, none⟩) 2 2 [97, 97]) := by rw [← hW10]; exact Src.builtM W9 [97, 97] (2, 3)
  obtain ⟨c0, c1, c2, c3, c4⟩ := CV.out W9 L9.out
  have F10 := keep (find_any ⟨p, 3, c, 1, 6, 0, 0, es⟩ (some ⟨W9.heap.size, 0, none⟩) 2 2 [97, 97] W10 (HY6.out.below L10.out) K10.out (show (3 : Nat) ≤ 1000000 by decide))
  unfold VV.val at F10
  simp only at F10
  rw [HV.out, Ed.aw_find] at F10
  go_wp2_with fail
  refine F10.out.mono ?_
  rintro e w11 ⟨v11, rfl, ho11, hb11⟩
  have L11 := keep (L10.out.trans (hb11.mono L10.out.size))
  obtain ⟨g11, cap11, rfl⟩ := own_formI (n := 2) ho11
  have i0 : w11.cell? ⟨g11, 0, none⟩ = some (.int .i64 5) := ho11.cellAt 0 (by decide)
  have i1 : w11.cell? ⟨g11, 1, none⟩ = some (.int .i64 3) := ho11.cellAt 1 (by decide)
  have i2 : w11.cell? ⟨g11, 2, none⟩ = some (.int .i64 4) := ho11.cellAt 2 (by decide)
  clear hb11 ho11 F10 hW9 hW10 c0 c1 c2 c3 c4
  obtain ⟨c0, c1, c2, c3, c4⟩ := CV.out w11 L11.out
  have LV := keep (level_any ⟨p, 3, c, 1, 6, 0, 0, es⟩ 0 w11 (HY6.out.below L11.out) (show (3 : Nat) ≤ 1000000 by decide) (fun y hy => by
    have hm : y.m ∈ Ed.awW.tabs := by
      have := (VV.isV HV.out).2.2.2.2
      rw [← this]
      exact List.mem_map_of_mem hy
    have := Ed.may_keys (Ed.notes_may Ed.aw_notes hm).1
    omega))
  unfold VV.val at LV
  simp only at LV
  rw [HV.out] at LV
  go_wp2_with fail
  refine LV.out.mono ?_
  rintro e w12 ⟨v12, ys, rfl, hm12, hy12, hb12⟩
  obtain ⟨q12, c12, rfl, _, _⟩ := hm12.src
  have B12 := keep (B6.out.trans ((L11.out.trans (hb12.mono L11.out.size)).mono B6.out.size))
  have hl2 : ys.length = 2 := by
    have := congrArg List.length hy12
    rw [List.length_map, Ed.aw_level] at this
    exact this
  rw [hl2]
  clear hm12 hy12 hb12 hl2 LV
  go_wp2
  go_ret
  exact ⟨rfl, B12.out⟩
end Go.Proofs.YthaiodajfmbeaaaGreat
