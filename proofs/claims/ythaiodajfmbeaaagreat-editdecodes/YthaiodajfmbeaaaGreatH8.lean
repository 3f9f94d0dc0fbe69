/- The walk of a note's copied. -/
import Derived.Test.YthaiodajfmbeaaaGreatH7
import Derived.Test.YthaiodajfmbeaaaGreatCl
import Derived.Deep.RegionWith
import Derived.BigRegion
namespace Go.Proofs.YthaiodajfmbeaaaGreat
open Go.RowKit
open Ed (Nt)

theorem set_farM {w : World} {g b : Nat} (i : Nat) (v : Value) (h : g ≠ b) : (w.setCell ⟨b, i, none⟩ v).heap[g]? = w.heap[g]? := Below.heap_setCell w ⟨b, i, none⟩ v g h
/-- A note in memory whose bytes were made at or beyond B. -/
def OwnM (B : Nat) (w : World) (y : MV) : Prop := w.ownsRow B 5 1 (.slice y.fp y.m.first.length y.fc) y.m.first.length (bv y.m.first) ∧ w.ownsRow B 5 1 (.slice y.lp y.m.last.length y.lc) y.m.last.length (bv y.m.last)
set_option maxHeartbeats 2000000 in
set_option maxRecDepth 100000 in
theorem mcopied_any (x : MV) (w : World) (hk : x.m.first.length ≤ 140737488355328) (hv : x.m.last.length ≤ 140737488355328) (hh : metaKind.held w x) : Calls Tryz.prog 29 #[mv x] w fun e w' => ∃ y : MV, e = .returned (mv y) ∧ y.m = x.m ∧ OwnM w.heap.size w' y ∧ Below w.heap.size w w' := by
  obtain ⟨fp, fc, lp, lc, num, level, count, key, val⟩ := x
  have HK : Hid (Src w fp key.length fc key) := hh.1
  have HV : Hid (Src w lp val.length lc val) := hh.2
  simp only at hk hv
  clear hh
  unfold mv
  simp only
  obtain ⟨K, hK⟩ : ∃ K, key.length = K := ⟨_, rfl⟩
  obtain ⟨V, hV⟩ : ∃ V, val.length = V := ⟨_, rfl⟩
  have HKK := keep hK
  have HVV := keep hV
  rw [hK] at HK hk ⊢
  rw [hV] at HV hv ⊢
  clear hK hV
  obtain ⟨W1, hW1⟩ : ∃ W1, (w.alloc (.cells #[.int .i64 num, .int .i64 level, .int .i64 count, .slice fp K fc, .slice lp V lc] 39)).alloc (.cells #[.int .i64 0, .int .i64 0, .int .i64 0, .slice none 0 0, .slice none 0 0] 39) = W1 := ⟨_, rfl⟩
  have b1 : Hid (Below w.heap.size w W1) := by rw [← hW1]; exact ((Below.refl _ _).alloc (Nat.le_refl _) _).alloc (by simp) _
  have s1 : Hid (W1.heap.size = w.heap.size + 2) := by rw [← hW1]; show _ = _; simp
  have g0 : Hid (W1.heap[w.heap.size]? = some (.cells #[.int .i64 num, .int .i64 level, .int .i64 count, .slice fp K fc, .slice lp V lc] 39)) := by
    rw [← hW1]; exact (Below.heap_alloc _ _ _ (by simp)).trans (heap_alloc_new w _)
  have g1 : Hid (W1.heap[w.heap.size + 1]? = some (.cells #[.int .i64 0, .int .i64 0, .int .i64 0, .slice none 0 0, .slice none 0 0] 39)) := by
    have := heap_alloc_new (w.alloc (.cells #[.int .i64 num, .int .i64 level, .int .i64 count, .slice fp K fc, .slice lp V lc] 39)) (.cells #[.int .i64 0, .int .i64 0, .int .i64 0, .slice none 0 0, .slice none 0 0] 39)
    rw [World.size_alloc] at this
    rw [← hW1]; exact this
  have KC1 : Hid (∀ w', Below W1.heap.size W1 w' → Calls Tryz.prog 52 #[.slice fp K fc] w' fun e w'' => ∃ a c, e = .returned (.slice a K c) ∧ w''.ownsRow w.heap.size 5 1 (.slice a K c) K (bv key) ∧ Below W1.heap.size W1 w'') := fun w' hb => by
    refine (clone_any fp K fc key w' hk (HK.out.below (b1.out.trans (hb.mono b1.out.size)))).mono ?_
    rintro e w'' ⟨v, rfl, hn⟩
    obtain ⟨a, c, rfl, _, _⟩ := hn.src
    exact ⟨a, c, rfl, own_base hn.1 (fun g hg => Nat.le_trans (Nat.le_trans b1.out.size hb.size) (hn.1.lt g hg).1), hb.trans (hn.2.mono hb.size)⟩
  have KC2 : Hid (∀ w', Below W1.heap.size W1 w' → Calls Tryz.prog 52 #[.slice lp V lc] w' fun e w'' => ∃ a c, e = .returned (.slice a V c) ∧ w''.ownsRow w.heap.size 5 1 (.slice a V c) V (bv val) ∧ Below w'.heap.size w' w'') := fun w' hb => by
    refine (clone_any lp V lc val w' hv (HV.out.below (b1.out.trans (hb.mono b1.out.size)))).mono ?_
    rintro e w'' ⟨v, rfl, hn⟩
    obtain ⟨a, c, rfl, _, _⟩ := hn.src
    exact ⟨a, c, rfl, own_base hn.1 (fun g hg => Nat.le_trans (Nat.le_trans b1.out.size hb.size) (hn.1.lt g hg).1), hn.2⟩
  have KG : Hid (∀ w', Below W1.heap.size W1 w' → w'.heap[w.heap.size]? = some (.cells #[.int .i64 num, .int .i64 level, .int .i64 count, .slice fp K fc, .slice lp V lc] 39) ∧ w'.heap[w.heap.size + 1]? = some (.cells #[.int .i64 0, .int .i64 0, .int .i64 0, .slice none 0 0, .slice none 0 0] 39)) := fun w' hb => ⟨(hb.block _ (by rw [s1.out]; omega)).trans g0.out, (hb.block _ (by rw [s1.out]; omega)).trans g1.out⟩
  have KF : Hid (∀ w', Below W1.heap.size W1 w' → w'.cell? ⟨w.heap.size, 3, none⟩ = some (.slice fp K fc) ∧ w'.cell? ⟨w.heap.size, 4, none⟩ = some (.slice lp V lc) ∧ w'.frozen? ⟨w.heap.size, 3, none⟩ = false ∧ w'.frozen? ⟨w.heap.size, 4, none⟩ = false ∧ w'.cell? ⟨w.heap.size, 0, none⟩ = some (.int .i64 num) ∧ w'.cell? ⟨w.heap.size, 1, none⟩ = some (.int .i64 level) ∧ w'.cell? ⟨w.heap.size, 2, none⟩ = some (.int .i64 count)) := fun w' hb => by
    have h := (KG.out w' hb).1
    exact ⟨cell_of_row _ _ _ _ _ _ h, cell_of_row _ _ _ _ _ _ h, by simp [World.frozen?, h], by simp [World.frozen?, h], cell_of_row _ _ _ _ _ _ h, cell_of_row _ _ _ _ _ _ h, cell_of_row _ _ _ _ _ _ h⟩
  have KR : Hid (∀ w', Below W1.heap.size W1 w' → w'.cell? ⟨w.heap.size + 1, 0, none⟩ = some (.int .i64 0) ∧ w'.cell? ⟨w.heap.size + 1, 1, none⟩ = some (.int .i64 0) ∧ w'.cell? ⟨w.heap.size + 1, 2, none⟩ = some (.int .i64 0) ∧ w'.cell? ⟨w.heap.size + 1, 3, none⟩ = some (.slice none 0 0) ∧ w'.cell? ⟨w.heap.size + 1, 4, none⟩ = some (.slice none 0 0) ∧ w'.frozen? ⟨w.heap.size + 1, 0, none⟩ = false ∧ w'.frozen? ⟨w.heap.size + 1, 1, none⟩ = false ∧ w'.frozen? ⟨w.heap.size + 1, 2, none⟩ = false ∧ w'.frozen? ⟨w.heap.size + 1, 3, none⟩ = false ∧ w'.frozen? ⟨w.heap.size + 1, 4, none⟩ = false) := fun w' hb => by
    have h := (KG.out w' hb).2
    exact ⟨cell_of_row _ _ _ _ _ _ h, cell_of_row _ _ _ _ _ _ h, cell_of_row _ _ _ _ _ _ h, cell_of_row _ _ _ _ _ _ h, cell_of_row _ _ _ _ _ _ h, by simp [World.frozen?, h], by simp [World.frozen?, h], by simp [World.frozen?, h], by simp [World.frozen?, h], by simp [World.frozen?, h]⟩
  obtain ⟨c10, c13, f10, f13, _, _, _⟩ := KF.out W1 (Below.refl _ _)
  go_enter Tryz.func29, Tryz.ntmps29
  go_wp2_with fail
  go_region_with (first
    | (go_at_call 52; go_fit (KC1.out W1.drew (Below.refl _ _).drew); rintro e w2 ⟨a2, k2, rfl, ho2, hb2⟩; have b2 := keep hb2; have O2 := keep ho2; obtain ⟨c20, c23, f20, f23, _, _, _⟩ := KF.out w2 hb2; clear ho2 hb2)
    | (go_at_call 52; go_fit (KC2.out w2 b2.out); rintro e w3 ⟨a3, k3, rfl, ho3, hb3⟩; have b3 := keep (b2.out.trans (hb3.mono b2.out.size)); have O3 := keep ho3; have O2' := keep (own_block (w' := w3) O2.out (fun g hg => hb3.block g (own_size O2.out hg))); obtain ⟨c30, c33, f30, f33, c31, c32, c34⟩ := KF.out w3 b3.out; have G3 := keep (KG.out w3 b3.out); clear ho3 hb3))
  all_goals
    obtain ⟨d0, d1, d2, d3, d4, e0, e1, e2, e3, e4⟩ := KR.out w3 b3.out
    go_wp2
    have far : ∀ {v : Value} {n : Nat} {xs : List Value}, w3.ownsRow w.heap.size 5 1 v n xs → ∀ g, v.ownBlock = some g → g ≠ w.heap.size ∧ g ≠ w.heap.size + 1 := fun {v n xs} h g hg => by
      obtain ⟨cur, hc⟩ := own_tag h hg
      refine ⟨fun e => ?_, fun e => ?_⟩
      · rw [e, G3.out.1] at hc; cases hc
      · rw [e, G3.out.2] at hc; cases hc
    refine ⟨rfl, .agg #[.int .i64 num, .int .i64 level, .int .i64 count, .slice a2 K k2, .slice a3 V k3], ?_, ⟨a2, k2, a3, k3, ⟨num, level, count, key, val⟩⟩, ?_, rfl, ⟨?_, ?_⟩, ?_⟩
    · clear hW1 c30 c33 c31 c32 c20 c23 c34
      have r0 : (((w3.setCell ⟨w.heap.size, 3, none⟩ (.slice a2 K k2)).setCell ⟨w.heap.size, 4, none⟩ (.slice a3 V k3)).setCell ⟨w.heap.size + 1, 0, none⟩ (.int .i64 num)).cell? ⟨w.heap.size + 1, 0, none⟩ = some (.int .i64 num) := World.cell?_setCell_same' _ _ _ (by simp [go_sem, d0])
      have r1 : ((((w3.setCell ⟨w.heap.size, 3, none⟩ (.slice a2 K k2)).setCell ⟨w.heap.size, 4, none⟩ (.slice a3 V k3)).setCell ⟨w.heap.size + 1, 0, none⟩ (.int .i64 num)).setCell ⟨w.heap.size + 1, 1, none⟩ (.int .i64 level)).cell? ⟨w.heap.size + 1, 1, none⟩ = some (.int .i64 level) := World.cell?_setCell_same' _ _ _ (by simp [go_sem, d1])
      have r2 : (((((w3.setCell ⟨w.heap.size, 3, none⟩ (.slice a2 K k2)).setCell ⟨w.heap.size, 4, none⟩ (.slice a3 V k3)).setCell ⟨w.heap.size + 1, 0, none⟩ (.int .i64 num)).setCell ⟨w.heap.size + 1, 1, none⟩ (.int .i64 level)).setCell ⟨w.heap.size + 1, 2, none⟩ (.int .i64 count)).cell? ⟨w.heap.size + 1, 2, none⟩ = some (.int .i64 count) := World.cell?_setCell_same' _ _ _ (by simp [go_sem, d2])
      have r3 : ((((((w3.setCell ⟨w.heap.size, 3, none⟩ (.slice a2 K k2)).setCell ⟨w.heap.size, 4, none⟩ (.slice a3 V k3)).setCell ⟨w.heap.size + 1, 0, none⟩ (.int .i64 num)).setCell ⟨w.heap.size + 1, 1, none⟩ (.int .i64 level)).setCell ⟨w.heap.size + 1, 2, none⟩ (.int .i64 count)).setCell ⟨w.heap.size + 1, 3, none⟩ (.slice a2 K k2)).cell? ⟨w.heap.size + 1, 3, none⟩ = some (.slice a2 K k2) := World.cell?_setCell_same' _ _ _ (by simp [go_sem, d3])
      have r4 : (((((((w3.setCell ⟨w.heap.size, 3, none⟩ (.slice a2 K k2)).setCell ⟨w.heap.size, 4, none⟩ (.slice a3 V k3)).setCell ⟨w.heap.size + 1, 0, none⟩ (.int .i64 num)).setCell ⟨w.heap.size + 1, 1, none⟩ (.int .i64 level)).setCell ⟨w.heap.size + 1, 2, none⟩ (.int .i64 count)).setCell ⟨w.heap.size + 1, 3, none⟩ (.slice a2 K k2)).setCell ⟨w.heap.size + 1, 4, none⟩ (.slice a3 V k3)).cell? ⟨w.heap.size + 1, 4, none⟩ = some (.slice a3 V k3) := World.cell?_setCell_same' _ _ _ (by simp [go_sem, d4])
      simp [results, Tryz.f29, go_sem, loadCells, loadCellsFrom, r0, r1, r2, r3, r4]
    · show _ = Ending.returned (Value.agg #[.int .i64 num, .int .i64 level, .int .i64 count, .slice a2 key.length k2, .slice a3 val.length k3])
      rw [HKK.out, HVV.out]
    · show World.ownsRow _ _ _ _ (.slice a2 key.length k2) key.length (bv key)
      rw [HKK.out]
      refine own_block O2'.out (fun g hg => ?_)
      obtain ⟨h1, h2⟩ := far O2'.out g hg
      simp only [set_farM _ _ h1, set_farM _ _ h2]
    · show World.ownsRow _ _ _ _ (.slice a3 val.length k3) val.length (bv val)
      rw [HVV.out]
      refine own_block O3.out (fun g hg => ?_)
      obtain ⟨h1, h2⟩ := far O3.out g hg
      simp only [set_farM _ _ h1, set_farM _ _ h2]
    · have h3 := b1.out.trans (b3.out.mono b1.out.size)
      exact (((((((h3.setCell (p := ⟨w.heap.size, 3, none⟩) (Nat.le_refl _) _).setCell (p := ⟨w.heap.size, 4, none⟩) (Nat.le_refl _) _).setCell (p := ⟨w.heap.size + 1, 0, none⟩) (Nat.le_succ _) _).setCell (p := ⟨w.heap.size + 1, 1, none⟩) (Nat.le_succ _) _).setCell (p := ⟨w.heap.size + 1, 2, none⟩) (Nat.le_succ _) _).setCell (p := ⟨w.heap.size + 1, 3, none⟩) (Nat.le_succ _) _).setCell (p := ⟨w.heap.size + 1, 4, none⟩) (Nat.le_succ _) _)
end Go.Proofs.YthaiodajfmbeaaaGreat
