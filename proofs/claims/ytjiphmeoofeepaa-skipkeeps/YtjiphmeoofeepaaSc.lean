/- The walk of skip's copied. -/
import Derived.Test.YtjiphmeoofeepaaSb
import Derived.Test.YtjiphmeoofeepaaOw
import Derived.Deep.RegionWith
import Derived.BigRegion
namespace Go.Proofs.Ytjiphmeoofeepaa
open Go.RowKit
open Sk (Ent)

theorem set_far {w : World} {g b : Nat} (i : Nat) (v : Value) (h : g ≠ b) : (w.setCell ⟨b, i, none⟩ v).heap[g]? = w.heap[g]? := Below.heap_setCell w ⟨b, i, none⟩ v g h
/-- An entry in memory that was made at or beyond B. -/
def OwnE (B : Nat) (w : World) (y : EV) : Prop := w.ownsRow B 5 1 (.slice y.kp y.e.key.length y.kc) y.e.key.length (bv y.e.key) ∧ w.ownsRow B 5 1 (.slice y.vp y.e.val.length y.vc) y.e.val.length (bv y.e.val)
set_option maxHeartbeats 2000000 in
set_option maxRecDepth 100000 in
theorem copied_any (x : EV) (w : World) (hk : x.e.key.length ≤ 140737488355328) (hv : x.e.val.length ≤ 140737488355328) (hh : entKind.held w x) : Calls Try.prog 20 #[ev x] w fun e w' => ∃ y : EV, e = .returned (ev y) ∧ y.e = x.e ∧ OwnE w.heap.size w' y ∧ Below w.heap.size w w' := by
  obtain ⟨kp, kc, vp, vc, key, seq, gone, val⟩ := x
  have HK : Hid (Src w kp key.length kc key) := hh.1
  have HV : Hid (Src w vp val.length vc val) := hh.2
  simp only at hk hv
  clear hh
  unfold ev
  simp only
  obtain ⟨K, hK⟩ : ∃ K, key.length = K := ⟨_, rfl⟩
  obtain ⟨V, hV⟩ : ∃ V, val.length = V := ⟨_, rfl⟩
  have HKK := keep hK
  have HVV := keep hV
  rw [hK] at HK hk ⊢
  rw [hV] at HV hv ⊢
  clear hK hV
  obtain ⟨W1, hW1⟩ : ∃ W1, (w.alloc (.cells #[.slice kp K kc, .int .i64 seq, .bool gone, .slice vp V vc] 28)).alloc (.cells #[.slice none 0 0, .int .i64 0, .bool false, .slice none 0 0] 28) = W1 := ⟨_, rfl⟩
  have b1 : Hid (Below w.heap.size w W1) := by rw [← hW1]; exact ((Below.refl _ _).alloc (Nat.le_refl _) _).alloc (by simp) _
  have s1 : Hid (W1.heap.size = w.heap.size + 2) := by rw [← hW1]; show _ = _; simp
  have g0 : Hid (W1.heap[w.heap.size]? = some (.cells #[.slice kp K kc, .int .i64 seq, .bool gone, .slice vp V vc] 28)) := by
    rw [← hW1]; exact (Below.heap_alloc _ _ _ (by simp)).trans (heap_alloc_new w _)
  have g1 : Hid (W1.heap[w.heap.size + 1]? = some (.cells #[.slice none 0 0, .int .i64 0, .bool false, .slice none 0 0] 28)) := by
    have := heap_alloc_new (w.alloc (.cells #[.slice kp K kc, .int .i64 seq, .bool gone, .slice vp V vc] 28)) (.cells #[.slice none 0 0, .int .i64 0, .bool false, .slice none 0 0] 28)
    rw [World.size_alloc] at this
    rw [← hW1]; exact this
  have KC1 : Hid (∀ w', Below W1.heap.size W1 w' → Calls Try.prog 29 #[.slice kp K kc] w' fun e w'' => ∃ a c, e = .returned (.slice a K c) ∧ w''.ownsRow w.heap.size 5 1 (.slice a K c) K (bv key) ∧ Below W1.heap.size W1 w'') := fun w' hb => by
    refine (clone_any kp K kc key w' hk (HK.out.below (b1.out.trans (hb.mono b1.out.size)))).mono ?_
    rintro e w'' ⟨v, rfl, hn⟩
    obtain ⟨a, c, rfl, _, _⟩ := hn.src
    exact ⟨a, c, rfl, own_base hn.1 (fun g hg => Nat.le_trans (Nat.le_trans b1.out.size hb.size) (hn.1.lt g hg).1), hb.trans (hn.2.mono hb.size)⟩
  have KC2 : Hid (∀ w', Below W1.heap.size W1 w' → Calls Try.prog 29 #[.slice vp V vc] w' fun e w'' => ∃ a c, e = .returned (.slice a V c) ∧ w''.ownsRow w.heap.size 5 1 (.slice a V c) V (bv val) ∧ Below w'.heap.size w' w'') := fun w' hb => by
    refine (clone_any vp V vc val w' hv (HV.out.below (b1.out.trans (hb.mono b1.out.size)))).mono ?_
    rintro e w'' ⟨v, rfl, hn⟩
    obtain ⟨a, c, rfl, _, _⟩ := hn.src
    exact ⟨a, c, rfl, own_base hn.1 (fun g hg => Nat.le_trans (Nat.le_trans b1.out.size hb.size) (hn.1.lt g hg).1), hn.2⟩
  have KG : Hid (∀ w', Below W1.heap.size W1 w' → w'.heap[w.heap.size]? = some (.cells #[.slice kp K kc, .int .i64 seq, .bool gone, .slice vp V vc] 28) ∧ w'.heap[w.heap.size + 1]? = some (.cells #[.slice none 0 0, .int .i64 0, .bool false, .slice none 0 0] 28)) := fun w' hb => ⟨(hb.block _ (by rw [s1.out]; omega)).trans g0.out, (hb.block _ (by rw [s1.out]; omega)).trans g1.out⟩
  have KF : Hid (∀ w', Below W1.heap.size W1 w' → w'.cell? ⟨w.heap.size, 0, none⟩ = some (.slice kp K kc) ∧ w'.cell? ⟨w.heap.size, 3, none⟩ = some (.slice vp V vc) ∧ w'.frozen? ⟨w.heap.size, 0, none⟩ = false ∧ w'.frozen? ⟨w.heap.size, 3, none⟩ = false ∧ w'.cell? ⟨w.heap.size, 1, none⟩ = some (.int .i64 seq) ∧ w'.cell? ⟨w.heap.size, 2, none⟩ = some (.bool gone)) := fun w' hb => by
    have h := (KG.out w' hb).1
    exact ⟨cell_of_row _ _ _ _ _ _ h, cell_of_row _ _ _ _ _ _ h, by simp [World.frozen?, h], by simp [World.frozen?, h], cell_of_row _ _ _ _ _ _ h, cell_of_row _ _ _ _ _ _ h⟩
  have KR : Hid (∀ w', Below W1.heap.size W1 w' → w'.cell? ⟨w.heap.size + 1, 0, none⟩ = some (.slice none 0 0) ∧ w'.cell? ⟨w.heap.size + 1, 1, none⟩ = some (.int .i64 0) ∧ w'.cell? ⟨w.heap.size + 1, 2, none⟩ = some (.bool false) ∧ w'.cell? ⟨w.heap.size + 1, 3, none⟩ = some (.slice none 0 0) ∧ w'.frozen? ⟨w.heap.size + 1, 0, none⟩ = false ∧ w'.frozen? ⟨w.heap.size + 1, 1, none⟩ = false ∧ w'.frozen? ⟨w.heap.size + 1, 2, none⟩ = false ∧ w'.frozen? ⟨w.heap.size + 1, 3, none⟩ = false) := fun w' hb => by
    have h := (KG.out w' hb).2
    exact ⟨cell_of_row _ _ _ _ _ _ h, cell_of_row _ _ _ _ _ _ h, cell_of_row _ _ _ _ _ _ h, cell_of_row _ _ _ _ _ _ h, by simp [World.frozen?, h], by simp [World.frozen?, h], by simp [World.frozen?, h], by simp [World.frozen?, h]⟩
  obtain ⟨c10, c13, f10, f13, _, _⟩ := KF.out W1 (Below.refl _ _)
  go_enter Try.func20, Try.ntmps20
  go_wp2_with fail
  go_region_with (first
    | (go_at_call 29; go_fit (KC1.out W1.drew (Below.refl _ _).drew); rintro e w2 ⟨a2, k2, rfl, ho2, hb2⟩; have b2 := keep hb2; have O2 := keep ho2; obtain ⟨c20, c23, f20, f23, _, _⟩ := KF.out w2 hb2; clear ho2 hb2)
    | (go_at_call 29; go_fit (KC2.out w2 b2.out); rintro e w3 ⟨a3, k3, rfl, ho3, hb3⟩; have b3 := keep (b2.out.trans (hb3.mono b2.out.size)); have O3 := keep ho3; have O2' := keep (own_block (w' := w3) O2.out (fun g hg => hb3.block g (own_size O2.out hg))); obtain ⟨c30, c33, f30, f33, c31, c32⟩ := KF.out w3 b3.out; have G3 := keep (KG.out w3 b3.out); clear ho3 hb3))
  all_goals
    obtain ⟨d0, d1, d2, d3, e0, e1, e2, e3⟩ := KR.out w3 b3.out
    go_wp2
    have far : ∀ {v : Value} {n : Nat} {xs : List Value}, w3.ownsRow w.heap.size 5 1 v n xs → ∀ g, v.ownBlock = some g → g ≠ w.heap.size ∧ g ≠ w.heap.size + 1 := fun {v n xs} h g hg => by
      obtain ⟨cur, hc⟩ := own_tag h hg
      refine ⟨fun e => ?_, fun e => ?_⟩
      · rw [e, G3.out.1] at hc; cases hc
      · rw [e, G3.out.2] at hc; cases hc
    refine ⟨rfl, .agg #[.slice a2 K k2, .int .i64 seq, .bool gone, .slice a3 V k3], ?_, ⟨a2, k2, a3, k3, ⟨key, seq, gone, val⟩⟩, ?_, rfl, ⟨?_, ?_⟩, ?_⟩
    · clear hW1 c30 c33 c31 c32 c20 c23
      have r0 : (((w3.setCell ⟨w.heap.size, 0, none⟩ (.slice a2 K k2)).setCell ⟨w.heap.size, 3, none⟩ (.slice a3 V k3)).setCell ⟨w.heap.size + 1, 0, none⟩ (.slice a2 K k2)).cell? ⟨w.heap.size + 1, 0, none⟩ = some (.slice a2 K k2) := World.cell?_setCell_same' _ _ _ (by simp [go_sem, d0])
      have r1 : ((((w3.setCell ⟨w.heap.size, 0, none⟩ (.slice a2 K k2)).setCell ⟨w.heap.size, 3, none⟩ (.slice a3 V k3)).setCell ⟨w.heap.size + 1, 0, none⟩ (.slice a2 K k2)).setCell ⟨w.heap.size + 1, 1, none⟩ (.int .i64 seq)).cell? ⟨w.heap.size + 1, 1, none⟩ = some (.int .i64 seq) := World.cell?_setCell_same' _ _ _ (by simp [go_sem, d1])
      have r2 : (((((w3.setCell ⟨w.heap.size, 0, none⟩ (.slice a2 K k2)).setCell ⟨w.heap.size, 3, none⟩ (.slice a3 V k3)).setCell ⟨w.heap.size + 1, 0, none⟩ (.slice a2 K k2)).setCell ⟨w.heap.size + 1, 1, none⟩ (.int .i64 seq)).setCell ⟨w.heap.size + 1, 2, none⟩ (.bool gone)).cell? ⟨w.heap.size + 1, 2, none⟩ = some (.bool gone) := World.cell?_setCell_same' _ _ _ (by simp [go_sem, d2])
      have r3 : ((((((w3.setCell ⟨w.heap.size, 0, none⟩ (.slice a2 K k2)).setCell ⟨w.heap.size, 3, none⟩ (.slice a3 V k3)).setCell ⟨w.heap.size + 1, 0, none⟩ (.slice a2 K k2)).setCell ⟨w.heap.size + 1, 1, none⟩ (.int .i64 seq)).setCell ⟨w.heap.size + 1, 2, none⟩ (.bool gone)).setCell ⟨w.heap.size + 1, 3, none⟩ (.slice a3 V k3)).cell? ⟨w.heap.size + 1, 3, none⟩ = some (.slice a3 V k3) := World.cell?_setCell_same' _ _ _ (by simp [go_sem, d3])
      simp [results, Try.f20, go_sem, loadCells, loadCellsFrom, r0, r1, r2, r3]
    · show _ = Ending.returned (Value.agg #[.slice a2 key.length k2, .int .i64 seq, .bool gone, .slice a3 val.length k3])
      rw [HKK.out, HVV.out]
    · show World.ownsRow _ _ _ _ (.slice a2 key.length k2) key.length (bv key)
      rw [HKK.out]
      refine own_block O2'.out (fun g hg => ?_)
      obtain ⟨h1, h2⟩ := far O2'.out g hg
      simp only [set_far _ _ h1, set_far _ _ h2]
    · show World.ownsRow _ _ _ _ (.slice a3 val.length k3) val.length (bv val)
      rw [HVV.out]
      refine own_block O3.out (fun g hg => ?_)
      obtain ⟨h1, h2⟩ := far O3.out g hg
      simp only [set_far _ _ h1, set_far _ _ h2]
    · have h3 := b1.out.trans (b3.out.mono b1.out.size)
      exact ((((((h3.setCell (p := ⟨w.heap.size, 0, none⟩) (Nat.le_refl _) _).setCell (p := ⟨w.heap.size, 3, none⟩) (Nat.le_refl _) _).setCell (p := ⟨w.heap.size + 1, 0, none⟩) (Nat.le_succ _) _).setCell (p := ⟨w.heap.size + 1, 1, none⟩) (Nat.le_succ _) _).setCell (p := ⟨w.heap.size + 1, 2, none⟩) (Nat.le_succ _) _).setCell (p := ⟨w.heap.size + 1, 3, none⟩) (Nat.le_succ _) _)
end Go.Proofs.Ytjiphmeoofeepaa
