/- The walk of the document's words. -/
import Derived.Test.YtdgfbbaddoghaaaDoorSxRa
import Derived.Deep.RegionHeld3
import Derived.Deep.RegionLaw
import Derived.Deep.DrawnRows
namespace Go.Proofs.YtdgfbbaddoghaaaDoor.Sha
open Go.RowKit
attribute [local go_sem] U_add U_add' U_xor U_and U_or byte_U byte_W shl24 shl16 shl8 shl24W shl16W shl8W shr3 shr10
attribute [local go_sem ↓] Go.wp_at_zero Go.wp_at_succ

theorem turnedS (x : UInt32) (n : Int) (h1 : 0 < n) (h2 : n < 32) (w : World) :
    Calls Tryd.prog 61 #[.int .u32 (U x), .int .i64 n] w fun e w' => e = .returned (.int .u32 (U (rotI x n))) ∧ w'.heap = w.heap ∧ ∀ B a, Below B a w → Below B a w' :=
  (turnedI x n h1 h2 w).mono fun _ _ ⟨he, k, hk⟩ => ⟨he, by rw [hk]; rfl, fun B a hb => by rw [hk]; exact below_drewN hb k⟩
theorem ownsRow_heap {w w' : World} {base e n : Nat} {v : Value} {xs : List Value} (h : w.ownsRow base e 1 v n xs) (hh : w'.heap = w.heap) : w'.ownsRow base e 1 v n xs := by
  unfold World.ownsRow at h ⊢
  rw [hh]
  exact h

set_option maxHeartbeats 2000000 in
set_option maxRecDepth 100000 in
theorem rwords_any (b off cap : Nat) (f : Nat → UInt8) (w : World) (hcap : 64 ≤ cap) (hc : Bytes w b off 64 f) :
    Calls Tryd.prog 59 #[.slice (some ⟨b, off, none⟩) 64 cap] w fun e w' => ∃ g cp, e = .returned (.slice (some ⟨g, 0, none⟩) 64 cp) ∧ w'.ownsRow w.heap.size 75 1 (.slice (some ⟨g, 0, none⟩) 64 cp) 64 (uv (sch f 48)) ∧ Below w.heap.size w w' := by
  obtain ⟨i0, hi, hz0, hz1, hz2⟩ := info_parts info29
  have hb : b < w.heap.size := World.block_lt_of_cell? w _ (hc 0 (by omega))
  have hcp : (64 : Int) ≤ (cap : Int) := by omega
  have HC : Hid (Bytes w b off 64 f) := hc
  clear hc
  go_enter Tryd.func59, Tryd.ntmps59
  go_wp2
  go_loopw [3, 4] (fun v i wr => ∃ k : Nat, k ≤ 16 ∧ i = .int .i64 k ∧ Hid (wr.ownsRow w.heap.size 75 1 v k (uv ((List.range k).map (w16 f)))) ∧ Hid (Below w.heap.size w wr)) (fun _ i _ => 16 - (intOf i).toNat)
  case atStart => exact ⟨0, Nat.zero_le _, rfl, World.ownsRow_nil _ _ _ _, Below.refl _ _⟩
  case round =>
    obtain ⟨k, hk, rfl, ho, hbel⟩ := hrel
    by_cases hlt : k < 16
    · have g : ∀ j, j < 4 → wr.cell? ⟨b, off + (4 * k + j), none⟩ = some (.int .u8 ((f (4 * k + j)).toNat : Int)) := fun j hj => by
        rw [hbel.out.cell (p := ⟨b, off + (4 * k + j), none⟩) hb]; exact HC.out _ (by omega)
      have g0 := g 0 (by omega)
      have g1 := g 1 (by omega)
      have g2 := g 2 (by omega)
      have g3 := g 3 (by omega)
      simp only [Nat.add_zero] at g0
      clear g
      have l0 : (0 : Int) ≤ 4 * (k : Int) := by omega
      have l1 : 4 * (k : Int) < 64 := by omega
      have l2 : (0 : Int) ≤ 4 * (k : Int) + 1 := by omega
      have l3 : 4 * (k : Int) + 1 < 64 := by omega
      have l4 : (0 : Int) ≤ 4 * (k : Int) + 2 := by omega
      have l5 : 4 * (k : Int) + 2 < 64 := by omega
      have l6 : (0 : Int) ≤ 4 * (k : Int) + 3 := by omega
      have l7 : 4 * (k : Int) + 3 < 64 := by omega
      have x0 : IntKind.i64.wrap (4 * (k : Int)) = 4 * (k : Int) := wrap_small _ (by omega) (by omega)
      have x1 : IntKind.i64.wrap (4 * (k : Int) + 1) = 4 * (k : Int) + 1 := wrap_small _ (by omega) (by omega)
      have x2 : IntKind.i64.wrap (4 * (k : Int) + 2) = 4 * (k : Int) + 2 := wrap_small _ (by omega) (by omega)
      have x3 : IntKind.i64.wrap (4 * (k : Int) + 3) = 4 * (k : Int) + 3 := wrap_small _ (by omega) (by omega)
      have t0 : (4 * (k : Int)).toNat = 4 * k := by omega
      have t1 : (4 * (k : Int) + 1).toNat = 4 * k + 1 := by omega
      have t2 : (4 * (k : Int) + 2).toNat = 4 * k + 2 := by omega
      have t3 : (4 * (k : Int) + 3).toNat = 4 * k + 3 := by omega
      have hsum := w16_sum f k
      have hbase : w.heap.size ≤ ((wr.alloc (.cells (uv [w16 f k]).toArray 75)).drew).heap.size := by have := hbel.out.size; simp; omega
      have hbw : b < wr.heap.size := by have := hbel.out.size; omega
      have hnb : some b ≠ u3.ownBlock := fun e => by have := (ho.out.lt b e.symm).1; omega
      go_wp2_with fail
      go_region_held3 (fun w' => w'.cell? ⟨b, off + 4 * k, none⟩ = some (.int .u8 ((f (4 * k)).toNat : Int)) ∧ w'.cell? ⟨b, off + (4 * k + 1), none⟩ = some (.int .u8 ((f (4 * k + 1)).toNat : Int)) ∧ w'.cell? ⟨b, off + (4 * k + 2), none⟩ = some (.int .u8 ((f (4 * k + 2)).toNat : Int)) ∧ w'.cell? ⟨b, off + (4 * k + 3), none⟩ = some (.int .u8 ((f (4 * k + 3)).toNat : Int))) (first | go_keep | (go_split_ands; refine ⟨?_, ?_, ?_, ?_⟩ <;> (rw [hgrow2.cell_far _ (by simp; omega) hnb]; assumption))) ((refine step_append_lies _ (by rfl) _ _ _ (by rfl) w.heap.size 75 i0 _ 1 4 Tryd.underlying83 hi hz0 hz1 hz2 rfl (by omega) _ k _ (by rfl) (by exact ((ho.out.alloc _).drew)) ⟨wr.heap.size, 0, none⟩ 1 1 (uv [w16 f k]) (by rfl) (by rfl) (World.news_of_block (heap_alloc_new wr _)) (uv_one _) (by omega) (by unfold maxLen; omega) (by omega) hbase (wr.heap.size + 1) (by simp) ?_; intro g cp w2 hown2 hgrow2 hat hlt2))
      all_goals
        have ho3 : Hid (w2.ownsRow w.heap.size 75 1 (.slice (some ⟨g, 0, none⟩) (k + 1) cp) (k + 1) (uv ((List.range (k + 1)).map (w16 f)))) := by rw [List.range_succ, List.map_append, uv_append]; exact hown2
        have hb3 : Hid (Below w.heap.size w w2) := ((hbel.out.alloc hbel.out.size _).drew).grown hgrow2 (by have := hbel.out.size; simp; omega) (fun j hj => (ho.out.lt j hj).1)
        clear hown2 hgrow2 ho hbel hat hsum x0 x1 x2 x3 t0 t1 t2 t3 l0 l1 l2 l3 l4 l5 l6 l7 hnb hbase
        go_wp2
        go_roundw
        case rel => exact ⟨k + 1, by omega, by go_num, ho3, hb3⟩
        case measure => simp [intOf]; omega
    · have hk2 : k = 16 := by omega
      subst hk2
      obtain ⟨g, cp, rfl, _, _⟩ := ho.out.form (by omega)
      go_wp2
      go_loopw [3, 5] (fun v i wr => ∃ k g cp : Nat, 16 ≤ k ∧ k ≤ 64 ∧ i = .int .i64 k ∧ v = .slice (some ⟨g, 0, none⟩) k cp ∧ Hid (wr.ownsRow w.heap.size 75 1 (.slice (some ⟨g, 0, none⟩) k cp) k (uv (sch f (k - 16)))) ∧ Hid (Below w.heap.size w wr)) (fun _ i _ => 64 - (intOf i).toNat)
      case atStart => exact ⟨16, g, cp, by omega, by omega, rfl, rfl, ho, hbel⟩
      case round =>
        clear ho hbel
        obtain ⟨k, g, cp, hk0, hk1, rfl, rfl, ho, hbel⟩ := hrel
        by_cases hlt : k < 64
        · obtain ⟨L, hL⟩ : ∃ L, sch f (k - 16) = L := ⟨_, rfl⟩
          rw [hL] at ho
          have hLl : L.length = k := by rw [← hL, sch_length]; omega
          have hnext : Hid (sch f (k + 1 - 16) = L ++ [ext L k]) := by
            have e1 : k + 1 - 16 = (k - 16) + 1 := by omega
            have e2 : 16 + (k - 16) = k := by omega
            rw [e1]
            show sch f (k - 16) ++ [ext (sch f (k - 16)) (16 + (k - 16))] = _
            rw [hL, e2]
          clear hL
          have c15 := own_cell ho.out (k - 15) (by omega)
          have c2 := own_cell ho.out (k - 2) (by omega)
          obtain ⟨y15, hy15⟩ : ∃ y, L.getD (k - 15) 0 = y := ⟨_, rfl⟩
          obtain ⟨y2, hy2⟩ : ∃ y, L.getD (k - 2) 0 = y := ⟨_, rfl⟩
          obtain ⟨y16, hy16⟩ : ∃ y, L.getD (k - 16) 0 = y := ⟨_, rfl⟩
          obtain ⟨y7, hy7⟩ : ∃ y, L.getD (k - 7) 0 = y := ⟨_, rfl⟩
          have hext : Hid (y16 + y7 + (rotI y15 7 ^^^ rotI y15 18 ^^^ y15 >>> 3) + (rotI y2 17 ^^^ rotI y2 19 ^^^ y2 >>> 10) = ext L k) := by
            unfold ext
            rw [hy15, hy2, hy16, hy7]
            exact ext_sum _ _ _ _
          have H16 : Hid (L.getD (k - 16) 0 = y16) := hy16
          have H7 : Hid (L.getD (k - 7) 0 = y7) := hy7
          rw [hy15] at c15
          rw [hy2] at c2
          clear hy15 hy2 hy16 hy7
          have i15 : (0 : Int) ≤ (k : Int) - 15 := by omega
          have j15 : (k : Int) - 15 < (k : Int) := by omega
          have i2 : (0 : Int) ≤ (k : Int) - 2 := by omega
          have j2 : (k : Int) - 2 < (k : Int) := by omega
          go_wp2_with fail
          refine (turnedS y15 7 (by omega) (by omega) _).mono ?_
          rintro e w1 ⟨rfl, q1, p1⟩
          go_wp2_with fail
          refine (turnedS y15 18 (by omega) (by omega) _).mono ?_
          rintro e w2 ⟨rfl, q2, p2⟩
          go_wp2_with fail
          refine (turnedS y2 17 (by omega) (by omega) _).mono ?_
          rintro e w3 ⟨rfl, q3, p3⟩
          go_wp2_with fail
          refine (turnedS y2 19 (by omega) (by omega) _).mono ?_
          rintro e w4 ⟨rfl, q4, p4⟩
          have hh4 : w4.heap = wr.heap := by rw [q4, q3, q2, q1]
          have ho4 : Hid (w4.ownsRow w.heap.size 75 1 (.slice (some ⟨g, 0, none⟩) k cp) k (uv L)) := ownsRow_heap ho.out hh4
          have hb4 : Hid (Below w.heap.size w w4) := p4 _ _ (p3 _ _ (p2 _ _ (p1 _ _ hbel.out)))
          clear q1 q2 q3 q4 p1 p2 p3 p4 c15 c2 ho hbel hh4
          have c16 := own_cell ho4.out (k - 16) (by omega)
          have c7 := own_cell ho4.out (k - 7) (by omega)
          rw [H16.out] at c16
          rw [H7.out] at c7
          have i16 : (0 : Int) ≤ (k : Int) - 16 := by omega
          have j16 : (k : Int) - 16 < (k : Int) := by omega
          have i7 : (0 : Int) ≤ (k : Int) - 7 := by omega
          have j7 : (k : Int) - 7 < (k : Int) := by omega
          have e16 : IntKind.i64.wrap ((k : Int) - 16) = (k : Int) - 16 := wrap_small _ (by omega) (by omega)
          have e7 : IntKind.i64.wrap ((k : Int) - 7) = (k : Int) - 7 := wrap_small _ (by omega) (by omega)
          have f16 : ((k : Int) - 16).toNat = k - 16 := by omega
          have f7 : ((k : Int) - 7).toNat = k - 7 := by omega
          go_wp2_with fail
          have n16 : (16 : Int) ≤ (k : Int) := by omega
          have n7 : (7 : Int) ≤ (k : Int) := by omega
          have hext' := hext.out
          clear hext
          go_region_law ((refine step_append_lies _ (by rfl) _ _ _ (by rfl) w.heap.size 75 i0 _ 1 4 Tryd.underlying83 hi hz0 hz1 hz2 rfl (by omega) _ k _ (by rfl) (by exact ((ho4.out.alloc _).drew)) ⟨w4.heap.size, 0, none⟩ 1 1 (uv [ext L k]) (by rfl) (by rfl) (World.news_of_block (heap_alloc_new w4 _)) (uv_one _) (by omega) (by unfold maxLen; omega) (by omega) (by have := hb4.out.size; simp; omega) (w4.heap.size + 1) (by simp) ?_; intro g5 cp5 w5 ho5 hg5 hat5 hlt5))
          all_goals
            have ho6 : Hid (w5.ownsRow w.heap.size 75 1 (.slice (some ⟨g5, 0, none⟩) (k + 1) cp5) (k + 1) (uv (sch f (k + 1 - 16)))) := by rw [hnext.out, uv_append]; exact ho5
            have hb6 : Hid (Below w.heap.size w w5) := ((hb4.out.alloc hb4.out.size _).drew).grown hg5 (by have := hb4.out.size; simp; omega) (fun j hj => (ho4.out.lt j hj).1)
            clear ho5 hg5 hat5 hlt5 ho4 hb4 c16 c7 hnext hext'
            go_wp2
            go_roundw
            case rel => first | exact ⟨k + 1, g5, cp5, by omega, by omega, by go_num, rfl, ho6, hb6⟩ | ((repeat apply Exists.intro); exact ⟨⟨k + 1, g5, cp5, by omega, by omega, by go_num, rfl, ho6, hb6⟩, rfl⟩)
            case measure => simp [intOf]; omega
        · have hk2 : k = 64 := by omega
          subst hk2
          go_wp2
          go_ret
          exact ⟨g, cp, rfl, ho.out, hbel.out⟩
end Go.Proofs.YtdgfbbaddoghaaaDoor.Sha
