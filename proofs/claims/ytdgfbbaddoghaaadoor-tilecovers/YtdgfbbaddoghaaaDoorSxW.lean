/- The walk of sha.words. -/
import Derived.Test.YtdgfbbaddoghaaaDoorSxR
import Derived.Test.YtdgfbbaddoghaaaDoorSxM
import Derived.BigRegion
import Derived.Deep.OwnRows
import Derived.Deep.RegionHeld3
import Derived.Deep.MidRow
import Derived.Laws.CopyOwn
import Derived.Deep.WholeRow
namespace Go.Proofs.YtdgfbbaddoghaaaDoor.Sha
open Go.RowKit
attribute [local go_sem] U_add U_add' U_xor U_and U_or byte_U byte_W shl24 shl16 shl8 shl24W shl16W shl8W shr3 shr10

theorem rowIs_rep {w : World} {b t n : Nat} {cs : Array Value} {v : Value} (h : w.heap[b]? = some (.cells cs t (0, 0))) (e : cs.toList = List.replicate n v) : w.rowIs b t n (fun _ => v) :=
  ⟨cs, h, by rw [← Array.length_toList, e, List.length_replicate], fun i hi => by
    rw [← Array.getElem?_toList, e, List.getElem?_replicate, if_pos hi]⟩
def rowL (n : Nat) (g : Nat → Value) : Array Value := ((List.range n).map g).toArray
theorem rowL_size (n : Nat) (g : Nat → Value) : (rowL n g).size = n := by simp [rowL]
theorem rowL_at (n : Nat) (g : Nat → Value) (i : Nat) (h : i < n) : (rowL n g)[i]? = some (g i) := by simp [rowL, h]
theorem rowIs_heap {w : World} {b t n : Nat} {g : Nat → Value} (h : w.rowIs b t n g) : w.heap[b]? = some (.cells (rowL n g) t (0, 0)) := by
  obtain ⟨c, hb, hn, hc⟩ := h
  rw [hb]
  congr 2
  apply Array.ext_getElem?
  intro i
  by_cases hi : i < n
  · rw [hc i hi, rowL_at n g i hi]
  · rw [Array.getElem?_eq_none (by omega), Array.getElem?_eq_none (by rw [rowL_size]; omega)]
theorem rowL_one (n : Nat) (g : Nat → Value) (h : ∀ i, (g i).oneCell' = true) : (rowL n g).all (·.oneCell') = true := by
  apply all_oneCell_toArray
  intro v hv
  obtain ⟨i, _, rfl⟩ := List.mem_map.1 hv
  exact h i
theorem size45 : (Tryd.prog.info? 91).map (·.size) = some 64 := by kernel_rfl
def row16 (f : Nat → UInt8) (k j : Nat) : Value := .int .u32 (if j < k then U (w16 f j) else 0)

def rowW (f : Nat → UInt8) (k j : Nat) : Value := .int .u32 (if j < k then U (wd f j) else 0)
theorem rowW_lt (f : Nat → UInt8) (k j : Nat) (h : j < k) : rowW f k j = .int .u32 (U (wd f j)) := by unfold rowW; rw [if_pos h]

set_option maxHeartbeats 1000000 in
set_option maxRecDepth 100000 in
theorem words_any (b off cap : Nat) (f : Nat → UInt8) (w : World) (hcap : 64 ≤ cap) (hc : Hid (∀ i, i < 64 → w.cell? ⟨b, off + i, none⟩ = some (.int .u8 ((f i).toNat : Int)))) :
    Calls Tryd.prog 62 #[.slice (some ⟨b, off, none⟩) 64 cap] w fun e w' => e = .returned (.agg (rowL 64 (rowW f 64))) ∧ Below w.heap.size w w' := by
  have hb : b < w.heap.size := World.block_lt_of_cell? w _ (hc.out 0 (by omega))
  have hcp : (64 : Int) ≤ (cap : Int) := by omega
  go_enter Tryd.func62, Tryd.ntmps62
  go_wp2
  go_loopw [4] (fun i wr => ∃ k : Nat, k ≤ 16 ∧ i = .int .i64 k ∧ Hid (wr.rowIs (w.heap.size + 1) 91 64 (row16 f k)) ∧ Hid (wr.rowIs w.heap.size 91 64 (fun _ => .int .u32 0)) ∧ Hid (Below w.heap.size w wr)) (fun i _ => 16 - (intOf i).toNat)
  case atStart =>
    refine ⟨0, by omega, rfl, ?_, ?_, ((Below.refl _ _).alloc (Nat.le_refl _) _).alloc (by show _ ≤ (w.heap.push _).size; simp) _⟩
    · exact (rowIs_rep (n := 64) (heap_alloc2_new w _ _) (by rfl)).congr (fun i _ => by simp [row16])
    · exact rowIs_rep (n := 64) (heap_alloc2_old w _ _) (by rfl)
  case round =>
    obtain ⟨k, hk, rfl, hr1, hr0, hbel⟩ := hrel
    by_cases hlt : k < 16
    · have hk0 : (0 : Int) ≤ (k : Int) := by omega
      have hk1 : (k : Int) < 16 := by omega
      have g : ∀ j, j < 4 → wr.cell? ⟨b, off + 4 * k + j, none⟩ = some (.int .u8 ((f (4 * k + j)).toNat : Int)) := fun j hj => by
        rw [Nat.add_assoc, hbel.out.cell (p := ⟨b, off + (4 * k + j), none⟩) hb]; exact hc.out _ (by omega)
      have g0 := g 0 (by omega)
      have g1 := g 1 (by omega)
      have g2 := g 2 (by omega)
      have g3 := g 3 (by omega)
      simp only [Nat.add_zero] at g0
      have gw := hr1.out.cell (i := k) (by omega)
      have gf := hr1.out.frozen k
      clear g
      have hk2 : (k : Int) < 64 := by omega
      have hne : b ≠ w.heap.size + 1 := by omega
      have hne' : w.heap.size + 1 ≠ b := by omega
      have h4 : 4 * k + 4 - 4 * k = 4 := by omega
      go_wp2_with fail
      go_region_held3 (fun w' => w'.cell? ⟨b, off + 4 * k, none⟩ = some (.int .u8 ((f (4 * k)).toNat : Int)) ∧ w'.cell? ⟨b, off + 4 * k + 1, none⟩ = some (.int .u8 ((f (4 * k + 1)).toNat : Int)) ∧ w'.cell? ⟨b, off + 4 * k + 2, none⟩ = some (.int .u8 ((f (4 * k + 2)).toNat : Int)) ∧ w'.cell? ⟨b, off + 4 * k + 3, none⟩ = some (.int .u8 ((f (4 * k + 3)).toNat : Int))) (go_keep) (fail)
      all_goals
        change Exit.inBlock _ _ _ _ (World.drew (World.setCell _ _ (.int .u32 (U (w16 f k)))))
        have hr1' : Hid (((wr.setCell ⟨w.heap.size + 1, k, none⟩ (.int .u32 (U (w16 f k)))).drew).rowIs (w.heap.size + 1) 91 64 (row16 f (k + 1))) :=
          ((hr1.out.set k _).drew).congr (fun j _ => by
            unfold row16
            by_cases e : j = k
            · subst e; rw [if_pos rfl, if_pos (by omega)]
            · rw [if_neg e]; congr 1; by_cases e2 : j < k
              · rw [if_pos e2, if_pos (by omega)]
              · rw [if_neg e2, if_neg (by omega)])
        have hr0' : Hid (((wr.setCell ⟨w.heap.size + 1, k, none⟩ (.int .u32 (U (w16 f k)))).drew).rowIs w.heap.size 91 64 (fun _ => .int .u32 0)) := (hr0.out.setOther (by simp) _).drew
        have hbel' : Hid (Below w.heap.size w ((wr.setCell ⟨w.heap.size + 1, k, none⟩ (.int .u32 (U (w16 f k)))).drew)) := (hbel.out.setCell (by simp) _).drew
        clear hr1 hr0 hbel g0 g1 g2 g3 gw gf
        go_wp2
        go_roundw
        case rel => exact ⟨k + 1, by omega, by go_num, hr1', hr0', hbel'⟩
        case measure => simp [intOf]; omega
    · have hk2 : k = 16 := by omega
      subst hk2
      go_wp2
      have hr2 : Hid (wr.rowIs (w.heap.size + 1) 91 64 (rowW f 16)) := hr1.out.congr (fun j _ => by
        unfold row16 rowW
        by_cases e : j < 16
        · rw [if_pos e, if_pos e, wd_16 f j e]
        · rw [if_neg e, if_neg e])
      clear hr1
      go_loopw [6] (fun i ws => ∃ k : Nat, 16 ≤ k ∧ k ≤ 64 ∧ i = .int .i64 k ∧ Hid (ws.rowIs (w.heap.size + 1) 91 64 (rowW f k)) ∧ Hid (ws.rowIs w.heap.size 91 64 (fun _ => .int .u32 0)) ∧ Hid (Below w.heap.size w ws)) (fun i _ => 64 - (intOf i).toNat)
      case atStart => exact ⟨16, by omega, by omega, rfl, hr2, hr0, hbel⟩
      case round =>
        clear hr2 hr0 hbel
        obtain ⟨k, hk0, hk, rfl, hr2, hr0, hbel⟩ := hrel
        by_cases hlt : k < 64
        · have i15 : (0 : Int) ≤ (k : Int) - 15 := by omega
          have j15 : (k : Int) - 15 < 64 := by omega
          have i2 : (0 : Int) ≤ (k : Int) - 2 := by omega
          have j2 : (k : Int) - 2 < 64 := by omega
          have i16 : (0 : Int) ≤ (k : Int) - 16 := by omega
          have j16 : (k : Int) - 16 < 64 := by omega
          have i7 : (0 : Int) ≤ (k : Int) - 7 := by omega
          have j7 : (k : Int) - 7 < 64 := by omega
          have c15 := hr2.out.cell (i := k - 15) (by omega)
          rw [rowW_lt f k _ (by omega)] at c15
          go_wp2_with fail
          go_quiet ((go_at_call 63; exact Calls.quiet_of_same (turnI _ _ (by omega) (by omega) _)))
          clear c15
          obtain ⟨ws, hws⟩ : ∃ ws, ws = wr.drewN nq := ⟨_, rfl⟩
          rw [← hws]
          have hr2' : Hid (ws.rowIs (w.heap.size + 1) 91 64 (rowW f k)) := by rw [hws]; exact hr2.out
          have hr0' : Hid (ws.rowIs w.heap.size 91 64 (fun _ => .int .u32 0)) := by rw [hws]; exact hr0.out
          have hbel' : Hid (Below w.heap.size w ws) := by rw [hws]; exact below_drewN hbel.out nq
          clear hr2 hr0 hbel hws
          have c2 := hr2'.out.cell (i := k - 2) (by omega)
          rw [rowW_lt f k _ (by omega)] at c2
          go_wp2_with fail
          go_quiet ((go_at_call 63; exact Calls.quiet_of_same (turnI _ _ (by omega) (by omega) _)))
          clear c2
          obtain ⟨wt, hwt⟩ : ∃ wt, wt = ws.drewN nq := ⟨_, rfl⟩
          rw [← hwt]
          have hr2 : Hid (wt.rowIs (w.heap.size + 1) 91 64 (rowW f k)) := by rw [hwt]; exact hr2'.out
          have hr0 : Hid (wt.rowIs w.heap.size 91 64 (fun _ => .int .u32 0)) := by rw [hwt]; exact hr0'.out
          have hbel : Hid (Below w.heap.size w wt) := by rw [hwt]; exact below_drewN hbel'.out nq
          clear hr2' hr0' hbel' hwt
          have c16 := hr2.out.cell (i := k - 16) (by omega)
          have c7 := hr2.out.cell (i := k - 7) (by omega)
          rw [rowW_lt f k _ (by omega)] at c16 c7
          have gw := hr2.out.cell (i := k) (by omega)
          have gf := hr2.out.frozen k
          have e16 : IntKind.i64.wrap ((k : Int) - 16) = (k : Int) - 16 := wrap_small _ (by omega) (by omega)
          have e7 : IntKind.i64.wrap ((k : Int) - 7) = (k : Int) - 7 := wrap_small _ (by omega) (by omega)
          have f16 : ((k : Int) - 16).toNat = k - 16 := by omega
          have f7 : ((k : Int) - 7).toNat = k - 7 := by omega
          have hk1 : (0 : Int) ≤ (k : Int) := by omega
          have hk2 : (k : Int) < 64 := by omega
          have n16 : k ≠ k - 16 := by omega
          have n7 : k ≠ k - 7 := by omega
          go_wp2_with fail
          go_region
          have e : wd f (k - 16) + (rotI (wd f (k - 15)) 7 ^^^ rotI (wd f (k - 15)) 18 ^^^ wd f (k - 15) >>> 3) + wd f (k - 7) + (rotI (wd f (k - 2)) 17 ^^^ rotI (wd f (k - 2)) 19 ^^^ wd f (k - 2) >>> 10) = wd f k := (wd_rec f k hk0 hlt).symm
          rw [e]
          have hr1' : Hid (((wt.setCell ⟨w.heap.size + 1, k, none⟩ (.int .u32 (U (wd f k)))).drew).rowIs (w.heap.size + 1) 91 64 (rowW f (k + 1))) :=
            ((hr2.out.set k _).drew).congr (fun j _ => by
              unfold rowW
              by_cases e : j = k
              · subst e; rw [if_pos rfl, if_pos (by omega)]
              · rw [if_neg e]; congr 1; by_cases e2 : j < k
                · rw [if_pos e2, if_pos (by omega)]
                · rw [if_neg e2, if_neg (by omega)])
          have hr0' : Hid (((wt.setCell ⟨w.heap.size + 1, k, none⟩ (.int .u32 (U (wd f k)))).drew).rowIs w.heap.size 91 64 (fun _ => .int .u32 0)) := (hr0.out.setOther (by simp) _).drew
          have hbel' : Hid (Below w.heap.size w ((wt.setCell ⟨w.heap.size + 1, k, none⟩ (.int .u32 (U (wd f k)))).drew)) := (hbel.out.setCell (by simp) _).drew
          clear e hr2 hr0 hbel c16 c7 gw gf e16 e7 f16 f7
          go_wp2
          go_roundw
          case rel => exact ⟨k + 1, by omega, by omega, by go_num, hr1', hr0', hbel'⟩
          case measure => simp [intOf]; omega
        · have hk2 : k = 64 := by omega
          subst hk2
          have hh2 : Hid _ := rowIs_heap hr2.out
          have hh0 : Hid _ := rowIs_heap hr0.out
          go_wp2_with (first
            | (refine wpList_load_row rfl 91 _ rfl (w.heap.size + 1) rfl 91 _ (0, 0) _ hh2.out Tryd.underlying91 rfl (by rw [rowL_size]; exact size45) ?_)
            | (refine wpList_store_row rfl 91 _ _ rfl w.heap.size _ rfl rfl 91 _ hh0.out (by rw [rowL_size]; exact size45) (by rw [rowL_size, rowL_size]) (rowL_one _ _ (fun _ => rfl)) ?_))
          refine bodyPost_ret (v := .agg (rowL 64 (rowW f 64))) ?_ rfl ⟨rfl, below_setRow hbel.out (Nat.le_refl _) _⟩
          exact results_cell_row Tryd.results62 _ _ w.heap.size 91 _ (0, 0) _ rfl (setRow_heap _ _ _ _ _ _ hh0.out) Tryd.underlying91 rfl (by rw [rowL_size]; exact size45)
end Go.Proofs.YtdgfbbaddoghaaaDoor.Sha
