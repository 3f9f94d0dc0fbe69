/- The walks of code.highFirst, code.PutFix, code.PutNum. -/
import Derived.Test.YtohnfogdalnilaaGreatDoorG
import Derived.Deep.OwnRows
namespace Go.Proofs.YtohnfogdalnilaaGreatDoor
open Go.RowKit

/-- Of k bytes of N those from i on. -/
def beRow (k N i : Nat) (x : Nat) : Value := .int .u8 (if i ≤ x then ((UInt8.ofNat (N / 256 ^ (k - 1 - x))).toNat : Int) else 0)
theorem row_of_own {w : World} {base g n : Nat} {xs : List Value} (h : w.ownsRow base 5 1 (.slice (some ⟨g, 0, none⟩) n n) n xs) (f : Nat → Value) (hf : ∀ i, i < n → xs[i]? = some (f i)) : w.rowIs g 5 n f := by
  rcases h.2 with ⟨h0, _⟩ | ⟨g', cap, cur, e, _, hg, hc, _, hs, ht⟩
  · cases h0
  · cases e
    refine ⟨cur, hg, by omega, fun i hi => ?_⟩
    have := hf i hi
    rw [← ht, List.getElem?_take, if_pos (by omega), Array.getElem?_toList] at this
    exact this
theorem own_of_row {w : World} {base g n : Nat} {f : Nat → Value} {xs : List Value} (h : w.rowIs g 5 n f) (hb : base ≤ g) (hn : n ≤ maxLen) (hl : xs.length = n) (hf : ∀ i, i < n → xs[i]? = some (f i)) : w.ownsRow base 5 1 (.slice (some ⟨g, 0, none⟩) n n) n xs := by
  obtain ⟨cur, hg, hs, hc⟩ := h
  refine ⟨by omega, .inr ⟨g, n, cur, rfl, hb, hg, Nat.le_refl _, hn, by omega, ?_⟩⟩
  apply List.ext_getElem?
  intro i
  rcases Nat.lt_or_ge i n with hi | hi
  · rw [List.getElem?_take, if_pos (by omega), Array.getElem?_toList, hc i hi, hf i hi]
  · rw [List.getElem?_eq_none (by simp; omega), List.getElem?_eq_none (by omega)]

set_option maxHeartbeats 1000000 in
set_option maxRecDepth 100000 in
theorem highFirst_any (N k : Nat) (w : World) (hk : k ≤ 8) (hN : N < 18446744073709551616) :
    Calls Tryz.prog 91 #[.int .u64 (N : Int), .int .i64 (k : Int)] w fun e w' => ∃ v, e = .returned v ∧ New w w' v k (be k N) := by
  obtain ⟨i0, hi, hz0, hz1, hz2⟩ := info_parts info5
  go_enter Tryz.func91, Tryz.ntmps91
  go_wp2_with (at_make; go_loud (refine wpList_make_full _ rfl _ _ 25 rfl w.heap.size 5 i0 (.int .u8 0) 1 Tryz.underlying25 hi hz0 hz1 .i64 .i64 _ _ k rfl rfl rfl rfl (by rw [hz2]; omega) (by unfold maxLen; omega) (Nat.le_refl _) ?_); intro w1 hown hgrow; have hb1 := keep ((Below.refl w.heap.size w).grown hgrow (Nat.le_refl _) (fun k h => by cases h)); have ho1 := keep hown; clear hown hgrow)
  have hr1 : Hid (w1.rowIs w.heap.size 5 k (beRow k N k)) := row_of_own ho1.out _ (fun i hi => by
    rw [show (Value.int .u8 0).cells = #[.int .u8 0] from rfl, toList_madeCells_one, List.getElem?_replicate, if_pos (by omega)]
    unfold beRow
    rw [if_neg (by omega)])
  clear ho1
  go_loopw [0, 6] (fun n i wr => ∃ t : Nat, t ≤ k ∧ i = .int .i64 ((t : Int) - 1) ∧ n = .int .u64 ((N / 256 ^ (k - t) : Nat) : Int) ∧ Hid (wr.rowIs w.heap.size 5 k (beRow k N t)) ∧ Hid (Below w.heap.size w wr)) (fun _ i _ => (intOf i + 1).toNat)
  case atStart => exact ⟨k, Nat.le_refl _, rfl, by rw [Nat.sub_self, Nat.pow_zero, Nat.div_one], hr1, hb1⟩
  case round =>
    clear hr1 hb1
    obtain ⟨t, ht, rfl, rfl, hr, hb⟩ := hrel
    rcases Nat.eq_zero_or_pos t with h0 | h0
    · subst h0
      go_wp2
      go_ret
      refine ⟨_, rfl, own_of_row hr.out (Nat.le_refl _) (by unfold maxLen; omega) (by rw [bv_length, be_length]) (fun i hi => ?_), hb.out⟩
      rw [bv_at _ i (by rw [be_length]; exact hi)]
      unfold beRow fn be
      rw [if_pos (Nat.zero_le _), List.getD_eq_getElem?_getD, List.getElem?_map, List.getElem?_range hi]
      rfl
    · obtain ⟨s, rfl⟩ : ∃ s, t = s + 1 := ⟨t - 1, by omega⟩
      have e0 : ((s + 1 : Nat) : Int) - 1 = (s : Int) := by omega
      rw [e0]
      obtain ⟨q, hq⟩ : ∃ q, N / 256 ^ (k - (s + 1)) = q := ⟨_, rfl⟩
      have hq' : Hid (N / 256 ^ (k - s) = q / 256) := by
        rw [← hq, Nat.div_div_eq_div_mul, ← Nat.pow_succ]
        congr 2
        omega
      have hqN : q < 18446744073709551616 := by rw [← hq]; exact Nat.lt_of_le_of_lt (Nat.div_le_self _ _) hN
      obtain ⟨y, hy⟩ : ∃ y : UInt8, UInt8.ofNat q = y := ⟨_, rfl⟩
      have hx : (q : Int) % 256 = (y.toNat : Int) := by rw [← hy, UInt8.toNat_ofNat']; omega
      rw [hq]
      have hc : wr.cell? ⟨w.heap.size, s, none⟩ = some (.int .u8 0) := by rw [hr.out.cell (by omega)]; unfold beRow; rw [if_neg (by omega)]
      have hf := hr.out.frozen s
      have hr' : Hid ((wr.setCell ⟨w.heap.size, s, none⟩ (.int .u8 (y.toNat : Int))).rowIs w.heap.size 5 k (beRow k N s)) := (hr.out.set s _).congr (fun j hj => by
        unfold beRow
        by_cases e : j = s
        · subst e; rw [if_pos rfl, if_pos (Nat.le_refl _)]
          have e1 : k - 1 - j = k - (j + 1) := by omega
          rw [e1, hq, hy]
        · rw [if_neg e]
          by_cases e2 : s ≤ j
          · rw [if_pos e2, if_pos (by omega)]
          · rw [if_neg e2, if_neg (by omega)])
      have hb' : Hid (Below w.heap.size w (wr.setCell ⟨w.heap.size, s, none⟩ (.int .u8 (y.toNat : Int)))) := hb.out.setCell (Nat.le_refl _) _
      clear hq hy
      go_wp2
      go_roundw
      case rel => exact ⟨s, by omega, by first | rfl | go_num, by rw [hq'.out]; first | rfl | (congr 1; omega), hr', hb'⟩
      case measure => simp [intOf]
end Go.Proofs.YtohnfogdalnilaaGreatDoor
