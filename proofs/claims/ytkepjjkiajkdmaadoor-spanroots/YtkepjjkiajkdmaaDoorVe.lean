/- The walk of the program's Of. -/
import Derived.Test.YtkepjjkiajkdmaaDoorVd
namespace Go.Proofs.YtkepjjkiajkdmaaDoor
open Go.RowKit

/-- Have all 32 bytes? -/
def w32 (l : List (List UInt8)) : Prop := ∀ e ∈ l, e.length = 32
theorem whole_of {l : List (List UInt8)} (h : w32 l) : wholeL l = true := by
  unfold wholeL
  rw [List.all_eq_true]
  exact fun e he => by simpa using h e he
theorem root_32 {es : List (List UInt8)} (h : w32 es) (hne : 1 ≤ es.length) : (rootL es).length = 32 := by
  match es, h, hne with
  | [a], h, _ => unfold rootL; rw [Mt.root_one]; exact h a (by simp)
  | a :: b :: t, _, _ => unfold rootL; rw [Mt.root_two nodeL nilL (by simp), nodeL_len]
def ndsL (l : List (List UInt8)) : List (List UInt8) := Mt.nds nodeL nilL l
theorem nds_32 : ∀ (n : Nat) (l : List (List UInt8)), l.length = n → w32 l → w32 (ndsL l) := by
  intro n
  induction n using Nat.strongRecOn with
  | _ n ih =>
    intro l hl h
    by_cases h0 : n = 0
    · subst h0
      rw [List.length_eq_zero_iff.1 hl]
      intro e he
      cases he
    · have hp := Mt.hb_pos n
      have hle := Mt.hb_le (n := n) (by omega)
      unfold ndsL
      rw [Mt.nds_more nodeL nilL (by omega), hl]
      intro e he
      rcases List.mem_cons.1 he with rfl | he
      · exact root_32 (fun e he => h e (List.mem_of_mem_take he)) (by rw [List.length_take]; omega)
      · exact ih (n - Mt.hb n) (by omega) (l.drop (Mt.hb n)) (by rw [List.length_drop]; omega) (fun e he => h e (List.mem_of_mem_drop he)) e he
theorem ck_nds {l : List (List UInt8)} (h : w32 l) (hl : l.length ≤ 1099511627776) : ckS (l.length : Int) (ndsL l) = true := by
  unfold ckS
  rw [decide_eq_true (by omega), decide_eq_true (by omega), Int.toNat_natCast, decide_eq_true (show (ndsL l).length = Mt.ones l.length from Mt.nds_len nodeL nilL l.length l rfl), whole_of (nds_32 _ l rfl h)]
  rfl
theorem push_yes {l : List (List UInt8)} {a : List UInt8} (h : w32 l) (ha : a.length = 32) (hl : l.length < 1099511627776) :
    pL (l.length : Int) (ndsL l) a = ndsL (l ++ [a]) ∧ pN (l.length : Int) (ndsL l) a = ((l.length + 1 : Nat) : Int) ∧ pE (l.length : Int) (ndsL l) a = 0 := by
  have hk : pOk (l.length : Int) (ndsL l) a = true := by
    unfold pOk
    rw [ck_nds h (by omega), decide_eq_false (by omega), decide_eq_true ha]
    rfl
  obtain ⟨q1, q2, q3⟩ := p_yes hk
  refine ⟨?_, by rw [q2]; omega, q3⟩
  rw [q1, Int.toNat_natCast]
  exact Mt.push_nds nodeL nilL l a
theorem nds_le (l : List (List UInt8)) : (ndsL l).length ≤ l.length := by
  unfold ndsL
  rw [Mt.nds_len nodeL nilL l.length l rfl]
  exact ones_le' _
/-- What stands at each round of Of. -/
def OfI (w wr : World) (k : Nat) (es : List (List UInt8)) (v : Value) : Prop :=
  wr.heap[w.heap.size + 1]? = some (.cells #[.int .i64 (k : Int), v] 26) ∧ wr.heap[w.heap.size]? = some (.cells #[.int .i64 0, .slice none 0 0] 26) ∧
  wr.ownsRow (w.heap.size + 2) 9 1 v (ndsL (es.take k)).length (rv strKind (ndsL (es.take k))) ∧ Below w.heap.size w wr ∧ w.heap.size + 2 ≤ wr.heap.size
set_option maxHeartbeats 4000000 in
set_option maxRecDepth 100000 in
theorem of16_any (ao : Option Addr) (m c : Nat) (es : List (List UInt8)) (w : World) (hL : Ld w) (hs : RSrc strKind w ao m c es) (h32 : w32 es) (hm : m ≤ 1099511627776) :
    Calls Tryd.prog 24 #[.slice ao m c] w (SpA w (m : Int) (ndsL es) 0) := by
  obtain ⟨W1, hW1⟩ : ∃ Wn, w.alloc (.cells #[.int .i64 0, .slice none 0 0] 26) = Wn := ⟨_, rfl⟩
  have b1 : Hid (Below w.heap.size w W1) := by rw [← hW1]; exact (Below.refl _ _).alloc (Nat.le_refl _) _
  have s1 : W1.heap.size = w.heap.size + 1 := by rw [← hW1, alloc_size]
  have g1 : W1.heap[w.heap.size]? = some (.cells #[.int .i64 0, .slice none 0 0] 26) := by rw [← hW1]; exact heap_alloc_new w _
  obtain ⟨W2, hW2⟩ : ∃ Wn, W1.alloc (.cells #[.int .i64 0, .slice none 0 0] 26) = Wn := ⟨_, rfl⟩
  have b2 : Hid (Below W1.heap.size W1 W2) := by rw [← hW2]; exact (Below.refl _ _).alloc (Nat.le_refl _) _
  have s2 : W2.heap.size = w.heap.size + 2 := by rw [← hW2, alloc_size, s1]
  have H0 : Hid (OfI w W2 0 es (.slice none 0 0)) := by
    refine ⟨by rw [← s1, ← hW2]; exact heap_alloc_new W1 _, (b2.out.block _ (by omega)).trans g1, ⟨rfl, .inl ⟨rfl, rfl⟩⟩, b1.out.trans (b2.out.mono b1.out.size), by omega⟩
  have HLd := keep hL
  have HS := keep hs
  have HSL := keep hs.len
  have H32 := keep h32
  clear hs hL g1 b1 b2 h32
  go_enter Tryd.func24, Tryd.ntmps24
  go_wp2
  clear hW1 hW2 s1 s2
  go_loopw [10] (fun i wr => ∃ k : Nat, k ≤ m ∧ i = .int .i64 (k : Int) ∧ Hid (∃ v, OfI w wr k es v)) (fun i _ => m - (intOf i).toNat)
  case atStart => exact ⟨0, Nat.zero_le _, rfl, _, H0.out⟩
  case round =>
    clear H0
    obtain ⟨k, hk, rfl, hI⟩ := hrel
    obtain ⟨v, hv⟩ := hI.out
    clear hI
    have HI := keep hv
    obtain ⟨av, cv, hvv, hr, _⟩ := RSrc.own strKind_ok hv.2.2.1 (fun _ _ => trivial)
    subst hvv
    have RV := keep hr
    obtain ⟨L, hL⟩ : ∃ L, (ndsL (es.take k)).length = L := ⟨_, rfl⟩
    have hLk : L ≤ k := by
      have h1 := nds_le (es.take k)
      rw [hL, List.length_take] at h1
      omega
    rw [hL] at HI RV
    have HLL := keep hL
    clear hv hr hL
    have c0 : wr.cell? ⟨w.heap.size + 1, 0, none⟩ = some (.int .i64 (k : Int)) := cell_of_row _ _ _ _ _ _ HI.out.1
    have c1 : wr.cell? ⟨w.heap.size + 1, 1, none⟩ = some (.slice av L cv) := cell_of_row _ _ _ _ _ _ HI.out.1
    by_cases hkn : k < m
    · obtain ⟨b, off, rfl, _, hcell⟩ := strs_at HS.out (by omega)
      obtain ⟨s, hsk⟩ : ∃ s, es[k]? = some s := ⟨es[k]'(by rw [HSL.out]; exact hkn), List.getElem?_eq_getElem _⟩
      have ck := below_cell HI.out.2.2.2.1 (hcell k s hsk)
      have k0 : (0 : Int) ≤ (k : Int) := by omega
      have k1 : (k : Int) < (m : Int) := by omega
      have hs32 := H32.out s (List.mem_of_getElem? hsk)
      have hlen : (es.take k).length = k := by rw [List.length_take, HSL.out]; omega
      have PU := keep (push16_any (k : Int) av L cv (ndsL (es.take k)) s wr (HLd.out.below HI.out.2.2.2.1) RV.out (by omega))
      have PY := push_yes (l := es.take k) (a := s) (fun e he => H32.out e (List.mem_of_mem_take he)) hs32 (by omega)
      rw [hlen, ← take_snoc hsk] at PY
      rw [PY.1, PY.2.1, PY.2.2] at PU
      clear hcell hsk hs32 hlen PY
      go_wp2_with fail
      refine PU.out.mono ?_
      rintro e w5 ⟨v5, rfl, ho5, hb5⟩
      obtain ⟨a5, c5, rfl⟩ := own_is ho5
      have O5 := keep ho5
      have B5 := keep hb5
      obtain ⟨L5, hL5⟩ : ∃ L, (ndsL (es.take (k + 1))).length = L := ⟨_, rfl⟩
      have HL5 := keep hL5
      rw [hL5] at O5 ⊢
      clear ho5 hb5 PU c0 c1 ck hL5
      have G5 : Hid (w5.heap[w.heap.size + 1]? = some (.cells #[.int .i64 (k : Int), .slice av L cv] 26) ∧ w5.heap[w.heap.size]? = some (.cells #[.int .i64 0, .slice none 0 0] 26)) := ⟨(B5.out.block _ (by have := HI.out.2.2.2.2; omega)).trans HI.out.1, (B5.out.block _ (by have := HI.out.2.2.2.2; omega)).trans HI.out.2.1⟩
      have z0 : w5.cell? ⟨w.heap.size + 1, 0, none⟩ = some (.int .i64 (k : Int)) := cell_of_row _ _ _ _ _ _ G5.out.1
      have z1 : w5.cell? ⟨w.heap.size + 1, 1, none⟩ = some (.slice av L cv) := cell_of_row _ _ _ _ _ _ G5.out.1
      have f0 : w5.frozen? ⟨w.heap.size + 1, 0, none⟩ = false := by simp [World.frozen?, G5.out.1]
      have f1 : w5.frozen? ⟨w.heap.size + 1, 1, none⟩ = false := by simp [World.frozen?, G5.out.1]
      go_wp2
      go_roundw
      case rel =>
        refine ⟨k + 1, by omega, by first | rfl | go_num, .slice a5 L5 c5, set2 G5.out.1 _ _, ?_, ?_, ?_, ?_⟩
        · rw [set_far _ _ (by omega), set_far _ _ (by omega)]; exact G5.out.2
        · rw [HL5.out]
          exact own_low (own_set (own_set O5.out (by have := HI.out.2.2.2.2; omega) _ _) (by have := HI.out.2.2.2.2; omega) _ _) HI.out.2.2.2.2
        · exact ((HI.out.2.2.2.1.trans (B5.out.mono HI.out.2.2.2.1.size)).setCell (p := ⟨w.heap.size + 1, 0, none⟩) (Nat.le_succ _) _).setCell (p := ⟨w.heap.size + 1, 1, none⟩) (Nat.le_succ _) _
        · have h1 := HI.out.2.2.2.2
          have h2 := B5.out.size
          rw [World.size_setCell, World.size_setCell]
          omega
      case measure => simp [intOf]; omega
    · obtain rfl : k = m := by omega
      have k1 : ¬ (k : Int) < (k : Int) := by omega
      have z0 : wr.cell? ⟨w.heap.size, 0, none⟩ = some (.int .i64 0) := cell_of_row _ _ _ _ _ _ HI.out.2.1
      have z1 : wr.cell? ⟨w.heap.size, 1, none⟩ = some (.slice none 0 0) := cell_of_row _ _ _ _ _ _ HI.out.2.1
      have f0 : wr.frozen? ⟨w.heap.size, 0, none⟩ = false := by simp [World.frozen?, HI.out.2.1]
      have f1 : wr.frozen? ⟨w.heap.size, 1, none⟩ = false := by simp [World.frozen?, HI.out.2.1]
      have HT : Hid (es.take k = es) := List.take_of_length_le (by rw [HSL.out]; omega)
      go_wp2
      have R6 := keep (set2 HI.out.2.1 (.int .i64 (k : Int)) (.slice av L cv))
      refine ⟨rfl, .tuple #[.agg #[.int .i64 (k : Int), .slice av L cv], .int .i64 0], ?_, ?_⟩
      · have r0 : ((wr.setCell ⟨w.heap.size, 0, none⟩ (.int .i64 (k : Int))).setCell ⟨w.heap.size, 1, none⟩ (.slice av L cv)).cell? ⟨w.heap.size, 0, none⟩ = some (.int .i64 (k : Int)) := cell_of_row _ _ _ _ _ _ R6.out
        have r1 : ((wr.setCell ⟨w.heap.size, 0, none⟩ (.int .i64 (k : Int))).setCell ⟨w.heap.size, 1, none⟩ (.slice av L cv)).cell? ⟨w.heap.size, 1, none⟩ = some (.slice av L cv) := cell_of_row _ _ _ _ _ _ R6.out
        simp [results, Tryd.f24, go_sem, loadCells, loadCellsFrom, r0, r1]
      · have hO := HI.out.2.2.1
        have hL2 := HLL.out
        rw [HT.out] at hO hL2
        rw [← hL2] at hO ⊢
        exact ⟨_, rfl, own_low (own_set (own_set hO (by omega) _ _) (by omega) _ _) (by omega), (HI.out.2.2.2.1.setCell (p := ⟨w.heap.size, 0, none⟩) (Nat.le_refl _) _).setCell (p := ⟨w.heap.size, 1, none⟩) (Nat.le_refl _) _⟩
end Go.Proofs.YtkepjjkiajkdmaaDoor
