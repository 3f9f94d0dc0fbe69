/- The walk of the statement that more bits deny less. -/
import Derived.Test.YtgfbhbmaibcadacB6
namespace Go.Proofs.Ytgfbhbmaibcadac
open Go.RowKit

theorem own_empty {w : World} {B t : Nat} (h : B ≤ w.heap.size) : (w.alloc (.cells #[] t)).ownsRow B t 1 (.slice (some ⟨w.heap.size, 0, none⟩) 0 0) 0 [] :=
  ⟨rfl, .inr ⟨_, _, _, rfl, h, heap_alloc_new w _, Nat.le_refl _, Nat.zero_le _, rfl, rfl⟩⟩
theorem fn_ext {a b : List UInt8} (hl : a.length = b.length) (h : ∀ i, i < a.length → fn a i = fn b i) : a = b := by
  apply List.ext_getElem hl
  intro i h1 h2
  have := h i h1
  simpa [fn, List.getD, h1, h2] using this
theorem fn_take (t : List UInt8) (k i : Nat) : fn (t.take k) i = if i < k then fn t i else 0 := by
  unfold fn
  rw [List.getD_eq_getElem?_getD, List.getD_eq_getElem?_getD, List.getElem?_take]
  split <;> rfl
theorem more_step (f t : List UInt8) (k : Nat) (h : k < f.length) : Bl.more f (t.take (k + 1)) = (Bl.more f (t.take k)).set k (fn f k ||| fn t k) := by
  refine fn_ext (by rw [List.length_set, Bl.more_length, Bl.more_length]) (fun i hi => ?_)
  rw [Bl.more_length] at hi
  rw [Bl.fn_set _ _ _ _ (by rw [Bl.more_length]; exact h), Bl.fn_more _ _ _ hi, fn_take]
  by_cases e : k = i
  · subst e
    rw [if_pos rfl, if_pos (by omega)]
  · rw [if_neg e, Bl.fn_more _ _ _ hi, fn_take]
    congr 1
    by_cases h1 : i < k
    · rw [if_pos h1, if_pos (by omega)]
    · rw [if_neg h1, if_neg (by omega)]
theorem more_at (f t : List UInt8) (k : Nat) (h : k < f.length) : fn (Bl.more f (t.take k)) k = fn f k := by
  rw [Bl.fn_more _ _ _ h, fn_take, if_neg (by omega)]
  simp
theorem more_end (f t : List UInt8) (k : Nat) (h : f.length ≤ k ∨ t.length ≤ k) : Bl.more f (t.take k) = Bl.more f t := by
  rcases h with h | h
  · refine fn_ext (by rw [Bl.more_length, Bl.more_length]) (fun i hi => ?_)
    rw [Bl.more_length] at hi
    rw [Bl.fn_more _ _ _ hi, Bl.fn_more _ _ _ hi, fn_take, if_pos (by omega)]
  · rw [List.take_of_length_le h]
theorem or_asked (x y : UInt8) : bits .or .u8 (x.toNat : Int) (y.toNat : Int) = ((x ||| y).toNat : Int) := by
  rw [u8_or_nat _ _ x.toNat_lt y.toNat_lt, UInt8.toNat_or]

set_option maxHeartbeats 2000000 in
set_option maxRecDepth 100000 in
theorem more_walk (ao : Option Addr) (m c : Nat) (f : List UInt8) (ao2 : Option Addr) (m2 c2 : Nat) (t : List UInt8) (ao3 : Option Addr) (m3 c3 : Nat) (key : List UInt8) (w : World) (hm : m ≤ 140737488351232) (hs : Src w ao m c f) (hm2 : m2 ≤ 140737488351232) (hs2 : Src w ao2 m2 c2 t) (hm3 : m3 ≤ 140737488351232) (hs3 : Src w ao3 m3 c3 key) :
    Calls Try.prog 3 #[.slice ao m c, .slice ao2 m2 c2, .slice ao3 m3 c3] w fun e w' => e = .returned (.bool true) ∧ Below w.heap.size w w' := by
  obtain ⟨i0, hi, hz0, hz1, hz2⟩ := info_parts info5
  have HS := keep hs
  have HS2 := keep hs2
  have HS3 := keep hs3
  have hfl := hs.len
  have htl := hs2.len
  clear hs hs2 hs3
  go_enter Try.func3, Try.ntmps3
  go_wp2_with fail
  refine (awake_any w).mono ?_
  rintro e w1 ⟨rfl, hb1⟩
  have B1 := keep hb1
  clear hb1
  go_wp2_with (at_builtin; refine wpList_append_src rfl _ _ 22 rfl w1.heap.size i0 _ Try.underlying22 hi hz0 hz1 hz2 rfl _ 0 [] rfl (own_empty (Nat.le_refl _)) _ m c f rfl (HS.out.below (B1.out.trans (((Below.refl _ _).alloc (Nat.le_refl _) _).mono B1.out.size))) (by omega) (by simp) ?_; intro v4 w4 ho4 hg4; have O4 := keep ho4; have B4 := keep (((Below.refl _ w1).alloc (Nat.le_refl _) _).grown hg4 (by simp) (fun j hj => by cases hj; exact Nat.le_refl _)); clear ho4 hg4)
  rw [Nat.zero_add, List.nil_append] at O4
  obtain ⟨a4, c4, rfl, _, _⟩ := Src.of_own O4.out
  go_loopw [9] (fun i wr => ∃ k : Nat, k ≤ m ∧ k ≤ m2 ∧ i = .int .i64 (k : Int) ∧ Hid (wr.ownsRow w1.heap.size 5 1 (.slice a4 m c4) m (bv (Bl.more f (t.take k)))) ∧ Hid (Below w1.heap.size w1 wr)) (fun i _ => m - (intOf i).toNat)
  case atStart => exact ⟨0, Nat.zero_le _, Nat.zero_le _, rfl, by rw [List.take_zero, Bl.more_nil]; exact O4, B4⟩
  case round =>
    clear O4 B4
    obtain ⟨k, hk, hk2, rfl, hO, hB⟩ := hrel
    by_cases hlt : k < m
    · by_cases hlt2 : k < m2
      · have hl1 : (k : Int) < (m : Int) := by omega
        have hl2 : (k : Int) < (m2 : Int) := by omega
        obtain ⟨g4, rfl⟩ : ∃ g4, a4 = some ⟨g4, 0, none⟩ := by
          rcases hO.out.2 with ⟨_, h⟩ | ⟨g, cap, cur, h, _⟩
          · omega
          · cases h; exact ⟨g, rfl⟩
        have hg4 : Hid (w1.heap.size ≤ g4) := (hO.out.lt g4 rfl).1
        obtain ⟨b, off, rfl, hbw, hby⟩ := HS2.out.form (by omega)
        have hc1 : wr.cell? ⟨g4, k, none⟩ = some (.int .u8 ((fn f k).toNat : Int)) := by
          have := hO.out.cells rfl k _ (bv_at (Bl.more f (t.take k)) k (by rw [Bl.more_length]; omega))
          rw [more_at f t k (by omega)] at this
          rwa [Addr.add_mid, Nat.zero_add] at this
        have hc2 : wr.cell? ⟨b, off + k, none⟩ = some (.int .u8 ((fn t k).toNat : Int)) := by
          rw [(B1.out.trans (hB.out.mono B1.out.size)).cell (p := ⟨b, off + k, none⟩) hbw]; exact hby k hlt2
        have hfz : wr.frozen? ⟨g4, k, none⟩ = false := by
          obtain ⟨cur, h1⟩ := own_tag hO.out rfl
          have h2 : wr.heap[g4]? = some (.cells cur 5 (0, 0)) := h1
          simp [World.frozen?, h2]
        have hor := or_asked (fn f k) (fn t k)
        have HST : Hid (Bl.more f (t.take (k + 1)) = (Bl.more f (t.take k)).set k (fn f k ||| fn t k)) := more_step f t k (by omega)
        obtain ⟨x, hx⟩ : ∃ x, fn f k = x := ⟨_, rfl⟩
        obtain ⟨y, hy⟩ : ∃ y, fn t k = y := ⟨_, rfl⟩
        rw [hx] at hc1 hor HST
        rw [hy] at hc2 hor HST
        obtain ⟨z, hz⟩ : ∃ z, x ||| y = z := ⟨_, rfl⟩
        rw [hz] at hor HST
        clear hx hy hz hby
        go_wp2
        go_region
        go_wp2
        go_roundw
        case rel => exact ⟨k + 1, by omega, by omega, by go_num, by rw [HST.out]; exact own_turn (w := wr.drew) hO.out hlt z, hB.out.drew.setCell (p := ⟨g4, k, none⟩) hg4.out _⟩
        case measure => simp [intOf]; omega
      · have hl1 : (k : Int) < (m : Int) := by omega
        have hl2 : ¬ (k : Int) < (m2 : Int) := by omega
        have HSG : Hid (Src wr a4 m c4 (Bl.more f t)) := by
          obtain ⟨ax, cx, ex, hx, _⟩ := Src.of_own hO.out
          cases ex
          rw [more_end f t k (by omega)] at hx
          exact hx
        have BW : Hid (Below w.heap.size w wr) := B1.out.trans (hB.out.mono B1.out.size)
        have HM : Hid (Bl.has f key = true → Bl.has (Bl.more f t) key = true) := fun h => Bl.has_more t h
        clear hO hB
        go_wp2_with fail
        refine (has_any ao m c f ao3 m3 c3 key wr (by omega) (by omega) (HS.out.below BW.out) (HS3.out.below BW.out)).mono ?_
        rintro e w5 ⟨rfl, hb5⟩
        have B5 := keep (BW.out.trans (hb5.mono BW.out.size))
        have SG5 := keep (HSG.out.below hb5)
        clear hb5
        cases hh : Bl.has f key with
        | false =>
          go_wp2
          go_ret
          exact ⟨rfl, B5.out⟩
        | true =>
          have hq := HM.out hh
          go_wp2_with fail
          refine (has_any a4 m c4 (Bl.more f t) ao3 m3 c3 key w5 (by omega) (by omega) SG5.out (HS3.out.below B5.out)).mono ?_
          rintro e w6 ⟨rfl, hb6⟩
          have B6 := keep (B5.out.trans (hb6.mono B5.out.size))
          clear hb6
          rw [hq]
          go_wp2
          go_ret
          exact ⟨rfl, B6.out⟩
    · have hl1 : ¬ (k : Int) < (m : Int) := by omega
      have HSG : Hid (Src wr a4 m c4 (Bl.more f t)) := by
        obtain ⟨ax, cx, ex, hx, _⟩ := Src.of_own hO.out
        cases ex
        rw [more_end f t k (by omega)] at hx
        exact hx
      have BW : Hid (Below w.heap.size w wr) := B1.out.trans (hB.out.mono B1.out.size)
      have HM : Hid (Bl.has f key = true → Bl.has (Bl.more f t) key = true) := fun h => Bl.has_more t h
      clear hO hB
      go_wp2_with fail
      refine (has_any ao m c f ao3 m3 c3 key wr (by omega) (by omega) (HS.out.below BW.out) (HS3.out.below BW.out)).mono ?_
      rintro e w5 ⟨rfl, hb5⟩
      have B5 := keep (BW.out.trans (hb5.mono BW.out.size))
      have SG5 := keep (HSG.out.below hb5)
      clear hb5
      cases hh : Bl.has f key with
      | false =>
        go_wp2
        go_ret
        exact ⟨rfl, B5.out⟩
      | true =>
        have hq := HM.out hh
        go_wp2_with fail
        refine (has_any a4 m c4 (Bl.more f t) ao3 m3 c3 key w5 (by omega) (by omega) SG5.out (HS3.out.below B5.out)).mono ?_
        rintro e w6 ⟨rfl, hb6⟩
        have B6 := keep (B5.out.trans (hb6.mono B5.out.size))
        clear hb6
        rw [hq]
        go_wp2
        go_ret
        exact ⟨rfl, B6.out⟩
end Go.Proofs.Ytgfbhbmaibcadac
