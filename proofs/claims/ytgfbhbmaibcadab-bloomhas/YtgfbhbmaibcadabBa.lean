/- The walk of the statement that nothing is denied that is there. -/
import Derived.Test.YtgfbhbmaibcadabB6
namespace Go.Proofs.Ytgfbhbmaibcadab
open Go.RowKit

theorem own_empty {w : World} {B t : Nat} (h : B ≤ w.heap.size) : (w.alloc (.cells #[] t)).ownsRow B t 1 (.slice (some ⟨w.heap.size, 0, none⟩) 0 0) 0 [] :=
  ⟨rfl, .inr ⟨_, _, _, rfl, h, heap_alloc_new w _, Nat.le_refl _, Nat.zero_le _, rfl, rfl⟩⟩
theorem fn_ext {a b : List UInt8} (hl : a.length = b.length) (h : ∀ i, i < a.length → fn a i = fn b i) : a = b := by
  apply List.ext_getElem hl
  intro i h1 h2
  have := h i h1
  simpa [fn, List.getD, h1, h2] using this
theorem fn_take (t : List UInt8) (k i : Nat) : fn (t.take k) i = if i < k then fn t i else 0 := by
  unfold fn
  rw [List.getD_eq_getElem?_getD, List.getD_eq_getElem?_getD, List.getElem?_take]
  split <;> rfl
theorem more_step (f t : List UInt8) (k : Nat) (h : k < f.length) : Bl.more f (t.take (k + 1)) = (Bl.more f (t.take k)).set k (fn f k ||| fn t k) := by
  refine fn_ext (by rw [List.length_set, Bl.more_length, Bl.more_length]) (fun i hi => ?_)
  rw [Bl.more_length] at hi
  rw [Bl.fn_set _ _ _ _ (by rw [Bl.more_length]; exact h), Bl.fn_more _ _ _ hi, fn_take]
  by_cases e : k = i
  · subst e
    rw [if_pos rfl, if_pos (by omega)]
  · rw [if_neg e, Bl.fn_more _ _ _ hi, fn_take]
    congr 1
    by_cases h1 : i < k
    · rw [if_pos h1, if_pos (by omega)]
    · rw [if_neg h1, if_neg (by omega)]
theorem more_at (f t : List UInt8) (k : Nat) (h : k < f.length) : fn (Bl.more f (t.take k)) k = fn f k := by
  rw [Bl.fn_more _ _ _ h, fn_take, if_neg (by omega)]
  simp
theorem more_end (f t : List UInt8) (k : Nat) (h : f.length ≤ k ∨ t.length ≤ k) : Bl.more f (t.take k) = Bl.more f t := by
  rcases h with h | h
  · refine fn_ext (by rw [Bl.more_length, Bl.more_length]) (fun i hi => ?_)
    rw [Bl.more_length] at hi
    rw [Bl.fn_more _ _ _ hi, Bl.fn_more _ _ _ hi, fn_take, if_pos (by omega)]
  · rw [List.take_of_length_le h]
theorem or_asked (x y : UInt8) : bits .or .u8 (x.toNat : Int) (y.toNat : Int) = ((x ||| y).toNat : Int) := by
  rw [u8_or_nat _ _ x.toNat_lt y.toNat_lt, UInt8.toNat_or]

set_option maxHeartbeats 2000000 in
set_option maxRecDepth 100000 in
theorem has_walk (ao : Option Addr) (m c : Nat) (es : List ByteE) (ao2 : Option Addr) (m2 c2 : Nat) (t : List UInt8) (w : World) (hm0 : m ≤ 5864062014634) (hes0 : ∀ e ∈ es, e.bytes.length ≤ 140737488351232) (hs : RSrc byteKind w ao m c es) (hm2 : m2 ≤ 140737488351232) (hs2 : Src w ao2 m2 c2 t) :
    Calls Try.prog 6 #[.slice ao m c, .slice ao2 m2 c2] w fun e w' => e = .returned (.bool true) ∧ Below w.heap.size w w' := by
  obtain ⟨i0, hi, hz0, hz1, hz2⟩ := info_parts info5
  have hm : m ≤ 8796093022208 := by omega
  have hes : ∀ e ∈ es, e.bytes.length + 1 ≤ 140737488355328 := fun e he => by have := hes0 e he; omega
  have HS := keep hs
  have HS2 := keep hs2
  have HE := keep hes
  have hel := hs.len
  have htl := hs2.len
  clear hs hes hes0 hm0 hs2
  go_enter Try.func6, Try.ntmps6
  go_wp2_with fail
  refine (awake_any w).mono ?_
  rintro e w1 ⟨rfl, hb1⟩
  have B1 := keep hb1
  clear hb1
  go_wp2_with fail
  refine (build_any ao m c es w1 hm HE.out (HS.out.below byteKind_ok B1.out)).mono ?_
  rintro e w2 ⟨v2, rfl, hv2⟩
  have hkl : (es.map (·.bytes)).length = m := by rw [List.length_map, hel]
  have hN8 := Bl.sizeOf_pos m
  have hN1 : Bl.sizeOf m ≤ 140737488355328 := by unfold Bl.sizeOf; omega
  have hfl := Bl.build_length (es.map (·.bytes))
  rw [hkl] at hfl
  have hhas : Hid (∀ e ∈ es, Bl.has (Bl.build (es.map (·.bytes))) e.bytes = true) := fun e he => Bl.has_build (List.mem_map.2 ⟨e, he, rfl⟩)
  obtain ⟨N, hN⟩ : ∃ N, Bl.sizeOf m = N := ⟨_, rfl⟩
  obtain ⟨f, hf⟩ : ∃ f, Bl.build (es.map (·.bytes)) = f := ⟨_, rfl⟩
  rw [hN, hf] at hv2
  rw [hN] at hN8 hN1 hfl
  rw [hf] at hfl hhas
  clear hN hf
  obtain ⟨a2, c2', rfl, hs3, _⟩ := hv2.src
  have S2 := keep hs3
  have B2 := keep (B1.out.trans (hv2.2.mono B1.out.size))
  clear hv2 hs3
  go_wp2_with (at_builtin; refine wpList_append_src rfl _ _ 28 rfl w2.heap.size i0 _ Try.underlying28 hi hz0 hz1 hz2 rfl _ 0 [] rfl (own_empty (Nat.le_refl _)) _ N c2' f rfl (S2.out.below ((Below.refl _ _).alloc (Nat.le_refl _) _)) (by omega) (by simp) ?_; intro v4 w4 ho4 hg4; have O4 := keep ho4; have B4 := keep (((Below.refl _ w2).alloc (Nat.le_refl _) _).grown hg4 (by simp) (fun j hj => by cases hj; exact Nat.le_refl _)); clear ho4 hg4)
  rw [Nat.zero_add, List.nil_append] at O4
  obtain ⟨g4, c4, rfl⟩ : ∃ g4 c4, v4 = .slice (some ⟨g4, 0, none⟩) N c4 := by
    rcases O4.out.2 with ⟨_, h⟩ | ⟨g, cap, cur, h, _⟩
    · omega
    · exact ⟨g, cap, h⟩
  have hg4 : Hid (w2.heap.size ≤ g4) := (O4.out.lt g4 rfl).1
  go_loopw [8] (fun i wr => ∃ k : Nat, k ≤ N ∧ k ≤ m2 ∧ i = .int .i64 (k : Int) ∧ Hid (wr.ownsRow w2.heap.size 5 1 (.slice (some ⟨g4, 0, none⟩) N c4) N (bv (Bl.more f (t.take k)))) ∧ Hid (Below w2.heap.size w2 wr)) (fun i _ => N - (intOf i).toNat)
  case atStart => exact ⟨0, Nat.zero_le _, Nat.zero_le _, rfl, by rw [List.take_zero, Bl.more_nil]; exact O4, B4⟩
  case round =>
    clear O4 B4
    obtain ⟨k, hk, hk2, rfl, hO, hB⟩ := hrel
    by_cases hlt : k < N
    · by_cases hlt2 : k < m2
      · have hl1 : (k : Int) < (N : Int) := by omega
        have hl2 : (k : Int) < (m2 : Int) := by omega
        obtain ⟨b, off, rfl, hbw, hby⟩ := HS2.out.form (by omega)
        have hc1 : wr.cell? ⟨g4, k, none⟩ = some (.int .u8 ((fn f k).toNat : Int)) := by
          have := hO.out.cells rfl k _ (bv_at (Bl.more f (t.take k)) k (by rw [Bl.more_length]; omega))
          rw [more_at f t k (by omega)] at this
          rwa [Addr.add_mid, Nat.zero_add] at this
        have hc2 : wr.cell? ⟨b, off + k, none⟩ = some (.int .u8 ((fn t k).toNat : Int)) := by
          rw [(B2.out.trans (hB.out.mono B2.out.size)).cell (p := ⟨b, off + k, none⟩) hbw]; exact hby k hlt2
        have hfz : wr.frozen? ⟨g4, k, none⟩ = false := by
          obtain ⟨cur, h1⟩ := own_tag hO.out rfl
          have h2 : wr.heap[g4]? = some (.cells cur 5 (0, 0)) := h1
          simp [World.frozen?, h2]
        have hor := or_asked (fn f k) (fn t k)
        have HST : Hid (Bl.more f (t.take (k + 1)) = (Bl.more f (t.take k)).set k (fn f k ||| fn t k)) := more_step f t k (by omega)
        obtain ⟨x, hx⟩ : ∃ x, fn f k = x := ⟨_, rfl⟩
        obtain ⟨y, hy⟩ : ∃ y, fn t k = y := ⟨_, rfl⟩
        rw [hx] at hc1 hor HST
        rw [hy] at hc2 hor HST
        obtain ⟨z, hz⟩ : ∃ z, x ||| y = z := ⟨_, rfl⟩
        rw [hz] at hor HST
        clear hx hy hz hby
        go_wp2
        go_region
        go_wp2
        go_roundw
        case rel => exact ⟨k + 1, by omega, by omega, by go_num, by rw [HST.out]; exact own_turn (w := wr.drew) hO.out hlt z, hB.out.drew.setCell (p := ⟨g4, k, none⟩) hg4.out _⟩
        case measure => simp [intOf]; omega
      · have hl1 : (k : Int) < (N : Int) := by omega
        have hl2 : ¬ (k : Int) < (m2 : Int) := by omega
        have HSG : Hid (Src wr (some ⟨g4, 0, none⟩) N c4 (Bl.more f t)) := by
          have := Src.owns hO.out
          rw [more_end f t k (by omega)] at this
          exact this
        have HSF : Hid (Src wr a2 N c2' f) := S2.out.below hB.out
        have BW : Hid (Below w.heap.size w wr) := B2.out.trans (hB.out.mono B2.out.size)
        have HH2 : Hid (∀ e ∈ es, Bl.has (Bl.more f t) e.bytes = true) := fun e he => Bl.has_more t (hhas.out e he)
        clear hO hB
        obtain ⟨wa, hwa⟩ : ∃ wa, wa = wr := ⟨_, rfl⟩
        subst hwa
        go_wp2
        go_loopw [9] (fun i wq => ∃ j : Nat, j ≤ m ∧ j ≤ 300 ∧ i = .int .i64 (j : Int) ∧ Hid (Below wa.heap.size wa wq)) (fun i _ => m - (intOf i).toNat)
        case atStart => exact ⟨0, Nat.zero_le _, Nat.zero_le _, rfl, Below.refl _ _⟩
        case round =>
          obtain ⟨j, hj, hj2, rfl, hB2⟩ := hrel
          by_cases hjm : j < m
          · by_cases hj3 : j < 300
            · obtain ⟨kb, koff, rfl, hkw, hky⟩ := HS.out.form byteKind_ok (by omega)
              obtain ⟨e, he⟩ : ∃ e, es[j]? = some e := ⟨es[j], List.getElem?_eq_getElem (by omega)⟩
              have BQ : Hid (Below w.heap.size w wr) := BW.out.trans (hB2.out.mono BW.out.size)
              have hold := hky j e he 0 _ rfl
              simp only [byteKind, Nat.mul_one, Nat.add_zero] at hold
              have hcell : wr.cell? ⟨kb, koff + j, none⟩ = some (.slice e.ptr e.bytes.length e.cap) := belowc BQ.out hold
              have hmem := List.mem_of_getElem? he
              have h1 := keep (hhas.out e hmem)
              have h2 := keep (HH2.out e hmem)
              have hel2 := HE.out e hmem
              have HSK : Hid (∀ w', Below w.heap.size w w' → Src w' e.ptr e.bytes.length e.cap e.bytes) := fun w' hb => (HS.out.held e hmem).below hb
              have hl1 : (j : Int) < (m : Int) := by omega
              have hl2 : (j : Int) < 300 := by omega
              have HOLD := keep hold
              clear hky he hmem hold
              go_wp2_with fail
              refine (has_any a2 N c2' f e.ptr e.bytes.length e.cap e.bytes wr hN1 hel2 (HSF.out.below hB2.out) (HSK.out _ BQ.out)).mono ?_
              rintro e' w5 ⟨rfl, hb5⟩
              rw [h1.out]
              have B5 := keep (hB2.out.trans (hb5.mono hB2.out.size))
              have BQ5 := keep (BQ.out.trans (hb5.mono BQ.out.size))
              clear hb5 hcell
              have hcell : w5.cell? ⟨kb, koff + j, none⟩ = some (.slice e.ptr e.bytes.length e.cap) := belowc BQ5.out HOLD.out
              go_wp2_with fail
              refine (has_any (some ⟨g4, 0, none⟩) N c4 (Bl.more f t) e.ptr e.bytes.length e.cap e.bytes w5 hN1 hel2 (HSG.out.below B5.out) (HSK.out _ BQ5.out)).mono ?_
              rintro e' w6 ⟨rfl, hb6⟩
              rw [h2.out]
              have B6 := keep (B5.out.trans (hb6.mono B5.out.size))
              clear hb6 hcell
              go_wp2
              go_roundw
              case rel => exact ⟨j + 1, by omega, by omega, by go_num, B6⟩
              case measure => simp [intOf]; omega
            · have hl1 : (j : Int) < (m : Int) := by omega
              have hl2 : ¬ (j : Int) < 300 := by omega
              go_wp2
              go_ret
              exact ⟨rfl, BW.out.trans (hB2.out.mono BW.out.size)⟩
          · have hl1 : ¬ (j : Int) < (m : Int) := by omega
            go_wp2
            go_ret
            exact ⟨rfl, BW.out.trans (hB2.out.mono BW.out.size)⟩
    · have hl1 : ¬ (k : Int) < (N : Int) := by omega
      have HSG : Hid (Src wr (some ⟨g4, 0, none⟩) N c4 (Bl.more f t)) := by
        have := Src.owns hO.out
        rw [more_end f t k (by omega)] at this
        exact this
      have HSF : Hid (Src wr a2 N c2' f) := S2.out.below hB.out
      have BW : Hid (Below w.heap.size w wr) := B2.out.trans (hB.out.mono B2.out.size)
      have HH2 : Hid (∀ e ∈ es, Bl.has (Bl.more f t) e.bytes = true) := fun e he => Bl.has_more t (hhas.out e he)
      clear hO hB
      obtain ⟨wa, hwa⟩ : ∃ wa, wa = wr := ⟨_, rfl⟩
      subst hwa
      go_wp2
      go_loopw [9] (fun i wq => ∃ j : Nat, j ≤ m ∧ j ≤ 300 ∧ i = .int .i64 (j : Int) ∧ Hid (Below wa.heap.size wa wq)) (fun i _ => m - (intOf i).toNat)
      case atStart => exact ⟨0, Nat.zero_le _, Nat.zero_le _, rfl, Below.refl _ _⟩
      case round =>
        obtain ⟨j, hj, hj2, rfl, hB2⟩ := hrel
        by_cases hjm : j < m
        · by_cases hj3 : j < 300
          · obtain ⟨kb, koff, rfl, hkw, hky⟩ := HS.out.form byteKind_ok (by omega)
            obtain ⟨e, he⟩ : ∃ e, es[j]? = some e := ⟨es[j], List.getElem?_eq_getElem (by omega)⟩
            have BQ : Hid (Below w.heap.size w wr) := BW.out.trans (hB2.out.mono BW.out.size)
            have hold := hky j e he 0 _ rfl
            simp only [byteKind, Nat.mul_one, Nat.add_zero] at hold
            have hcell : wr.cell? ⟨kb, koff + j, none⟩ = some (.slice e.ptr e.bytes.length e.cap) := belowc BQ.out hold
            have hmem := List.mem_of_getElem? he
            have h1 := keep (hhas.out e hmem)
            have h2 := keep (HH2.out e hmem)
            have hel2 := HE.out e hmem
            have HSK : Hid (∀ w', Below w.heap.size w w' → Src w' e.ptr e.bytes.length e.cap e.bytes) := fun w' hb => (HS.out.held e hmem).below hb
            have hl1 : (j : Int) < (m : Int) := by omega
            have hl2 : (j : Int) < 300 := by omega
            have HOLD := keep hold
            clear hky he hmem hold
            go_wp2_with fail
            refine (has_any a2 N c2' f e.ptr e.bytes.length e.cap e.bytes wr hN1 hel2 (HSF.out.below hB2.out) (HSK.out _ BQ.out)).mono ?_
            rintro e' w5 ⟨rfl, hb5⟩
            rw [h1.out]
            have B5 := keep (hB2.out.trans (hb5.mono hB2.out.size))
            have BQ5 := keep (BQ.out.trans (hb5.mono BQ.out.size))
            clear hb5 hcell
            have hcell : w5.cell? ⟨kb, koff + j, none⟩ = some (.slice e.ptr e.bytes.length e.cap) := belowc BQ5.out HOLD.out
            go_wp2_with fail
            refine (has_any (some ⟨g4, 0, none⟩) N c4 (Bl.more f t) e.ptr e.bytes.length e.cap e.bytes w5 hN1 hel2 (HSG.out.below B5.out) (HSK.out _ BQ5.out)).mono ?_
            rintro e' w6 ⟨rfl, hb6⟩
            rw [h2.out]
            have B6 := keep (B5.out.trans (hb6.mono B5.out.size))
            clear hb6 hcell
            go_wp2
            go_roundw
            case rel => exact ⟨j + 1, by omega, by omega, by go_num, B6⟩
            case measure => simp [intOf]; omega
          · have hl1 : (j : Int) < (m : Int) := by omega
            have hl2 : ¬ (j : Int) < 300 := by omega
            go_wp2
            go_ret
            exact ⟨rfl, BW.out.trans (hB2.out.mono BW.out.size)⟩
        · have hl1 : ¬ (j : Int) < (m : Int) := by omega
          go_wp2
          go_ret
          exact ⟨rfl, BW.out.trans (hB2.out.mono BW.out.size)⟩
end Go.Proofs.Ytgfbhbmaibcadab
