/- The walks of the document's Has and Build; of the statements on them. -/
import Derived.Test.YtgfbhbmaibcadabB6
import Derived.Test.YtgfbhbmaibcadabBc
namespace Go.Proofs.Ytgfbhbmaibcadab
open Go.RowKit

theorem iv_at (key : List UInt8) (b n i : Nat) (h : i < n) : (iv (placesOf key b n))[i]? = some (.int .i64 (Bl.place key b i : Int)) := by
  unfold iv placesOf
  rw [List.getElem?_map, List.getElem?_map, List.getElem?_range h]
  rfl
theorem iv_cell {w : World} {B n b : Nat} {key : List UInt8} {g cap : Nat} (h : w.ownsRow B 3 1 (.slice (some ⟨g, 0, none⟩) n cap) n (iv (placesOf key b n))) (i : Nat) (hi : i < n) : w.cell? ⟨g, i, none⟩ = some (.int .i64 (Bl.place key b i : Int)) := by
  have := h.cells rfl i _ (iv_at key b n i hi)
  rwa [Addr.add_mid, Nat.zero_add] at this
set_option maxHeartbeats 2000000 in
set_option maxRecDepth 100000 in
theorem rhas_any (ao : Option Addr) (m c : Nat) (f : List UInt8) (ao2 : Option Addr) (m2 c2 : Nat) (key : List UInt8) (w : World) (hm : m ≤ 140737488355328) (hm2 : m2 + 1 ≤ 140737488355328) (hs : Src w ao m c f) (hs2 : Src w ao2 m2 c2 key) :
    Calls Try.prog 19 #[.slice ao m c, .slice ao2 m2 c2] w fun e w' => e = .returned (.bool (Bl.has f key)) ∧ Below w.heap.size w w' := by
  have hfl := hs.len
  have HS := keep hs
  have HS2 := keep hs2
  clear hs hs2
  rcases Nat.eq_zero_or_pos m with h | h
  · subst h
    obtain rfl : f = [] := List.length_eq_zero_iff.1 hfl
    go_enter Try.func19, Try.ntmps19
    go_wp2
    go_ret
    exact ⟨rfl, Below.refl _ _⟩
  · have h1 : ¬ (m : Int) = 0 := by omega
    have h2 : (m : Int) ≤ 140737488355328 := by omega
    have RP := keep (rplaces_any ao2 m2 c2 key (8 * m) w (by omega) (by omega) hm2 HS2.out)
    have e8 : ((8 * m : Nat) : Int) = 8 * (m : Int) := by omega
    rw [e8] at RP
    clear e8
    go_enter Try.func19, Try.ntmps19
    go_wp2_with fail
    refine RP.out.mono ?_
    rintro e w1 ⟨v1, rfl, ho, hb⟩
    have B1 := keep hb
    have O1 := keep ho
    obtain ⟨g1, c1, rfl⟩ : ∃ g1 c1, v1 = .slice (some ⟨g1, 0, none⟩) 6 c1 := by
      rcases ho.2 with ⟨_, h⟩ | ⟨g, cap, cur, h, _⟩
      · omega
      · exact ⟨g, cap, h⟩
    clear hb ho
    go_wp2
    go_loopw [6] (fun i wr => ∃ k : Nat, k ≤ 6 ∧ i = .int .i64 (k : Int) ∧ Hid (Bl.hasN f key k = true) ∧ Hid (Below w1.heap.size w1 wr)) (fun i _ => 6 - (intOf i).toNat)
    case atStart => exact ⟨0, Nat.zero_le _, rfl, rfl, Below.refl _ _⟩
    case round =>
      obtain ⟨k, hk, rfl, hA, hB⟩ := hrel
      by_cases hlt : k < 6
      · have hl1 : (k : Int) < 6 := by omega
        have hcp := belowc hB.out (iv_cell O1.out k hlt)
        have hpl := Bl.place_lt key (bits := 8 * m) (by omega) k
        have hsn : Bl.hasN f key (k + 1) = (Bl.hasN f key k && Bl.bitAt f (Bl.place key (8 * m) k)) := by
          have := Bl.hasN_succ f key k
          rwa [hfl] at this
        rw [hA.out, Bool.true_and] at hsn
        obtain ⟨p, hp⟩ : ∃ p, Bl.place key (8 * m) k = p := ⟨_, rfl⟩
        rw [hp] at hpl hsn hcp
        clear hp
        obtain ⟨Q, hQ⟩ : ∃ Q, p / 8 = Q := ⟨_, rfl⟩
        obtain ⟨R, hR⟩ : ∃ R, p % 8 = R := ⟨_, rfl⟩
        have hQm : Q < m := by omega
        have hR8 : R < 8 := by omega
        have hQi : (p : Int) / 8 = (Q : Int) := by omega
        have hRi : (p : Int) % 8 = (R : Int) := by omega
        obtain ⟨bb, off, rfl, hbw, hby⟩ := HS.out.form h
        have hc : wr.cell? ⟨bb, off + Q, none⟩ = some (.int .u8 ((fn f Q).toNat : Int)) := by
          rw [(B1.out.trans (hB.out.mono B1.out.size)).cell (p := ⟨bb, off + Q, none⟩) hbw]; exact hby Q hQm
        have hx : bits .and .u8 (((fn f Q).toNat : Int) / 2 ^ R) 1 = if Bl.bitB (fn f Q) R = true then 1 else 0 := bit_asked _ _
        have hbit : Hid (Bl.bitAt f p = Bl.bitB (fn f Q) R) := by unfold Bl.bitAt; rw [hQ, hR]; rfl
        rw [hbit.out] at hsn
        have HSN := keep hsn
        clear hby hQ hR hsn hpl hbw
        obtain ⟨y, hy⟩ : ∃ y, fn f Q = y := ⟨_, rfl⟩
        rw [hy] at hc hx HSN
        clear hy hbit
        have hm1 : (Q : Int) < (m : Int) := by omega
        have hp0 : (0 : Int) ≤ (p : Int) := by omega
        cases hbb : Bl.bitB y R with
        | true =>
          rw [hbb] at hx HSN
          rw [if_pos rfl] at hx
          go_wp2
          go_region
          go_wp2
          go_roundw
          case rel => exact ⟨k + 1, by omega, by go_num, HSN, by first | exact hB.out.drew | exact hB⟩
          case measure => simp [intOf]; omega
        | false =>
          rw [hbb] at hx HSN
          rw [if_neg (by decide)] at hx
          go_wp2
          go_region
          go_wp2
          go_ret
          refine ⟨?_, by first | exact (B1.out.trans (hB.out.mono B1.out.size)).drew | exact B1.out.trans (hB.out.mono B1.out.size)⟩
          have h3 : Bl.has f key = false := by
            unfold Bl.has
            have h1 : Bl.hasN f key 6 = false := by
              cases h2 : Bl.hasN f key 6 with
              | false => rfl
              | true =>
                have h3 := Bl.hasN_le (show k + 1 ≤ 6 by omega) h2
                rw [HSN.out] at h3
                cases h3
            rw [h1, hfl, decide_eq_false (by omega)]
            rfl
          rw [h3]
          rfl
      · obtain rfl : k = 6 := by omega
        go_wp2
        go_ret
        refine ⟨?_, B1.out.trans (hB.out.mono B1.out.size)⟩
        unfold Bl.has
        rw [hA.out, Bool.or_true]
        rfl
set_option maxHeartbeats 2000000 in
set_option maxRecDepth 100000 in
theorem rbuild_any (ao : Option Addr) (m c : Nat) (es : List ByteE) (w : World) (hm : m ≤ 8796093022208) (hes : ∀ e ∈ es, e.bytes.length + 1 ≤ 140737488355328) (hs : RSrc byteKind w ao m c es) :
    Calls Try.prog 17 #[.slice ao m c] w fun e w' => ∃ v, e = .returned v ∧ New w w' v (Bl.sizeOf m) (Bl.build (es.map (·.bytes))) := by
  obtain ⟨i0, hi, hz0, hz1, hz2⟩ := info_parts info5
  have hel := hs.len
  have HS := keep hs
  have HE := keep hes
  clear hs hes
  obtain ⟨N, hN⟩ : ∃ N, Bl.sizeOf m = N := ⟨_, rfl⟩
  have hN8 : 8 ≤ N := by rw [← hN]; exact Bl.sizeOf_pos m
  have hNm : N ≤ 140737488355328 := by rw [← hN]; unfold Bl.sizeOf; omega
  have hmx : (if (10 * (m : Int) + 7) / 8 < 8 then 8 else (10 * (m : Int) + 7) / 8) = (N : Int) := by rw [← hN]; unfold Bl.sizeOf; split <;> omega
  have hmy : (if 8 < (10 * (m : Int) + 7) / 8 then (10 * (m : Int) + 7) / 8 else 8) = (N : Int) := by rw [← hN]; unfold Bl.sizeOf; split <;> omega
  have HN := keep hN
  clear hN
  rw [HN.out]
  obtain ⟨ks, hks0⟩ : ∃ ks, es.map (·.bytes) = ks := ⟨_, rfl⟩
  rw [hks0]
  have HKS := keep hks0
  clear hks0
  have hkl : ks.length = m := by rw [← HKS.out, List.length_map, hel]
  have hmI : (m : Int) ≤ 8796093022208 := by omega
  have hmJ : (0 : Int) ≤ (m : Int) := by omega
  go_enter Try.func17, Try.ntmps17
  go_wp2_with (at_make; refine wpList_make_full _ rfl _ _ 28 rfl w.heap.size 5 i0 (.int .u8 0) 1 Try.underlying28 hi hz0 hz1 .i64 .i64 _ _ N rfl rfl rfl rfl (by rw [hz2]; omega) (by unfold maxLen; omega) (Nat.le_refl _) ?_; intro w1 hown hgrow; have b1 := keep ((Below.refl w.heap.size w).grown hgrow (Nat.le_refl _) (fun k h => by cases h)); have o1 := keep hown; clear hown hgrow)
  clear hmx hmy
  have o0 : Hid (w1.ownsRow w.heap.size 5 1 (.slice (some ⟨w.heap.size, 0, none⟩) N N) N (bv (Bl.fill (Bl.zeros N) (ks.take 0)))) := by
    have := o1.out
    rw [show (Value.int .u8 0).cells = #[.int .u8 0] from rfl, toList_madeCells_one, Nat.mul_one] at this
    rw [List.take_zero]
    show World.ownsRow _ _ _ _ _ _ (bv (Bl.zeros N))
    rw [bv_zeros]
    exact this
  clear o1
  have hNI : (N : Int) ≤ 140737488355328 := by omega
  go_loopw [5] (fun i wr => ∃ k : Nat, k ≤ m ∧ i = .int .i64 (k : Int) ∧ Hid (wr.ownsRow w.heap.size 5 1 (.slice (some ⟨w.heap.size, 0, none⟩) N N) N (bv (Bl.fill (Bl.zeros N) (ks.take k)))) ∧ Hid (Below w.heap.size w wr)) (fun i _ => m - (intOf i).toNat)
  case atStart => exact ⟨0, Nat.zero_le _, rfl, o0, b1⟩
  case round =>
    clear o0 b1
    obtain ⟨k, hk, rfl, hO, hB⟩ := hrel
    by_cases hlt : k < m
    · obtain ⟨b, off, rfl, hbw, hby⟩ := HS.out.form byteKind_ok (by omega)
      obtain ⟨e, he⟩ : ∃ e, es[k]? = some e := ⟨es[k], List.getElem?_eq_getElem (by omega)⟩
      have hcell : wr.cell? ⟨b, off + k, none⟩ = some (.slice e.ptr e.bytes.length e.cap) := by
        rw [hB.out.cell (p := ⟨b, off + k, none⟩) hbw]
        have := hby k e he 0 _ rfl
        simpa [byteKind] using this
      have hel2 := HE.out e (List.mem_of_getElem? he)
      have hlt1 : (k : Int) < (m : Int) := by omega
      have HSK : Hid (Src wr e.ptr e.bytes.length e.cap e.bytes) := (HS.out.held e (List.mem_of_getElem? he)).below hB.out
      have hkey : Hid (Bl.fill (Bl.zeros N) (ks.take (k + 1)) = Bl.marks e.bytes (8 * N) (Bl.fill (Bl.zeros N) (ks.take k)) 6) := by
        show _ = _
        have h1 : ks[k]? = some e.bytes := by rw [← HKS.out, List.getElem?_map, he]; rfl
        obtain ⟨h2, h3⟩ := List.getElem?_eq_some_iff.1 h1
        rw [List.take_succ_eq_append_getElem h2, h3, Bl.fill_snoc, Bl.zeros_length]
      have HFL : Hid ((Bl.fill (Bl.zeros N) (ks.take k)).length = N) := by show _ = _; rw [Bl.fill_length, Bl.zeros_length]
      obtain ⟨f, hf⟩ : ∃ f, Bl.fill (Bl.zeros N) (ks.take k) = f := ⟨_, rfl⟩
      rw [hf] at hO hkey HFL
      clear hby he hf
      obtain ⟨ptr, cap, key⟩ := e
      simp only at hcell HSK hkey hel2
      obtain ⟨L, hL⟩ : ∃ L, key.length = L := ⟨_, rfl⟩
      rw [hL] at hcell HSK hel2
      clear hL
      have RP := keep (rplaces_any ptr L cap key (8 * N) wr (by omega) (by omega) hel2 HSK.out)
      have e8 : ((8 * N : Nat) : Int) = 8 * (N : Int) := by omega
      rw [e8] at RP
      clear e8
      go_wp2_with fail
      refine RP.out.mono ?_
      rintro e w2 ⟨v2, rfl, ho, hb⟩
      have B2 := keep hb
      have O2 := keep ho
      obtain ⟨g2, c2, rfl⟩ : ∃ g2 c2, v2 = .slice (some ⟨g2, 0, none⟩) 6 c2 := by
        rcases ho.2 with ⟨_, h⟩ | ⟨g, cap, cur, h, _⟩
        · omega
        · exact ⟨g, cap, h⟩
      have hgw : w.heap.size < wr.heap.size := own_size hO.out rfl
      have hg2 : wr.heap.size ≤ g2 := (ho.lt g2 rfl).1
      have hg2s : g2 < w2.heap.size := own_size ho rfl
      have hOw2 : Hid (w2.ownsRow w.heap.size 5 1 (.slice (some ⟨w.heap.size, 0, none⟩) N N) N (bv f)) := own_block hO.out (fun g hg => hb.block g (own_size hO.out hg))
      clear hb ho
      go_wp2
      obtain ⟨wa, hwa⟩ : ∃ wa, wa = wr := ⟨_, rfl⟩
      subst hwa
      go_loopw [7] (fun i wr => ∃ j : Nat, j ≤ 6 ∧ i = .int .i64 (j : Int) ∧ Hid (wr.ownsRow w.heap.size 5 1 (.slice (some ⟨w.heap.size, 0, none⟩) N N) N (bv (Bl.marks key (8 * N) f j))) ∧ Hid (Kept (fun g => g = w.heap.size) w2 wr)) (fun i _ => 6 - (intOf i).toNat)
      case atStart => exact ⟨0, Nat.zero_le _, rfl, hOw2, Kept.refl _ _⟩
      case round =>
        clear hOw2
        obtain ⟨j, hj, rfl, hO3, hK3⟩ := hrel
        by_cases hj6 : j < 6
        · have hl1 : (j : Int) < 6 := by omega
          have hcp : wr.cell? ⟨g2, j, none⟩ = some (.int .i64 (Bl.place key (8 * N) j : Int)) := by
            rw [hK3.out.cell (p := ⟨g2, j, none⟩) hg2s (by show ¬ g2 = w.heap.size; omega)]
            exact iv_cell O2.out j hj6
          have hpl := Bl.place_lt key (bits := 8 * N) (by omega) j
          have hsn : Bl.marks key (8 * N) f (j + 1) = Bl.mark (Bl.marks key (8 * N) f j) (Bl.place key (8 * N) j) := rfl
          have hfl : (Bl.marks key (8 * N) f j).length = N := by rw [Bl.marks_length, HFL.out]
          obtain ⟨p, hp⟩ : ∃ p, Bl.place key (8 * N) j = p := ⟨_, rfl⟩
          obtain ⟨fp, hfp⟩ : ∃ fp, Bl.marks key (8 * N) f j = fp := ⟨_, rfl⟩
          rw [hp] at hpl hsn hcp
          rw [hfp] at hsn hO3 hfl
          clear hp hfp
          obtain ⟨Q, hQ⟩ : ∃ Q, p / 8 = Q := ⟨_, rfl⟩
          obtain ⟨R, hR⟩ : ∃ R, p % 8 = R := ⟨_, rfl⟩
          have hQm : Q < N := by omega
          have hR8 : R < 8 := by omega
          have hQi : (p : Int) / 8 = (Q : Int) := by omega
          have hRi : (p : Int) % 8 = (R : Int) := by omega
          have hc : wr.cell? ⟨w.heap.size, Q, none⟩ = some (.int .u8 ((fn fp Q).toNat : Int)) := by
            have := hO3.out.cells rfl Q _ (bv_at fp Q (by omega))
            rwa [Addr.add_mid, Nat.zero_add] at this
          have hfz : wr.frozen? ⟨w.heap.size, Q, none⟩ = false := by
            obtain ⟨cur, h1⟩ := own_tag hO3.out rfl
            have h2 : wr.heap[w.heap.size]? = some (.cells cur 5 (0, 0)) := h1
            simp [World.frozen?, h2]
          have hmk : Hid (Bl.mark fp p = fp.set Q (Bl.setB (fn fp Q) R)) := by unfold Bl.mark; rw [hQ, hR]; rfl
          have hx : bits .or .u8 ((fn fp Q).toNat : Int) (2 ^ R) = ((Bl.setB (fn fp Q) R).toNat : Int) := bit_set _ _ hR8
          have hw2 : IntKind.u8.wrap (2 ^ R) = 2 ^ R := by
            have hlt : (2 : Nat) ^ R < 2 ^ 8 := Nat.pow_lt_pow_right (by decide) hR8
            have e : (2 ^ R : Int) = ((2 ^ R : Nat) : Int) := by rw [Int.natCast_pow]; rfl
            rw [e, IntKind.wrap_u8']
            exact Int.emod_eq_of_lt (Int.natCast_nonneg _) (Int.ofNat_lt.2 hlt)
          rw [hmk.out] at hsn
          have HSN := keep hsn
          clear hQ hR hsn hpl hmk
          obtain ⟨y, hy⟩ : ∃ y, fn fp Q = y := ⟨_, rfl⟩
          rw [hy] at hc hx HSN
          clear hy
          obtain ⟨z, hz⟩ : ∃ z, Bl.setB y R = z := ⟨_, rfl⟩
          rw [hz] at hx HSN
          clear hz
          have hm1 : (Q : Int) < (N : Int) := by omega
          go_wp2
          go_region
          go_wp2
          go_roundw
          case rel => exact ⟨j + 1, by omega, by go_num, by rw [HSN.out]; exact own_turn (w := wr.drew) hO3.out hQm z, hK3.out.drew.setCell (p := ⟨w.heap.size, Q, none⟩) (.inl rfl) _⟩
          case measure => simp [intOf]; omega
        · obtain rfl : j = 6 := by omega
          go_wp2
          go_roundw
          case rel => exact ⟨k + 1, by omega, by go_num, by rw [hkey.out]; exact hO3, hB.out.trans ((B2.out.mono (Nat.le_of_lt hgw)).trans (hK3.out.below (by omega) (fun g e => Nat.le_of_eq e.symm)))⟩
          case measure => simp [intOf]; omega
    · obtain rfl : k = m := by omega
      rw [List.take_of_length_le (by omega)] at hO
      go_wp2
      go_ret
      refine ⟨_, rfl, ?_, hB.out⟩
      unfold Bl.build
      rw [hkl, HN.out]
      exact hO.out
set_option maxHeartbeats 2000000 in
set_option maxRecDepth 100000 in
theorem asks_walk (ao : Option Addr) (m c : Nat) (f : List UInt8) (ao2 : Option Addr) (m2 c2 : Nat) (key : List UInt8) (w : World) (hm : m ≤ 140737488351232) (hs : Src w ao m c f) (hm2 : m2 ≤ 140737488351232) (hs2 : Src w ao2 m2 c2 key) :
    Calls Try.prog 5 #[.slice ao m c, .slice ao2 m2 c2] w fun e w' => e = .returned (.bool true) ∧ Below w.heap.size w w' := by
  have HS := keep hs
  have HS2 := keep hs2
  clear hs hs2
  go_enter Try.func5, Try.ntmps5
  go_wp2_with fail
  refine (awake_any w).mono ?_
  rintro e w1 ⟨rfl, hb1⟩
  have B1 := keep hb1
  clear hb1
  go_wp2_with fail
  refine (has_any ao m c f ao2 m2 c2 key w1 (by omega) (by omega) (HS.out.below B1.out) (HS2.out.below B1.out)).mono ?_
  rintro e w2 ⟨rfl, hb2⟩
  have B2 := keep (B1.out.trans (hb2.mono B1.out.size))
  clear hb2
  go_wp2_with fail
  refine (rhas_any ao m c f ao2 m2 c2 key w2 (by omega) (by omega) (HS.out.below B2.out) (HS2.out.below B2.out)).mono ?_
  rintro e w3 ⟨rfl, hb3⟩
  have B3 := keep (B2.out.trans (hb3.mono B2.out.size))
  clear hb3
  cases Bl.has f key
  all_goals
    go_wp2
    go_ret
    exact ⟨rfl, B3.out⟩
set_option maxHeartbeats 2000000 in
set_option maxRecDepth 100000 in
theorem builds_walk (ao : Option Addr) (m c : Nat) (es : List ByteE) (w : World) (hm0 : m ≤ 5864062014634) (hes0 : ∀ e ∈ es, e.bytes.length ≤ 140737488351232) (hs : RSrc byteKind w ao m c es) :
    Calls Try.prog 4 #[.slice ao m c] w fun e w' => e = .returned (.bool true) ∧ Below w.heap.size w w' := by
  have hm : m ≤ 8796093022208 := by omega
  have hes : ∀ e ∈ es, e.bytes.length + 1 ≤ 140737488355328 := fun e he => by have := hes0 e he; omega
  have HS := keep hs
  have HE := keep hes
  clear hs hes hes0 hm0
  go_enter Try.func4, Try.ntmps4
  go_wp2_with fail
  refine (awake_any w).mono ?_
  rintro e w1 ⟨rfl, hb1⟩
  have B1 := keep hb1
  clear hb1
  go_wp2_with fail
  refine (build_any ao m c es w1 hm HE.out (HS.out.below byteKind_ok B1.out)).mono ?_
  rintro e w2 ⟨v2, rfl, hv2⟩
  obtain ⟨a2, c2, rfl, hs2, _⟩ := hv2.src
  have S2 := keep hs2
  have B2 := keep (B1.out.trans (hv2.2.mono B1.out.size))
  clear hv2 hs2
  go_wp2_with fail
  refine (rbuild_any ao m c es w2 hm HE.out (HS.out.below byteKind_ok B2.out)).mono ?_
  rintro e w3 ⟨v3, rfl, hv3⟩
  obtain ⟨a3, c3, rfl, hs3, _⟩ := hv3.src
  have S3 := keep hs3
  have S2' := keep (S2.out.below hv3.2)
  have B3 := keep (B2.out.trans (hv3.2.mono B2.out.size))
  clear hv3 hs3
  go_wp2_with fail
  refine (same_any _ _ _ _ _ _ _ _ w3 S2'.out S3.out).mono ?_
  rintro e w4 ⟨rfl, hb4⟩
  have B4 := keep (B3.out.trans (hb4.mono B3.out.size))
  clear hb4
  rw [decide_eq_true rfl]
  go_wp2
  go_ret
  exact ⟨rfl, B4.out⟩
end Go.Proofs.Ytgfbhbmaibcadab
