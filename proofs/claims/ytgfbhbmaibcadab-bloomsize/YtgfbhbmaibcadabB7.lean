/- The walk of the statement on a filter's size. -/
import Derived.Test.YtgfbhbmaibcadabB6
namespace Go.Proofs.Ytgfbhbmaibcadab
open Go.RowKit

theorem countB_snoc (y : UInt8) (k : Nat) : ((Bl.countB y (k + 1) : Nat) : Int) = (Bl.countB y k : Int) + bits .and .u8 ((y.toNat : Int) / 2 ^ k) 1 := by
  rw [bit_asked]
  simp only [Bl.countB]
  split <;> rfl
set_option maxHeartbeats 2000000 in
set_option maxRecDepth 100000 in
theorem size_walk (ao : Option Addr) (m c : Nat) (es : List ByteE) (w : World) (hm0 : m ≤ 5864062014634) (hes0 : ∀ e ∈ es, e.bytes.length ≤ 140737488351232) (hs : RSrc byteKind w ao m c es) :
    Calls Try.prog 8 #[.slice ao m c] w fun e w' => e = .returned (.bool true) ∧ Below w.heap.size w w' := by
  have hm : m ≤ 8796093022208 := by omega
  have hes : ∀ e ∈ es, e.bytes.length + 1 ≤ 140737488355328 := fun e he => by have := hes0 e he; omega
  have HS := keep hs
  have HE := keep hes
  have hel := hs.len
  clear hs hes hes0 hm0
  go_enter Try.func8, Try.ntmps8
  go_wp2_with fail
  refine (awake_any w).mono ?_
  rintro e w1 ⟨rfl, hb1⟩
  have B1 := keep hb1
  clear hb1
  go_wp2_with fail
  refine (build_any ao m c es w1 hm HE.out (HS.out.below byteKind_ok B1.out)).mono ?_
  rintro e w2 ⟨v2, rfl, hv2⟩
  have hkl : (es.map (·.bytes)).length = m := by rw [List.length_map, hel]
  have hN8 := Bl.sizeOf_pos m
  have hN1 : Bl.sizeOf m ≤ 140737488355328 := by unfold Bl.sizeOf; omega
  have hN2 : (10 * m : Int) ≤ 8 * (Bl.sizeOf m : Int) := by unfold Bl.sizeOf; omega
  have hN3 : Bl.sizeOf m = 8 ∨ 8 * (Bl.sizeOf m : Int) < 10 * (m : Int) + 8 := by unfold Bl.sizeOf; omega
  have hfl := Bl.build_length (es.map (·.bytes))
  rw [hkl] at hfl
  have hc1 := Bl.count_build_le (es.map (·.bytes))
  rw [hkl] at hc1
  have hc2 : m ≠ 0 → 0 < Bl.count (Bl.build (es.map (·.bytes))) := fun h => Bl.count_build_pos (fun e => by rw [e] at hkl; exact h hkl.symm)
  obtain ⟨N, hN⟩ : ∃ N, Bl.sizeOf m = N := ⟨_, rfl⟩
  obtain ⟨f, hf⟩ : ∃ f, Bl.build (es.map (·.bytes)) = f := ⟨_, rfl⟩
  rw [hN, hf] at hv2
  rw [hN] at hN8 hN1 hN2 hN3 hfl
  rw [hf] at hfl hc1 hc2
  clear hN hf
  obtain ⟨a2, c2, rfl, hs2, _⟩ := hv2.src
  have B2 := keep (B1.out.trans (hv2.2.mono B1.out.size))
  obtain ⟨bb, off, rfl, _, hby⟩ := hs2.form (by omega)
  have HBY := keep hby
  have C1 := keep hc1
  have C2 := keep hc2
  have N2 := keep hN2
  have N3 := keep hN3
  clear hv2 hs2 hby hc1 hc2 hN2 hN3
  go_wp2
  go_loop [5, 6] (fun n i => ∃ k : Nat, k ≤ N ∧ i = .int .i64 (k : Int) ∧ n = .int .i64 (Bl.count (f.take k) : Int)) (fun _ i => N - (intOf i).toNat)
  case atStart => exact ⟨0, Nat.zero_le _, rfl, rfl⟩
  case round =>
    obtain ⟨k, hk, rfl, rfl⟩ := hrel
    by_cases hlt : k < N
    · have hcs : Hid (Bl.count (f.take (k + 1)) = Bl.count (f.take k) + Bl.countB (fn f k) 8) := Bl.count_snoc f k (by omega)
      have hcl := Bl.count_le (f.take k)
      rw [List.length_take] at hcl
      have hcell : w2.cell? ⟨bb, off + k, none⟩ = some (.int .u8 ((fn f k).toNat : Int)) := HBY.out k hlt
      obtain ⟨C, hC⟩ : ∃ C, Bl.count (f.take k) = C := ⟨_, rfl⟩
      rw [hC] at hcs hcl ⊢
      clear hC
      have hC1 : C ≤ 1125899906842624 := by omega
      clear hcl
      obtain ⟨y, hy⟩ : ∃ y, fn f k = y := ⟨_, rfl⟩
      rw [hy] at hcs hcell
      clear hy
      have hlt1 : (k : Int) < (N : Int) := by omega
      go_wp2
      go_loop [5, 7] (fun n j => ∃ q : Nat, q ≤ 8 ∧ j = .int .i64 (q : Int) ∧ n = .int .i64 ((C + Bl.countB y q : Nat) : Int)) (fun _ j => 8 - (intOf j).toNat)
      case atStart => exact ⟨0, Nat.zero_le _, rfl, rfl⟩
      case round =>
        obtain ⟨q, hq, rfl, rfl⟩ := hrel
        by_cases hq8 : q < 8
        · have hsn := countB_snoc y q
          have hq1 : (q : Int) < 8 := by omega
          have hcb := Bl.countB_le y q
          have hcb2 := Bl.countB_le y (q + 1)
          have e1 : ((C + Bl.countB y q : Nat) : Int) = (C : Int) + (Bl.countB y q : Int) := by omega
          have hx := bit_asked y q
          obtain ⟨T, hT⟩ : ∃ T, bits .and .u8 ((y.toNat : Int) / 2 ^ q) 1 = T := ⟨_, rfl⟩
          rw [hT] at hx hsn
          have hT0 : 0 ≤ T ∧ T ≤ 1 := by rw [hx]; split <;> decide
          clear hx
          obtain ⟨hT1, hT2⟩ := hT0
          obtain ⟨Z, hZ⟩ : ∃ Z, C + Bl.countB y q = Z := ⟨_, rfl⟩
          have hZ1 : Z ≤ 1125899906842632 := by omega
          have HF : Hid (((C + Bl.countB y (q + 1) : Nat) : Int) = (Z : Int) + T) := by show _ = _; omega
          rw [hZ]
          clear hsn e1 hZ hcb hcb2
          go_wp2
          go_round
          case rel => exact ⟨q + 1, by omega, by go_num, by rw [HF.out]⟩
          case measure => simp [intOf]; omega
        · obtain rfl : q = 8 := by omega
          go_wp2
          go_round
          case rel => exact ⟨k + 1, by omega, by go_num, by rw [hcs.out]⟩
          case measure => simp [intOf]; omega
    · obtain rfl : k = N := by omega
      rw [List.take_of_length_le (by omega)]
      obtain ⟨C, hC⟩ : ∃ C, Bl.count f = C := ⟨_, rfl⟩
      rw [hC] at C1 C2 ⊢
      clear hC
      have n1 : (8 : Int) ≤ (k : Int) := by omega
      have n2 := N2.out
      have n3 : (C : Int) ≤ 6 * (m : Int) := by have := C1.out; omega
      have n4 : (k : Int) ≤ 140737488355328 := by omega
      have n5 : (m : Int) ≤ 8796093022208 := by omega
      by_cases hm0 : m = 0
      · subst hm0
        obtain rfl : C = 0 := by have := C1.out; omega
        have h8 : k = 8 := by
          have := N3.out
          omega
        subst h8
        go_wp2
        go_ret
        exact ⟨rfl, B2.out⟩
      · have hC0 := C2.out hm0
        have z1 : ((m : Int) == 0) = false := by rw [beq_eq_false_iff_ne]; omega
        have z2 : ((C : Int) == 0) = false := by rw [beq_eq_false_iff_ne]; omega
        have z3 : ¬ (m : Int) = 0 := by omega
        have z4 : ¬ (C : Int) = 0 := by omega
        rcases Nat.lt_or_ge 8 k with h8 | h8
        · have n6 : 8 * (k : Int) < 10 * (m : Int) + 8 := by have := N3.out; omega
          have z5 : ((k : Int) == 8) = false := by rw [beq_eq_false_iff_ne]; omega
          have z6 : ¬ (k : Int) = 8 := by omega
          go_wp2
          go_ret
          exact ⟨rfl, B2.out⟩
        · obtain rfl : k = 8 := by omega
          go_wp2
          go_ret
          exact ⟨rfl, B2.out⟩
end Go.Proofs.Ytgfbhbmaibcadab
