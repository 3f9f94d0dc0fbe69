/- The walk of the statement on the sum of what is added bit by bit. -/
import Derived.Test.YticglckbjdchjabCr
import Derived.Test.YticglckbjdchjabRs
import Derived.Lib.SlBytesConst
namespace Go.Proofs.Yticglckbjdchjab
open Go.RowKit

/-- Three rows of bytes, added bit by bit, so far. -/
def x3 (a b c : List UInt8) (k : Nat) : List UInt8 := (List.range k).map fun i => fn a i ^^^ fn b i ^^^ fn c i
theorem x3_length (a b c : List UInt8) (k : Nat) : (x3 a b c k).length = k := by simp [x3]
theorem x3_succ (a b c : List UInt8) (k : Nat) : x3 a b c (k + 1) = x3 a b c k ++ [fn a k ^^^ fn b k ^^^ fn c k] := by simp [x3, List.range_succ]
theorem xors_get : ∀ (a b : List UInt8) (i : Nat), a.length = b.length → i < a.length → fn (xors a b) i = fn a i ^^^ fn b i
  | [], _, i, _, h => by simp at h
  | _ :: _, [], _, h, _ => by simp at h
  | x :: a, y :: b, 0, _, _ => rfl
  | x :: a, y :: b, i + 1, h, hi => xors_get a b i (by simpa using h) (by simpa using hi)
theorem x3_xors (a b c : List UInt8) (h1 : a.length = b.length) (h2 : a.length = c.length) : x3 a b c a.length = xors (xors a b) c := by
  have hl : (xors (xors a b) c).length = a.length := by rw [xors_length (by rw [xors_length h1]; exact h2), xors_length h1]
  apply List.ext_getElem
  · rw [x3_length, hl]
  · intro i hi hi2
    have e : ∀ (l : List UInt8) (h : i < l.length), l[i] = fn l i := fun l h => by simp [fn, List.getD, h]
    rw [e _ hi2, xors_get _ _ i (by rw [xors_length h1]; exact h2) (by rw [xors_length h1]; omega), xors_get a b i h1 (by omega)]
    simp [x3]

theorem Src.block {w : World} {g n : Nat} {l : List UInt8} {fr : Nat × Nat} (h : w.heap[g]? = some (.cells (bv l).toArray 5 fr)) (hl : l.length = n) : Src w (some ⟨g, 0, none⟩) n n l :=
  ⟨hl, Nat.le_refl _, (fun e => by cases e), fun ad had j u hu => by
    cases had
    rw [Addr.add_mid, Nat.zero_add, cell_of_row _ _ _ _ _ _ h]
    simpa using hu⟩
theorem conv_const (w : World) (C : Array Value) (n c : Nat) : (convert 22 22 (.slice (some ⟨w.heap.size, 0, none⟩) n c)).run Try.prog (w.alloc (.cells C 5)) = .ok (.slice (some ⟨w.heap.size, 0, none⟩) n c) (w.alloc (.cells C 5 (C.size, C.size + 1))) :=
  Lib.run_convert_bytes_const w 22 5 C n c Try.underlying22 Try.underlying5
theorem crc_a : crc [97] = 3904355907 := by decide +kernel
theorem U_a : U 3904355907 = 3904355907 := by unfold U; rfl
attribute [local go_sem] U_xor

set_option maxHeartbeats 2000000 in
set_option maxRecDepth 100000 in
theorem linear_loop (a0 : Option Addr) (m0 c0 : Nat) (la : List UInt8) (a1 : Option Addr) (m1 c1 : Nat) (lb : List UInt8) (a2 : Option Addr) (m2 c2 : Nat) (lc : List UInt8) (w : World) (h01 : m0 = m1) (h02 : m0 = m2) (h5 : m0 ≤ 5000) (s0 : Src w a0 m0 c0 la) (s1 : Src w a1 m1 c1 lb) (s2 : Src w a2 m2 c2 lc) :
    Calls Try.prog 7 #[.slice a0 m0 c0, .slice a1 m1 c1, .slice a2 m2 c2] w fun e w' => e = .returned (.bool true) ∧ Below w.heap.size w w' := by
  obtain ⟨i0, hi, hz0, hz1, hz2⟩ := info_parts info5
  subst h01
  subst h02
  have S0 := keep s0
  have S1 := keep s1
  have S2 := keep s2
  have hl0 := s0.len
  have hl1 := s1.len
  have hl2 := s2.len
  clear s0 s1 s2
  have h5' : ¬ ((5000 : Int) < (m0 : Int)) := by omega
  go_enter Try.func7, Try.ntmps7
  go_wp2
  go_loopw [7, 8] (fun v i wr => ∃ k : Nat, k ≤ m0 ∧ i = .int .i64 (k : Int) ∧ Hid (wr.ownsRow w.heap.size 5 1 v k (bv (x3 la lb lc k))) ∧ Hid (Below w.heap.size w wr)) (fun _ i _ => m0 - (intOf i).toNat)
  case atStart => exact ⟨0, Nat.zero_le _, rfl, World.ownsRow_nil _ _ _ _, Below.refl _ _⟩
  case round =>
    obtain ⟨k, hk, rfl, ho, hb⟩ := hrel
    by_cases hlt : k < m0
    · obtain ⟨b0, off0, rfl, hbw0, hby0⟩ := S0.out.form (by omega)
      obtain ⟨b1, off1, rfl, hbw1, hby1⟩ := S1.out.form (by omega)
      obtain ⟨b2, off2, rfl, hbw2, hby2⟩ := S2.out.form (by omega)
      have g0 : wr.cell? ⟨b0, off0 + k, none⟩ = some (.int .u8 ((fn la k).toNat : Int)) := by
        rw [hb.out.cell (p := ⟨b0, off0 + k, none⟩) hbw0]; exact hby0 k hlt
      have g1 : wr.cell? ⟨b1, off1 + k, none⟩ = some (.int .u8 ((fn lb k).toNat : Int)) := by
        rw [hb.out.cell (p := ⟨b1, off1 + k, none⟩) hbw1]; exact hby1 k hlt
      have g2 : wr.cell? ⟨b2, off2 + k, none⟩ = some (.int .u8 ((fn lc k).toNat : Int)) := by
        rw [hb.out.cell (p := ⟨b2, off2 + k, none⟩) hbw2]; exact hby2 k hlt
      clear hby0 hby1 hby2
      have p0 : (0 : Int) ≤ (k : Int) := by omega
      have p1 : (k : Int) < (m0 : Int) := by omega
      have hnext : Hid (x3 la lb lc (k + 1) = x3 la lb lc k ++ [fn la k ^^^ fn lb k ^^^ fn lc k]) := x3_succ la lb lc k
      obtain ⟨y0, hy0⟩ : ∃ y, fn la k = y := ⟨_, rfl⟩
      obtain ⟨y1, hy1⟩ : ∃ y, fn lb k = y := ⟨_, rfl⟩
      obtain ⟨y2, hy2⟩ : ∃ y, fn lc k = y := ⟨_, rfl⟩
      rw [hy0, hy1, hy2] at hnext
      rw [hy0] at g0
      rw [hy1] at g1
      rw [hy2] at g2
      clear hy0 hy1 hy2
      have hx1 := u8_xor y0 y1
      have hx2 := u8_xor (y0 ^^^ y1) y2
      obtain ⟨z1, hz⟩ : ∃ z, y0 ^^^ y1 = z := ⟨_, rfl⟩
      rw [hz] at hx1 hx2 hnext
      clear hz
      obtain ⟨z2, hz⟩ : ∃ z, z1 ^^^ y2 = z := ⟨_, rfl⟩
      rw [hz] at hx2 hnext
      clear hz
      have hbase : w.heap.size ≤ ((wr.alloc (.cells #[.int .u8 (z2.toNat : Int)] 5)).drew).heap.size := by have := hb.out.size; simp; omega
      have hw0 : b0 < wr.heap.size := by have := hb.out.size; omega
      have hw1 : b1 < wr.heap.size := by have := hb.out.size; omega
      have hw2 : b2 < wr.heap.size := by have := hb.out.size; omega
      have hn0 : some b0 ≠ u7.ownBlock := fun e => by have := (ho.out.lt b0 e.symm).1; omega
      have hn1 : some b1 ≠ u7.ownBlock := fun e => by have := (ho.out.lt b1 e.symm).1; omega
      have hn2 : some b2 ≠ u7.ownBlock := fun e => by have := (ho.out.lt b2 e.symm).1; omega
      go_wp2_with fail
      go_region_law ((refine step_append_lies _ (by rfl) _ _ _ (by rfl) w.heap.size 5 i0 _ 1 1 Try.underlying22 hi hz0 hz1 hz2 rfl (by omega) _ k (bv (x3 la lb lc k)) (by rfl) (by exact ((ho.out.alloc _).drew)) ⟨wr.heap.size, 0, none⟩ 1 1 [.int .u8 (z2.toNat : Int)] (by rfl) (by rfl) (World.news_of_block (cs := #[.int .u8 (z2.toNat : Int)]) (t := 5) (fr := (0, 0)) (heap_alloc_new wr _)) (by simp [Value.oneCell']) (by omega) (by unfold maxLen; omega) (by omega) hbase (wr.heap.size + 1) (by simp) ?_; intro g cap w2 hown2 hgrow2 hat hlt2))
      all_goals
        have hown3 : Hid (w2.ownsRow w.heap.size 5 1 (.slice (some ⟨g, 0, none⟩) (k + 1) cap) (k + 1) (bv (x3 la lb lc (k + 1)))) := by
          rw [hnext.out, bv_append]; exact hown2
        have hb3 : Hid (Below w.heap.size w w2) := ((hb.out.alloc hb.out.size _).drew).grown hgrow2 (by have := hb.out.size; simp; omega) (fun j hj => (ho.out.lt j hj).1)
        clear hown2 hgrow2 ho hb hat g0 g1 g2 hx1 hx2 hbase hn0 hn1 hn2
        go_wp2
        go_roundw
        case rel => first | exact ⟨k + 1, by omega, by go_num, hown3, hb3⟩ | ((repeat apply Exists.intro); exact ⟨⟨k + 1, by omega, by go_num, hown3, hb3⟩, rfl⟩)
        case measure => simp [intOf]; omega
    · obtain rfl : k = m0 := by omega
      have hsum : Hid (crc (x3 la lb lc k) = crc la ^^^ crc lb ^^^ crc lc) := by
        have e : x3 la lb lc k = xors (xors la lb) lc := by rw [← hl0]; exact x3_xors la lb lc (by omega) (by omega)
        rw [e]; exact crc_linear (by omega) (by omega)
      obtain ⟨ax, cx, rfl, hsx, _⟩ := Src.of_own ho.out
      have SX := keep hsx
      clear hsx ho
      have hcv := conv_const
      go_wp2_with fail
      refine (crc_any ax k cx _ wr (by omega) SX.out).mono ?_
      rintro e w1 ⟨rfl, hb1⟩
      rw [hsum.out]
      have b1 := keep (hb.out.trans (hb1.mono hb.out.size))
      clear hb1 hb SX hsum
      go_wp2_with fail
      refine (crc_any a0 k c0 la w1 (by omega) (S0.out.below b1.out)).mono ?_
      rintro e w2 ⟨rfl, hb2⟩
      have b2 := keep (b1.out.trans (hb2.mono b1.out.size))
      clear hb2 b1
      go_wp2_with fail
      refine (crc_any a1 k c1 lb w2 (by omega) (S1.out.below b2.out)).mono ?_
      rintro e w3 ⟨rfl, hb3⟩
      have b3 := keep (b2.out.trans (hb3.mono b2.out.size))
      clear hb3 b2
      go_wp2_with fail
      refine (crc_any a2 k c2 lc w3 (by omega) (S2.out.below b3.out)).mono ?_
      rintro e w4 ⟨rfl, hb4⟩
      have b4 := keep (b3.out.trans (hb4.mono b3.out.size))
      clear hb4 b3
      go_wp2_with fail
      refine (crc_any (some ⟨w4.heap.size, 0, none⟩) 1 1 [97] _ (by omega) (Src.block (heap_alloc_new w4 _) rfl)).mono ?_
      rintro e w5 ⟨rfl, hb5⟩
      rw [crc_a, U_a]
      have b5 := keep ((b4.out.alloc b4.out.size (.cells (bv [97]).toArray 5 (1, 2))).trans (hb5.mono (le_alloc b4.out.size _)))
      clear hb5 b4
      go_wp2
      go_ret
      exact ⟨by simp, b5.out⟩

theorem num_one : num (cl 1) = [1] := by
  have e : cl 1 = 1 := by unfold cl; rfl
  rw [e, num_small (by omega)]
  rfl

set_option maxHeartbeats 1000000 in
set_option maxRecDepth 100000 in
theorem linear_no1 (a0 : Option Addr) (m0 c0 : Nat) (a1 : Option Addr) (m1 c1 : Nat) (a2 : Option Addr) (m2 c2 : Nat) (w : World) (h : m0 ≠ m1) :
    Calls Try.prog 7 #[.slice a0 m0 c0, .slice a1 m1 c1, .slice a2 m2 c2] w fun e w' => e = .returned (.bool true) ∧ Below w.heap.size w w' := by
  have KN := keep (putNum_nil 1 w)
  rw [num_one] at KN
  have h' : ¬ ((m0 : Int) = (m1 : Int)) := by omega
  go_enter Try.func7, Try.ntmps7
  go_wp2_with fail
  go_fit KN.out
  rintro e w1 ⟨x1, y1, rfl, hn1⟩
  obtain ⟨_, _, e1, hs1, _⟩ := hn1.src
  cases e1
  have S1 := keep hs1
  have b1 := keep hn1.2
  clear hs1 hn1 KN
  go_wp2_with fail
  refine (same_any x1 1 y1 [1] none 0 0 [] w1 S1.out (src_nil w1)).mono ?_
  rintro e w2 ⟨rfl, hb2⟩
  have b2 := keep (b1.out.trans (hb2.mono b1.out.size))
  clear hb2 b1 S1
  rw [decide_eq_false (show ¬ ([1] : List UInt8) = [] by simp)]
  go_wp2
  go_ret
  exact ⟨rfl, b2.out⟩

set_option maxHeartbeats 1000000 in
set_option maxRecDepth 100000 in
theorem linear_no2 (a0 : Option Addr) (m0 c0 : Nat) (a1 : Option Addr) (m1 c1 : Nat) (a2 : Option Addr) (m2 c2 : Nat) (w : World) (h : m0 = m1) (h2 : m0 ≠ m2) :
    Calls Try.prog 7 #[.slice a0 m0 c0, .slice a1 m1 c1, .slice a2 m2 c2] w fun e w' => e = .returned (.bool true) ∧ Below w.heap.size w w' := by
  have KN := keep (putNum_nil 1 w)
  rw [num_one] at KN
  subst h
  have h' : ¬ ((m0 : Int) = (m2 : Int)) := by omega
  go_enter Try.func7, Try.ntmps7
  go_wp2_with fail
  go_fit KN.out
  rintro e w1 ⟨x1, y1, rfl, hn1⟩
  obtain ⟨_, _, e1, hs1, _⟩ := hn1.src
  cases e1
  have S1 := keep hs1
  have b1 := keep hn1.2
  clear hs1 hn1 KN
  go_wp2_with fail
  refine (same_any x1 1 y1 [1] none 0 0 [] w1 S1.out (src_nil w1)).mono ?_
  rintro e w2 ⟨rfl, hb2⟩
  have b2 := keep (b1.out.trans (hb2.mono b1.out.size))
  clear hb2 b1 S1
  rw [decide_eq_false (show ¬ ([1] : List UInt8) = [] by simp)]
  go_wp2
  go_ret
  exact ⟨rfl, b2.out⟩

set_option maxHeartbeats 1000000 in
set_option maxRecDepth 100000 in
theorem linear_no3 (a0 : Option Addr) (m0 c0 : Nat) (a1 : Option Addr) (m1 c1 : Nat) (a2 : Option Addr) (m2 c2 : Nat) (w : World) (h : m0 = m1) (h2 : m0 = m2) (h3 : 5000 < m0) :
    Calls Try.prog 7 #[.slice a0 m0 c0, .slice a1 m1 c1, .slice a2 m2 c2] w fun e w' => e = .returned (.bool true) ∧ Below w.heap.size w w' := by
  have KN := keep (putNum_nil 1 w)
  rw [num_one] at KN
  subst h
  subst h2
  have h' : (5000 : Int) < (m0 : Int) := by omega
  go_enter Try.func7, Try.ntmps7
  go_wp2_with fail
  go_fit KN.out
  rintro e w1 ⟨x1, y1, rfl, hn1⟩
  obtain ⟨_, _, e1, hs1, _⟩ := hn1.src
  cases e1
  have S1 := keep hs1
  have b1 := keep hn1.2
  clear hs1 hn1 KN
  go_wp2_with fail
  refine (same_any x1 1 y1 [1] none 0 0 [] w1 S1.out (src_nil w1)).mono ?_
  rintro e w2 ⟨rfl, hb2⟩
  have b2 := keep (b1.out.trans (hb2.mono b1.out.size))
  clear hb2 b1 S1
  rw [decide_eq_false (show ¬ ([1] : List UInt8) = [] by simp)]
  go_wp2
  go_ret
  exact ⟨rfl, b2.out⟩

theorem linear_walk (a0 : Option Addr) (m0 c0 : Nat) (la : List UInt8) (a1 : Option Addr) (m1 c1 : Nat) (lb : List UInt8) (a2 : Option Addr) (m2 c2 : Nat) (lc : List UInt8) (w : World) (_h0 : m0 ≤ 140737488351232) (_h1 : m1 ≤ 140737488351232) (_h2 : m2 ≤ 140737488351232) (s0 : Src w a0 m0 c0 la) (s1 : Src w a1 m1 c1 lb) (s2 : Src w a2 m2 c2 lc) :
    Calls Try.prog 7 #[.slice a0 m0 c0, .slice a1 m1 c1, .slice a2 m2 c2] w fun e w' => e = .returned (.bool true) ∧ Below w.heap.size w w' := by
  by_cases h : m0 = m1
  · by_cases h2 : m0 = m2
    · by_cases h3 : 5000 < m0
      · exact linear_no3 a0 m0 c0 a1 m1 c1 a2 m2 c2 w h h2 h3
      · exact linear_loop a0 m0 c0 la a1 m1 c1 lb a2 m2 c2 lc w h h2 (by omega) s0 s1 s2
    · exact linear_no2 a0 m0 c0 a1 m1 c1 a2 m2 c2 w h h2
  · exact linear_no1 a0 m0 c0 a1 m1 c1 a2 m2 c2 w h
end Go.Proofs.Yticglckbjdchjab
