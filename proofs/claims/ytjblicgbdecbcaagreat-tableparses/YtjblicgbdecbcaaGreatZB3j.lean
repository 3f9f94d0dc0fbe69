/- Grow and Concat: text J8 has them. -/
/- The walks of bloom's bitsOf, bytesFor, places and the iterator that it answers. -/
/- The walk of the iterator over a key's places. -/
import Derived.Test.YtjblicgbdecbcaaGreatZB0
import Derived.Test.YtjblicgbdecbcaaGreatZJ8j
import Derived.Test.YtjblicgbdecbcaaGreatZCrj

namespace Go.Proofs.YtjblicgbdecbcaaGreat
open Go.RowKit Go.Shelf
attribute [local go_sem] Oper.semAt_some

theorem ret_intB {k : IntKind} {a b : Int} (h : a = b) : Ending.returned (.int k a) = .returned (.int k b) := by rw [h]
theorem U_or1 (x : UInt32) : bits .or .u32 (U x) 1 = U (x ||| 1) := by
  have h := u32_or_nat x.toNat 1 x.toNat_lt (by omega)
  unfold U
  rw [UInt32.toNat_or]
  exact h
theorem U_add (x y : UInt32) : IntKind.u32.wrap (U x + U y) = U (x + y) := by
  rw [IntKind.wrap_u32']
  unfold U
  rw [UInt32.toNat_add]
  omega
theorem place_int (k : List UInt8) (b i : Nat) : U (Bl.sumAt k i) % (b : Int) = (Bl.place k b i : Int) := by
  unfold U Bl.place
  rfl
set_option maxHeartbeats 1000000 in
set_option maxRecDepth 100000 in
theorem bitsOf_any (a : Option Addr) (n c : Nat) (w : World) (hn : n ≤ 140737488355328) :
    Calls Tryz.prog 62 #[.slice a n c] w fun e w' => e = .returned (.int .u64 ((8 * n : Nat) : Int)) ∧ w' = w := by
  have h1 : (n : Int) ≤ 140737488355328 := by omega
  have h2 : (0 : Int) ≤ (n : Int) := by omega
  go_enter Tryz.func62, Tryz.ntmps62
  go_wp2
  go_ret
  exact ⟨ret_intB (by omega), rfl⟩
set_option maxHeartbeats 1000000 in
set_option maxRecDepth 100000 in
theorem bytesFor_any (n : Nat) (w : World) (hn : n ≤ 140737488355328) :
    Calls Tryz.prog 60 #[.int .i64 (n : Int)] w fun e w' => e = .returned (.int .i64 (((10 * n + 7) / 8 : Nat) : Int)) ∧ w' = w := by
  have h1 : (n : Int) ≤ 140737488355328 := by omega
  have h2 : (0 : Int) ≤ (n : Int) := by omega
  go_enter Tryz.func60, Tryz.ntmps60
  go_wp2
  go_ret
  exact ⟨ret_intB (by omega), rfl⟩
theorem places_in (F : Fence) (nn : Nat) (h : F.fn 61) (hro : F.round = none) (a : Option Addr) (n c : Nat) (b : Int) (w : World) :
    CallsIn F nn Tryz.prog 61 #[.slice a n c, .int .u64 b] w fun e w' => e = .returned (.func (.func 81) #[] #[.pointer (some ⟨w.heap.size + 1, 0, none⟩), .pointer (some ⟨w.heap.size, 0, none⟩)]) ∧ w' = (w.alloc (.cells #[.slice a n c] 24)).alloc (.cells #[.int .u64 b] 81) := by
  refine callsIn_of_wp Tryz.func61 rfl h ?_ hro
  simp only [Tryz.ntmps61, List.size_toArray, List.length_cons, List.length_nil, Nat.reduceAdd, Nat.reduceSub, Array.replicate_succ, Array.replicate_zero, List.push_toArray, List.append_toArray, List.nil_append, List.cons_append]
  gi_wp2
  go_ret
  exact ⟨rfl, rfl⟩
end Go.Proofs.YtjblicgbdecbcaaGreat
namespace Go.Proofs.YtjblicgbdecbcaaGreat
open Go.RowKit Go.Shelf
attribute [local go_sem] Oper.semAt_some U_or1 U_add

/-- What the iterator wants kept: the box of the number of bits. -/
def KpB (Bb : Nat) (W W' : World) : Prop := ∀ v, W.cell? ⟨Bb, 0, none⟩ = some v → W'.cell? ⟨Bb, 0, none⟩ = some v
theorem KpB.t {Bb : Nat} {A B C : World} (h : KpB Bb A B) (k : KpB Bb B C) : KpB Bb A C := fun v hv => k v (h v hv)
theorem KpB.b {Bb : Nat} {w : World} (W : World) (l : Nat) (o o' : Obj) (_ : w.heap.size ≤ l) (h : W.heap[l]? = some o) (ho : o.isCells = false) (_ : o.isWalk = false) : KpB Bb W (W.putObj l o') := fun v hv =>
  cell_kept hv (grownBy_putObj' W l o') (fun r e => by cases e; exact ⟨o, h, ho⟩)

set_option maxHeartbeats 2000000 in
set_option maxRecDepth 100000 in
theorem places1_none (nn : Nat) (l Bb Bk : Nat) (J Jx : List Nat → World → Prop) (W : World) (hBb : W.cell? ⟨Bb, 0, none⟩ = some (.int .u64 0)) (h0 : J [] W) :
    CallsIn Fence.wide nn Tryz.prog 81 #[.func (.yield l) #[] #[], .pointer (some ⟨Bb, 0, none⟩), .pointer (some ⟨Bk, 0, none⟩)] W fun e W' => (∃ v, e = .returned v) ∧
      ((∃ ys, ys = [] ∧ J ys W') ∨ (∃ pre : List Nat, pre = [] ∧ Jx pre W')) := by
  refine callsIn_of_wp Tryz.func81 rfl trivial ?_ rfl
  simp only [Tryz.ntmps81, List.size_toArray, List.length_cons, List.length_nil, Nat.reduceAdd, Nat.reduceSub, Array.replicate_succ, Array.replicate_zero, List.push_toArray, List.append_toArray, List.nil_append, List.cons_append]
  gi_wp2
  refine bodyPost_ret (results_none rfl _ _ _) rfl ?_
  exact ⟨⟨_, rfl⟩, .inl ⟨_, rfl, h0⟩⟩

set_option maxHeartbeats 2000000 in
set_option maxRecDepth 100000 in
theorem places1_in (nn : Nat) (hn : 1 ≤ nn) (l Bb Bk b : Nat) (hb0 : 0 < b) (hb1 : b ≤ 1125899906842624) (ao : Option Addr) (m c : Nat) (key : List UInt8) (hm : m + 1 ≤ 140737488355328) (J Jx : List Nat → World → Prop) (W : World)
    (hJ : AbidesFrom W.heap.size J)
    (hY : ∀ pre x W1, J pre W1 → pre.length < 6 → YieldAt Fence.wide (nn - 1) Tryz.prog l #[.int .u64 (Bl.place key b x : Int)] W1 fun e W' =>
      (e = .returned (.bool true) ∧ J (pre ++ [x]) W' ∧ KpB Bb W1 W') ∨ (e = .returned (.bool false) ∧ Jx (pre ++ [x]) W'))
    (hBb : W.cell? ⟨Bb, 0, none⟩ = some (.int .u64 (b : Int))) (hBk : W.cell? ⟨Bk, 0, none⟩ = some (.slice ao m c)) (hs : Src W ao m c key) (h0 : J [] W) :
    CallsIn Fence.wide nn Tryz.prog 81 #[.func (.yield l) #[] #[], .pointer (some ⟨Bb, 0, none⟩), .pointer (some ⟨Bk, 0, none⟩)] W fun e W' => (∃ v, e = .returned v) ∧
      ((∃ ys, ys = List.range 6 ∧ J ys W') ∨ (∃ pre, (∃ k, k ≤ 6 ∧ pre = List.range k) ∧ Jx pre W')) := by
  have hbI : ¬ (b : Int) = 0 := by omega
  have hbP : (0 : Int) < (b : Int) := by omega
  have hbU : (b : Int) ≤ 1125899906842624 := by omega
  have HS := keep hs
  have HJ := keep hJ
  have HY := keep hY
  have H0 := keep h0
  clear hs hJ hY h0
  refine callsIn_of_wp Tryz.func81 rfl trivial ?_ rfl
  simp only [Tryz.ntmps81, List.size_toArray, List.length_cons, List.length_nil, Nat.reduceAdd, Nat.reduceSub, Array.replicate_succ, Array.replicate_zero, List.push_toArray, List.append_toArray, List.nil_append, List.cons_append]
  gi_wp2_with fail
  refine ⟨trivial, ?_⟩
  refine (callsIn_wide.2 (crc_any ao m c key W (by omega) HS.out)).mono ?_
  rintro e w1 ⟨rfl, hb⟩
  have B1 := keep hb
  clear hb
  have k1 : w1.cell? ⟨Bk, 0, none⟩ = some (.slice ao m c) := belowc B1.out hBk
  obtain ⟨W2, hW2⟩ : ∃ W2, (w1.alloc (.cells #[.int .u8 1] 5)).alloc (.cells #[.slice ao m c, .slice (some ⟨w1.heap.size, 0, none⟩) 1 1] 24) = W2 := ⟨_, rfl⟩
  have B2 : Hid (Below w1.heap.size w1 W2) := by rw [← hW2]; exact ((Below.refl _ _).alloc (Nat.le_refl _) _).alloc (by simp) _
  have g2 : Hid (W2.heap[w1.heap.size + 1]? = some (.cells #[.slice ao m c, .slice (some ⟨w1.heap.size, 0, none⟩) 1 1] 24)) := by
    have := heap_alloc_new (w1.alloc (.cells #[.int .u8 1] 5)) (.cells #[.slice ao m c, .slice (some ⟨w1.heap.size, 0, none⟩) 1 1] 24)
    rw [World.size_alloc] at this
    rw [← hW2]; exact this
  have g1 : Hid (Src W2 (some ⟨w1.heap.size, 0, none⟩) 1 1 [1]) := by
    rw [← hW2]
    exact (Src.built w1 1).below ((Below.refl _ _).alloc (Nat.le_refl _) _)
  have CC := keep (concat_two (w1.heap.size + 1) ao m c key (some ⟨w1.heap.size, 0, none⟩) 1 1 [1] W2 (by omega) (by rw [cell_of_row _ _ _ _ _ _ g2.out]; rfl) (by rw [cell_of_row _ _ _ _ _ _ g2.out]; rfl) (HS.out.below (B1.out.trans (B2.out.mono B1.out.size))) g1.out)
  gi_wp2_with fail
  refine ⟨trivial, ?_⟩
  refine (callsIn_wide.2 CC.out).mono ?_
  rintro e w3 ⟨v3, rfl, hv3⟩
  obtain ⟨a3, c3, rfl, hs3, _⟩ := hv3.src
  have S3 := keep hs3
  have B3 := keep (B1.out.trans ((B2.out.trans (hv3.2.mono B2.out.size)).mono B1.out.size))
  clear hv3 hs3 CC k1 hW2
  gi_wp2_with fail
  refine ⟨trivial, ?_⟩
  refine (callsIn_wide.2 (crc_any a3 (m + 1) c3 (key ++ [1]) w3 hm S3.out)).mono ?_
  rintro e w4 ⟨rfl, hb⟩
  have B4 := keep (B3.out.trans (hb.mono B3.out.size))
  clear hb S3
  have b4 : w4.cell? ⟨Bb, 0, none⟩ = some (.int .u64 (b : Int)) := belowc B4.out hBb
  have J4 := keep (HJ.out [] W w4 none H0.out (grown_of_below B4.out) (fun r e => by cases e))
  gi_wp2
  gi_loopw [4, 16] (fun x i wr => ∃ k : Nat, k ≤ 6 ∧ i = .int .i64 (k : Int) ∧ x = .int .u32 (U (Bl.sumAt key k)) ∧ wr.cell? ⟨Bb, 0, none⟩ = some (.int .u64 (b : Int)) ∧ Hid (J (List.range k) wr)) (fun _ i _ => 6 - (intOf i).toNat)
  case atStart => exact ⟨0, by omega, rfl, by rw [Bl.sumAt_zero], b4, J4.out⟩
  case round =>
    clear b4 J4
    obtain ⟨k, hk, rfl, rfl, hcb, hJk⟩ := hrel
    by_cases hlt : k < 6
    · obtain ⟨fn, tmps, assign, body, hy, hR⟩ := HY.out _ k wr hJk.out (by rw [List.length_range]; exact hlt)
      have hlt1 : (k : Int) < 6 := by omega
      have hsu : Hid (Bl.sumAt key (k + 1) = Bl.sumAt key k + Bl.odd key) := Bl.sumAt_succ key k
      rw [← place_int] at hy
      have hul := U_lo (Bl.sumAt key k)
      have huh := U_hi (Bl.sumAt key k)
      obtain ⟨X, hX⟩ : ∃ X, Bl.sumAt key k = X := ⟨_, rfl⟩
      rw [hX] at hy hsu hul huh ⊢
      clear hX
      gi_wp2
      refine hR.mono ?_
      rintro e W3 (⟨rfl, hJ3, hk3⟩ | ⟨rfl, hJx3⟩)
      · have hJ4 : Hid (J (List.range (k + 1)) W3) := by show J _ _; rw [List.range_succ]; exact hJ3
        have hc3 := hk3 _ hcb
        clear hJ3 hJk hk3 hcb
        gi_wp2
        go_roundw
        case rel => exact ⟨k + 1, by omega, by go_num, by rw [hsu.out]; rfl, hc3, hJ4⟩
        case measure => simp [intOf]; omega
      · gi_wp2
        refine bodyPost_ret (results_none rfl _ _ _) rfl ?_
        exact ⟨⟨_, rfl⟩, .inr ⟨_, ⟨k + 1, hlt, List.range_succ.symm⟩, hJx3⟩⟩
    · obtain rfl : k = 6 := by omega
      gi_wp2
      go_end0
      exact ⟨⟨_, rfl⟩, .inl ⟨_, rfl, hJk.out⟩⟩
theorem places_stops (nn : Nat) (hn : 1 ≤ nn) (Bb Bk b : Nat) (hb0 : 0 < b) (hb1 : b ≤ 1125899906842624) (ao : Option Addr) (m c : Nat) (key : List UInt8) (hm : m + 1 ≤ 140737488355328) (w : World)
    (hBb : w.cell? ⟨Bb, 0, none⟩ = some (.int .u64 (b : Int))) (hBk : w.cell? ⟨Bk, 0, none⟩ = some (.slice ao m c)) (hs : Src w ao m c key) :
    SeqStopsK Fence.wide nn Tryz.prog 81 #[.pointer (some ⟨Bb, 0, none⟩), .pointer (some ⟨Bk, 0, none⟩)] (fun i : Nat => #[.int .u64 (Bl.place key b i : Int)]) (KpB Bb) (fun ys => ys = List.range 6) (fun pre => ∃ k, k ≤ 6 ∧ pre = List.range k) 6 w :=
  fun l J Jx W hW hJ _ hY h0 => places1_in nn hn l Bb Bk b hb0 hb1 ao m c key hm J Jx W hJ hY (belowc hW hBb) (belowc hW hBk) (hs.below hW) h0
theorem places_stops0 (nn : Nat) (Bb Bk : Nat) (key : List UInt8) (w : World) (hBb : w.cell? ⟨Bb, 0, none⟩ = some (.int .u64 0)) :
    SeqStopsK Fence.wide nn Tryz.prog 81 #[.pointer (some ⟨Bb, 0, none⟩), .pointer (some ⟨Bk, 0, none⟩)] (fun i : Nat => #[.int .u64 (Bl.place key 1 i : Int)]) (KpB Bb) (fun ys => ys = []) (fun pre => pre = []) 0 w :=
  fun l J Jx W hW _ _ _ h0 => places1_none nn l Bb Bk J Jx W (belowc hW hBb) h0
end Go.Proofs.YtjblicgbdecbcaaGreat
