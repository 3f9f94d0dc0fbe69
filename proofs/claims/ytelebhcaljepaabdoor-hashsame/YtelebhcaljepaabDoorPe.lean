/- The walks of sides, toLeaf, toEnd. -/
import Derived.Test.YtelebhcaljepaabDoorPd
namespace Go.Proofs.YtelebhcaljepaabDoor
open Go.RowKit

set_option maxHeartbeats 4000000 in
set_option maxRecDepth 100000 in
theorem sides_any (F : Nat) (lb : Array Value) (E : Nat → Nat → Bool) (i n : Nat) (w : World) (hi : i < n) (hn : n ≤ 1099511627776) (hF : ∀ (args : Array Value) (w : World), (callFunc F args).run Tryd.prog w = .ok (.enter F args) w) (hE1 : ∀ a, a ≤ i → i < a + 1 → E a (a + 1) = true)
    (hEc : ∀ (a b : Nat) (w' : World), a < b → b ≤ 1099511627776 → Below w.heap.size w w' → Calls Tryd.prog F (#[.int .i64 (a : Int), .int .i64 (b : Int)] ++ lb) w' fun e w'' => e = .returned (.bool (E a b)) ∧ w'' = w') :
    Calls Tryd.prog 43 #[.int .i64 (i : Int), .int .i64 (n : Int), .func (.func F) #[] lb] w fun e w' =>
      ∃ v, e = .returned (.tuple #[v, .int .i64 ((Mt.way E i 0 n).2 : Int)]) ∧ w'.ownsRow w.heap.size 64 3 v (Mt.way E i 0 n).1.length (rv sideKind (Mt.way E i 0 n).1) ∧ Below w.heap.size w w' := by
  have hlv : Mt.lv n ≤ 40 := Mt.lv_le (by show n ≤ 2 ^ 40; exact hn)
  have DA := keep (fun W => down_any w.heap.size F lb E i w hF hE1 hEc n 0 n (by omega) (Nat.zero_le _) hi hn [] W (by simp; omega))
  clear hF hE1 hEc hlv
  obtain ⟨⟨R, en⟩, hR⟩ : ∃ R, Mt.way E i 0 n = R := ⟨_, rfl⟩
  rw [hR] at DA ⊢
  simp only [List.nil_append] at DA ⊢
  clear hR
  obtain ⟨W1, hW1⟩ : ∃ Wn, w.alloc (.cells #[.int .i64 (i : Int)] 3) = Wn := ⟨_, rfl⟩
  have b1 : Below w.heap.size w W1 := by rw [← hW1]; exact (Below.refl _ _).alloc (Nat.le_refl _) _
  have s1 : W1.heap.size = w.heap.size + 1 := by rw [← hW1, alloc_size]
  have g1 : W1.heap[w.heap.size]? = some (.cells #[.int .i64 (i : Int)] 3) := by rw [← hW1]; exact heap_alloc_new w _
  obtain ⟨W2, hW2⟩ : ∃ Wn, W1.alloc (.cells #[.func (.func F) #[] lb] 75) = Wn := ⟨_, rfl⟩
  have b2 : Below W1.heap.size W1 W2 := by rw [← hW2]; exact (Below.refl _ _).alloc (Nat.le_refl _) _
  have s2 : W2.heap.size = w.heap.size + 1 + 1 := by rw [← hW2, alloc_size, s1]
  have g2 : W2.heap[w.heap.size + 1]? = some (.cells #[.func (.func F) #[] lb] 75) := by rw [← hW2, ← s1]; exact heap_alloc_new W1 _
  obtain ⟨W3, hW3⟩ : ∃ Wn, W2.alloc (.cells #[.slice none 0 0] 54) = Wn := ⟨_, rfl⟩
  have b3 : Below W2.heap.size W2 W3 := by rw [← hW3]; exact (Below.refl _ _).alloc (Nat.le_refl _) _
  have s3 : W3.heap.size = w.heap.size + 1 + 1 + 1 := by rw [← hW3, alloc_size, s2]
  have g3 : W3.heap[w.heap.size + 1 + 1]? = some (.cells #[.slice none 0 0] 54) := by rw [← hW3, ← s2]; exact heap_alloc_new W2 _
  obtain ⟨W4, hW4⟩ : ∃ Wn, W3.alloc (.cells #[.nilFunc] 84) = Wn := ⟨_, rfl⟩
  have b4 : Below W3.heap.size W3 W4 := by rw [← hW4]; exact (Below.refl _ _).alloc (Nat.le_refl _) _
  have s4 : W4.heap.size = w.heap.size + 4 := by rw [← hW4, alloc_size, s3]
  have g4 : W4.heap[w.heap.size + 1 + 1 + 1]? = some (.cells #[.nilFunc] 84) := by rw [← hW4, ← s3]; exact heap_alloc_new W3 _
  have q4 : W4.cell? ⟨w.heap.size + 1 + 1 + 1, 0, none⟩ = some .nilFunc := cell_of_row _ _ _ _ _ _ g4
  have f4 : W4.frozen? ⟨w.heap.size + 1 + 1 + 1, 0, none⟩ = false := by simp [World.frozen?, g4]
  have B3 : Below w.heap.size w W3 := b1.trans ((b2.trans (b3.mono b2.size)).mono b1.size)
  have B4 : Below w.heap.size w W4 := B3.trans (b4.mono B3.size)
  have k1 : W4.heap[w.heap.size]? = some (.cells #[.int .i64 (i : Int)] 3) := ((b4.block _ (by omega)).trans ((b3.block _ (by omega)).trans (b2.block _ (by omega)))).trans g1
  have k2 : W4.heap[w.heap.size + 1]? = some (.cells #[.func (.func F) #[] lb] 75) := ((b4.block _ (by omega)).trans (b3.block _ (by omega))).trans g2
  have k3 : W4.heap[w.heap.size + 2]? = some (.cells #[.slice none 0 0] 54) := (b4.block _ (by omega)).trans g3
  have D5 : Hid (Dn w.heap.size (.func (.func F) #[] lb) i w (W4.setCell ⟨w.heap.size + 1 + 1 + 1, 0, none⟩ (downV w.heap.size)) []) := by
    have hs : (W4.setCell ⟨w.heap.size + 1 + 1 + 1, 0, none⟩ (downV w.heap.size)).heap.size = W4.heap.size := by simp only [World.setCell, Array.size_modify]
    have ho : ∀ g, g ≠ w.heap.size + 1 + 1 + 1 → (W4.setCell ⟨w.heap.size + 1 + 1 + 1, 0, none⟩ (downV w.heap.size)).heap[g]? = W4.heap[g]? := fun g hg => Below.heap_setCell W4 ⟨w.heap.size + 1 + 1 + 1, 0, none⟩ _ g hg
    refine ⟨by rw [hs, s4]; exact Nat.le_refl _, cell_of_row _ _ _ _ _ _ ((ho _ (by omega)).trans k1), cell_of_row _ _ _ _ _ _ ((ho _ (by omega)).trans k2), ?_, ⟨.slice none 0 0, (ho _ (by omega)).trans k3, ⟨rfl, .inl ⟨rfl, rfl⟩⟩⟩, B4.setCell (p := ⟨w.heap.size + 1 + 1 + 1, 0, none⟩) (by show w.heap.size ≤ w.heap.size + 1 + 1 + 1; omega) _⟩
    have := put_row g4 0 (downV w.heap.size)
    exact cell_of_row _ _ _ _ _ _ this
  have hst := run_store Tryd.prog W4 ⟨w.heap.size + 1 + 1 + 1, 0, none⟩ (.func (.func 54) #[] #[.pointer (some ⟨w.heap.size + 1, 0, none⟩), .pointer (some ⟨w.heap.size, 0, none⟩), .pointer (some ⟨w.heap.size + 1 + 1 + 1, 0, none⟩), .pointer (some ⟨w.heap.size + 1 + 1, 0, none⟩)]) .plain rfl
  unfold downV at D5
  clear b1 b2 b3 b4 B3 B4 k1 k2 k3 g1 g2 g3 g4 s4 hi hn
  go_enter Tryd.func43, Tryd.ntmps43
  go_wp2_with fail
  refine (DA.out _ D5.out).mono ?_
  rintro e w6 ⟨rfl, hD6, _⟩
  obtain ⟨v6, r6, o6⟩ := hD6.row
  obtain ⟨a6, c6, rfl⟩ := own_is o6
  have q6 : w6.cell? ⟨w.heap.size + 1 + 1, 0, none⟩ = some (.slice a6 R.length c6) := cell_of_row _ _ _ _ _ _ r6
  have O6 := keep (own_low o6 (B' := w.heap.size) (by omega))
  have L6 := keep hD6.low
  clear r6 o6 hD6 DA D5 hst q4 f4 hW1 hW2 hW3 hW4 s1 s2 s3
  go_wp2
  go_ret2
  exact ⟨_, rfl, O6.out, L6.out⟩
theorem enterLeaf (args : Array Value) (w : World) : (callFunc 44 args).run Tryd.prog w = .ok (.enter 44 args) w := by
  simp [callFunc, Tryd.func44]
  rfl
theorem enterEnd (args : Array Value) (w : World) : (callFunc 45 args).run Tryd.prog w = .ok (.enter 45 args) w := by
  simp [callFunc, Tryd.func45]
  rfl
set_option maxHeartbeats 1000000 in
set_option maxRecDepth 100000 in
theorem leafEnd (a b : Nat) (w : World) (hab : a < b) (hb : b ≤ 1099511627776) :
    Calls Tryd.prog 44 (#[.int .i64 (a : Int), .int .i64 (b : Int)] ++ #[]) w fun e w' => e = .returned (.bool (Mt.leafE a b)) ∧ w' = w := by
  have e1 : (b : Int) - (a : Int) = ((b - a : Nat) : Int) := by omega
  have h0 : (0 : Int) ≤ ((b - a : Nat) : Int) := by omega
  have h1 : ((b - a : Nat) : Int) ≤ 1099511627776 := by omega
  have hl : Mt.leafE a b = decide (((b - a : Nat) : Int) = 1) := by
    unfold Mt.leafE
    by_cases h : b - a = 1
    · rw [decide_eq_true h, decide_eq_true (by omega)]
    · rw [decide_eq_false h, decide_eq_false (by omega)]
  rw [hl]
  obtain ⟨x, hx⟩ : ∃ x, b - a = x := ⟨_, rfl⟩
  rw [hx] at e1 h0 h1 ⊢
  clear hl hx
  simp only [Array.append_empty]
  go_enter Tryd.func44, Tryd.ntmps44
  go_wp2
  go_ret
  exact ⟨rfl, rfl⟩
set_option maxHeartbeats 1000000 in
set_option maxRecDepth 100000 in
theorem endEnd (q m a b : Nat) (w : World) (hq : w.cell? ⟨q, 0, none⟩ = some (.int .i64 (m : Int))) :
    Calls Tryd.prog 45 (#[.int .i64 (a : Int), .int .i64 (b : Int)] ++ #[.pointer (some ⟨q, 0, none⟩)]) w fun e w' => e = .returned (.bool (Mt.endE m a b)) ∧ w' = w := by
  have hl : Mt.endE m a b = decide ((b : Int) = (m : Int)) := by
    unfold Mt.endE
    by_cases h : b = m
    · rw [decide_eq_true h, decide_eq_true (by omega)]
    · rw [decide_eq_false h, decide_eq_false (by omega)]
  rw [hl]
  clear hl
  simp only [List.append_toArray, List.cons_append, List.nil_append]
  go_enter Tryd.func45, Tryd.ntmps45
  go_wp2
  go_ret
  exact ⟨rfl, rfl⟩
/-- What toLeaf, toEnd answer. -/
def WayA (w : World) (row : List Mt.Sd) (v : Value) (w' : World) : Prop := w'.ownsRow w.heap.size 64 3 v row.length (rv sideKind row) ∧ Below w.heap.size w w'
set_option maxHeartbeats 1000000 in
set_option maxRecDepth 100000 in
theorem toLeaf_any (i n : Nat) (w : World) (hi : i < n) (hn : n ≤ 1099511627776) :
    Calls Tryd.prog 28 #[.int .i64 (i : Int), .int .i64 (n : Int)] w fun e w' => ∃ v, e = .returned v ∧ WayA w (Mt.way Mt.leafE i 0 n).1 v w' := by
  have SD := keep (sides_any 44 #[] Mt.leafE i n w hi hn enterLeaf (fun a h1 h2 => Mt.leafE_one a h1 h2) (fun a b w' h1 h2 _ => leafEnd a b w' h1 h2))
  clear hi hn
  obtain ⟨⟨R, en⟩, hR⟩ : ∃ R, Mt.way Mt.leafE i 0 n = R := ⟨_, rfl⟩
  rw [hR] at SD ⊢
  simp only at SD ⊢
  clear hR
  go_enter Tryd.func28, Tryd.ntmps28
  go_wp2_with fail
  refine SD.out.mono ?_
  rintro e w1 ⟨v, rfl, ho, hb⟩
  obtain ⟨ao, c, rfl⟩ := own_is ho
  have OB : Hid (WayA w R (.slice ao R.length c) w1) := ⟨ho, hb⟩
  clear ho hb SD
  go_wp2
  go_ret
  exact ⟨_, rfl, OB.out⟩
set_option maxHeartbeats 1000000 in
set_option maxRecDepth 100000 in
theorem toEnd_any (m n : Nat) (w : World) (h1 : 1 ≤ m) (hm : m ≤ n) (hn : n ≤ 1099511627776) :
    Calls Tryd.prog 29 #[.int .i64 (m : Int), .int .i64 (n : Int)] w fun e w' => ∃ v, e = .returned (.tuple #[v, .int .i64 ((Mt.way (Mt.endE m) (m - 1) 0 n).2 : Int)]) ∧ WayA w (Mt.way (Mt.endE m) (m - 1) 0 n).1 v w' := by
  obtain ⟨W1, hW1⟩ : ∃ Wn, w.alloc (.cells #[.int .i64 (m : Int)] 3) = Wn := ⟨_, rfl⟩
  have b1 : Hid (Below w.heap.size w W1) := by rw [← hW1]; exact (Below.refl _ _).alloc (Nat.le_refl _) _
  have q1 : W1.cell? ⟨w.heap.size, 0, none⟩ = some (.int .i64 (m : Int)) := by rw [← hW1]; exact cell_of_row _ _ _ _ _ _ (heap_alloc_new w _)
  have SD := keep (sides_any 45 #[.pointer (some ⟨w.heap.size, 0, none⟩)] (Mt.endE m) (m - 1) n W1 (by omega) hn enterEnd (fun a h2 h3 => Mt.endE_one h1 a h2 h3) (fun a b w' _ _ hb => endEnd w.heap.size m a b w' (below_cell hb q1)))
  have e1 : (m : Int) - 1 = ((m - 1 : Nat) : Int) := by omega
  have h0 : (0 : Int) ≤ ((m - 1 : Nat) : Int) := by omega
  have h2 : ((m - 1 : Nat) : Int) ≤ 1099511627776 := by omega
  obtain ⟨⟨R, en⟩, hR⟩ : ∃ R, Mt.way (Mt.endE m) (m - 1) 0 n = R := ⟨_, rfl⟩
  rw [hR] at SD ⊢
  obtain ⟨x, hx⟩ : ∃ x, m - 1 = x := ⟨_, rfl⟩
  rw [hx] at e1 h0 h2 SD
  simp only at SD ⊢
  clear hR h1 hm hn hx
  go_enter Tryd.func29, Tryd.ntmps29
  go_wp2_with fail
  refine SD.out.mono ?_
  rintro e w1 ⟨v, rfl, ho, hb⟩
  obtain ⟨ao, c, rfl⟩ := own_is ho
  have OB : Hid (WayA w R (.slice ao R.length c) w1) := ⟨own_low ho b1.out.size, b1.out.trans (hb.mono b1.out.size)⟩
  clear ho hb SD hW1 q1
  go_wp2
  go_ret2
  exact ⟨_, rfl, OB.out⟩
end Go.Proofs.YtelebhcaljepaabDoor
