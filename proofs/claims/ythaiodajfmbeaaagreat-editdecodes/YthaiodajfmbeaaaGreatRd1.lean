/- The walks of the document's reader: num, text. -/
import Derived.Test.YthaiodajfmbeaaaGreatJoinRr
import Derived.Test.YthaiodajfmbeaaaGreatHx
namespace Go.Proofs.YthaiodajfmbeaaaGreat
open Go.RowKit
open Ed (Nt)

/-- The document's reader in memory: what is left, whether something was missing; z: what is older lies below. -/
structure Rx (z : Nat) (w : World) (b : Nat) (ao : Option Addr) (n c : Nat) (l : List UInt8) (bad : Bool) : Prop where
  row : w.heap[b]? = some (.cells #[.slice ao n c, .bool bad] 51)
  src : Src w ao n c l
  far : (∀ ad, ao = some ad → ad.block < z) ∨ In5 w ao
  low : z ≤ b
theorem Rx.lt {z : Nat} {w : World} {b : Nat} {ao : Option Addr} {n c : Nat} {l : List UInt8} {bad : Bool} (h : Rx z w b ao n c l bad) : b < w.heap.size := (Array.getElem?_eq_some_iff.1 h.row).1
theorem Rx.c0 {z : Nat} {w : World} {b : Nat} {ao : Option Addr} {n c : Nat} {l : List UInt8} {bad : Bool} (h : Rx z w b ao n c l bad) : w.cell? ⟨b, 0, none⟩ = some (.slice ao n c) := cell_of_row _ _ _ _ _ _ h.row
theorem Rx.c1 {z : Nat} {w : World} {b : Nat} {ao : Option Addr} {n c : Nat} {l : List UInt8} {bad : Bool} (h : Rx z w b ao n c l bad) : w.cell? ⟨b, 1, none⟩ = some (.bool bad) := cell_of_row _ _ _ _ _ _ h.row
/-- The reader stands, whatever else turns: blocks of bytes, those below z, and its own do not. -/
theorem Rx.on {z : Nat} {w w' : World} {b : Nat} {ao : Option Addr} {n c : Nat} {l : List UInt8} {bad : Bool} (h : Rx z w b ao n c l bad) (hz : Below z w w') (ht : B5 w w') (hb : w'.heap[b]? = w.heap[b]?) : Rx z w' b ao n c l bad := by
  refine ⟨hb.trans h.row, ?_, ?_, h.low⟩
  · rcases h.far with hf | hf
    · exact h.src.below' (B := z) (fun ad h1 _ => hf ad h1) hz
    · exact src_on h.src hf ht
  · rcases h.far with hf | hf
    · exact .inl hf
    · exact .inr (hf.on ht)
theorem Rx.below {z : Nat} {w w' : World} {b : Nat} {ao : Option Addr} {n c : Nat} {l : List UInt8} {bad : Bool} (h : Rx z w b ao n c l bad) (hb : Below w.heap.size w w') : Rx z w' b ao n c l bad :=
  h.on (hb.mono (Nat.le_of_lt (Nat.lt_of_le_of_lt h.low h.lt))) (B5.of_below hb) (hb.block _ h.lt)
/-- The reader goes on. -/
theorem Rx.go {z : Nat} {w w1 : World} {b : Nat} {ao : Option Addr} {n c : Nat} {l : List UInt8} {bad : Bool} (h : Rx z w b ao n c l bad) (hb : Below w.heap.size w w1) {a2 : Option Addr} {n2 c2 : Nat} {l2 : List UInt8} (hs : Src w1 a2 n2 c2 l2) (h5 : In5 w1 a2) (bad2 : Bool) :
    Kept (AtB b) w ((w1.setCell ⟨b, 1, none⟩ (.bool bad2)).setCell ⟨b, 0, none⟩ (.slice a2 n2 c2)) ∧ ∃ a3 c3, Rx z ((w1.setCell ⟨b, 1, none⟩ (.bool bad2)).setCell ⟨b, 0, none⟩ (.slice a2 n2 c2)) b a3 l2.length c3 l2 bad2 := by
  have r1 := (hb.block _ h.lt).trans h.row
  have r2 := set_row r1 1 (.bool bad2)
  have r3 := set_row r2 0 (.slice a2 n2 c2)
  have t : B5 w1 ((w1.setCell ⟨b, 1, none⟩ (.bool bad2)).setCell ⟨b, 0, none⟩ (.slice a2 n2 c2)) := (B5.of_set r1 (by decide) _).trans (B5.of_set r2 (by decide) _)
  have e := hs.len
  subst e
  exact ⟨(((Kept.of_below hb).setCell (p := ⟨b, 1, none⟩) (.inl (show AtB b b from rfl)) _).setCell (p := ⟨b, 0, none⟩) (.inl (show AtB b b from rfl)) _), a2, c2, r3, src_on hs h5 t, .inr (h5.on t), h.low⟩
/-- A number is read. -/
def NumX (z rd : Nat) (x : Nat) (L' : List UInt8) (bad' : Bool) (w : World) (e : Ending) (w' : World) : Prop := e = .returned (.int .i64 (x : Int)) ∧ Kept (AtB rd) w w' ∧ ∃ a2 c2, Rx z w' rd a2 L'.length c2 L' bad'
/-- A text is read. -/
def TxtX (z rd : Nat) (s : List UInt8) (L' : List UInt8) (bad' : Bool) (w : World) (e : Ending) (w' : World) : Prop := ∃ g cap, e = .returned (.slice (some ⟨g, 0, none⟩) s.length cap) ∧ In5 w' (some ⟨g, 0, none⟩) ∧ Src w' (some ⟨g, 0, none⟩) s.length cap s ∧ Kept (AtB rd) w w' ∧ ∃ a2 c2, Rx z w' rd a2 L'.length c2 L' bad'
theorem eOf_two (l : List UInt8) : eOf l = 0 ∨ eOf l = 2 := by
  unfold eOf
  split <;> simp
theorem tE_two (l : List UInt8) (m : Int) : Ed.tE l m = 0 ∨ Ed.tE l m = 2 := by
  unfold Ed.tE
  split <;> simp
set_option maxHeartbeats 1000000 in
set_option maxRecDepth 100000 in
theorem dnum_any {z : Nat} (b : Nat) (ao : Option Addr) (n c : Nat) (l : List UInt8) (bad : Bool) (w : World) (h : Rx z w b ao n c l bad) (hn : n ≤ 140737488355328) :
    Calls Tryz.prog 16 #[.pointer (some ⟨b, 0, none⟩)] w (NumX z b (nOf l) (rOf l) (bad || Ed.ddB l) w) := by
  have H := keep h
  have c0 := h.c0
  have TK := keep (rtakeNum_own ao n c l w hn h.src)
  unfold TookN at TK
  have G := keep (fun (w1 : World) (hb : Below w.heap.size w w1) (a2 : Option Addr) (c2 : Nat) (hs : Src w1 a2 (rOf l).length c2 (rOf l)) (h5 : In5 w1 a2) => h.go hb hs h5 (bad || Ed.ddB l))
  have E2 := eOf_two l
  obtain ⟨E, hE⟩ : ∃ E, eOf l = E := ⟨_, rfl⟩
  have hd : Ed.ddB l = !decide (E = 0) := by unfold Ed.ddB; rw [hE]
  obtain ⟨X, hX⟩ : ∃ X, nOf l = X := ⟨_, rfl⟩
  obtain ⟨R, hR⟩ : ∃ R, rOf l = R := ⟨_, rfl⟩
  rw [hE] at TK E2
  rw [hX] at TK
  rw [hR] at TK G
  rw [hX, hR]
  rw [hd] at G ⊢
  obtain ⟨M, hM⟩ : ∃ M, R.length = M := ⟨_, rfl⟩
  rw [hM] at TK G
  have HM := keep hM
  clear h hE hX hR hd hM
  go_enter Tryz.func16, Tryz.ntmps16
  go_wp2_with fail
  refine TK.out.mono ?_
  rintro e w1 ⟨a2, c2, rfl, hs, h5, hb⟩
  have G1 := keep (G.out w1 hb a2 c2 hs h5)
  have H1 := H.out.below hb
  have d1 := H1.c1
  have d0 := H1.c0
  have f0 : w1.frozen? ⟨b, 0, none⟩ = false := by simp [World.frozen?, H1.row]
  have f1 : w1.frozen? ⟨b, 1, none⟩ = false := by simp [World.frozen?, H1.row]
  clear hs h5 hb TK G H1 c0
  rcases E2 with rfl | rfl <;> cases bad
  all_goals go_wp2
  all_goals go_ret
  all_goals
    have HM1 := HM.out
    subst HM1
    exact ⟨rfl, G1.out⟩
set_option maxHeartbeats 1000000 in
set_option maxRecDepth 100000 in
theorem dtext_any {z : Nat} (b : Nat) (ao : Option Addr) (n c : Nat) (l : List UInt8) (bad : Bool) (w : World) (h : Rx z w b ao n c l bad) (hn : n ≤ 140737488355328) :
    Calls Tryz.prog 17 #[.pointer (some ⟨b, 0, none⟩)] w (TxtX z b (Ed.tS l 64) (Ed.tR l 64) (bad || Ed.ddC l) w) := by
  have H := keep h
  have c0 := h.c0
  have TK := keep (rtakeText_uni ao n c l 64 w hn h.src)
  have eS : Bq.tS l 64 = Ed.tS l 64 := rfl
  have eR : Bq.tR l 64 = Ed.tR l 64 := rfl
  have eE : tE l 64 = Ed.tE l 64 := rfl
  rw [eS, eR, eE] at TK
  clear eS eR eE
  have G := keep (fun (w1 : World) (hb : Below w.heap.size w w1) (a2 : Option Addr) (c2 : Nat) (hs : Src w1 a2 (Ed.tR l 64).length c2 (Ed.tR l 64)) (h5 : In5 w1 a2) => h.go hb hs h5 (bad || Ed.ddC l))
  have E2 := tE_two l 64
  obtain ⟨E, hE⟩ : ∃ E, Ed.tE l 64 = E := ⟨_, rfl⟩
  have hd : Ed.ddC l = !decide (E = 0) := by unfold Ed.ddC; rw [hE]
  obtain ⟨X, hX⟩ : ∃ X, Ed.tS l 64 = X := ⟨_, rfl⟩
  obtain ⟨R, hR⟩ : ∃ R, Ed.tR l 64 = R := ⟨_, rfl⟩
  rw [hE] at TK E2
  rw [hX] at TK
  rw [hR] at TK G
  rw [hX, hR]
  rw [hd] at G ⊢
  obtain ⟨M, hM⟩ : ∃ M, R.length = M := ⟨_, rfl⟩
  rw [hM] at TK G
  have HM := keep hM
  clear h hE hX hR hd hM
  go_enter Tryz.func17, Tryz.ntmps17
  go_wp2_with fail
  refine TK.out.mono ?_
  rintro e w1 ⟨a2, c2, rfl, hs, h5, hb⟩
  have G1 := keep (G.out w1 hb a2 c2 hs h5)
  have H1 := H.out.below hb
  have d1 := H1.c1
  have d0 := H1.c0
  have f0 : w1.frozen? ⟨b, 0, none⟩ = false := by simp [World.frozen?, H1.row]
  have f1 : w1.frozen? ⟨b, 1, none⟩ = false := by simp [World.frozen?, H1.row]
  clear hs h5 hb TK G H1 c0
  rcases E2 with rfl | rfl <;> cases bad
  · have G2 := G1.out
    rw [show (false || !decide ((0 : Int) = 0)) = false from rfl] at G2
    obtain ⟨W3, hW3⟩ : ∃ W3, (w1.setCell ⟨b, 1, none⟩ (.bool false)).setCell ⟨b, 0, none⟩ (.slice a2 M c2) = W3 := ⟨_, rfl⟩
    rw [hW3] at G2
    have G3 := keep G2
    have cv := conv_str X X.length rfl W3
    clear G2 G1
    go_wp2
    go_ret
    have HM1 := HM.out
    subst HM1
    refine ⟨W3.heap.size, grownCap W3 X.length 0 5, rfl, fun ad h => ?_, Src.converted W3 X X.length rfl, G3.out.1.trans (Kept.of_below (below_bytesWorld W3 ⟨X.toArray⟩)), ?_⟩
    · cases h
      exact ⟨_, _, Lib.bytesWorld_at_new W3 5 ⟨X.toArray⟩⟩
    · obtain ⟨a3, c3, h3⟩ := G3.out.2
      exact ⟨a3, c3, h3.below (below_bytesWorld W3 ⟨X.toArray⟩)⟩
  · have G2 := G1.out
    rw [show (true || !decide ((0 : Int) = 0)) = true from rfl] at G2
    obtain ⟨W3, hW3⟩ : ∃ W3, (w1.setCell ⟨b, 1, none⟩ (.bool true)).setCell ⟨b, 0, none⟩ (.slice a2 M c2) = W3 := ⟨_, rfl⟩
    rw [hW3] at G2
    have G3 := keep G2
    have cv := conv_str X X.length rfl W3
    clear G2 G1
    go_wp2
    go_ret
    have HM1 := HM.out
    subst HM1
    refine ⟨W3.heap.size, grownCap W3 X.length 0 5, rfl, fun ad h => ?_, Src.converted W3 X X.length rfl, G3.out.1.trans (Kept.of_below (below_bytesWorld W3 ⟨X.toArray⟩)), ?_⟩
    · cases h
      exact ⟨_, _, Lib.bytesWorld_at_new W3 5 ⟨X.toArray⟩⟩
    · obtain ⟨a3, c3, h3⟩ := G3.out.2
      exact ⟨a3, c3, h3.below (below_bytesWorld W3 ⟨X.toArray⟩)⟩
  · have G2 := G1.out
    rw [show (false || !decide ((2 : Int) = 0)) = true from rfl] at G2
    obtain ⟨W3, hW3⟩ : ∃ W3, (w1.setCell ⟨b, 1, none⟩ (.bool true)).setCell ⟨b, 0, none⟩ (.slice a2 M c2) = W3 := ⟨_, rfl⟩
    rw [hW3] at G2
    have G3 := keep G2
    have cv := conv_str X X.length rfl W3
    clear G2 G1
    go_wp2
    go_ret
    have HM1 := HM.out
    subst HM1
    refine ⟨W3.heap.size, grownCap W3 X.length 0 5, rfl, fun ad h => ?_, Src.converted W3 X X.length rfl, G3.out.1.trans (Kept.of_below (below_bytesWorld W3 ⟨X.toArray⟩)), ?_⟩
    · cases h
      exact ⟨_, _, Lib.bytesWorld_at_new W3 5 ⟨X.toArray⟩⟩
    · obtain ⟨a3, c3, h3⟩ := G3.out.2
      exact ⟨a3, c3, h3.below (below_bytesWorld W3 ⟨X.toArray⟩)⟩
  · have G2 := G1.out
    rw [show (true || !decide ((2 : Int) = 0)) = true from rfl] at G2
    obtain ⟨W3, hW3⟩ : ∃ W3, (w1.setCell ⟨b, 1, none⟩ (.bool true)).setCell ⟨b, 0, none⟩ (.slice a2 M c2) = W3 := ⟨_, rfl⟩
    rw [hW3] at G2
    have G3 := keep G2
    have cv := conv_str X X.length rfl W3
    clear G2 G1
    go_wp2
    go_ret
    have HM1 := HM.out
    subst HM1
    refine ⟨W3.heap.size, grownCap W3 X.length 0 5, rfl, fun ad h => ?_, Src.converted W3 X X.length rfl, G3.out.1.trans (Kept.of_below (below_bytesWorld W3 ⟨X.toArray⟩)), ?_⟩
    · cases h
      exact ⟨_, _, Lib.bytesWorld_at_new W3 5 ⟨X.toArray⟩⟩
    · obtain ⟨a3, c3, h3⟩ := G3.out.2
      exact ⟨a3, c3, h3.below (below_bytesWorld W3 ⟨X.toArray⟩)⟩
end Go.Proofs.YthaiodajfmbeaaaGreat
