/- The walks of the document's PathNodes, ProofNodes; of the law's row, rows. -/
import Derived.Test.YtdgfbbaddoghaaaTf
import Derived.Deep.RegionHeld3
namespace Go.Proofs.Ytdgfbbaddoghaaa
open Go.RowKit
open Mt (Pos)

theorem RowsA.none {T TT : TypeId} {w w' : World} {er : Int} (hb : Below w.heap.size w w') : RowsA T TT w [] er (.returned (.tuple #[.slice none 0 0, .int .i64 er])) w' := ⟨_, rfl, RowsV.nil, hb⟩
set_option maxHeartbeats 400000 in
set_option maxRecDepth 100000 in
theorem rpathnodes_bad (i n : Int) (w : World) (h : n < 1 ∨ 1099511627776 < n ∨ i < 0 ∨ n ≤ i) : Calls Try.prog 13 #[.int .i64 i, .int .i64 n] w (RowsA 48 27 w [] 8) := by
  go_enter Try.func13, Try.ntmps13
  by_cases h1 : n < 1
  · go_wp2
    go_ret2
    exact RowsA.none (Below.refl _ _)
  by_cases h2 : 1099511627776 < n
  · go_wp2
    go_ret2
    exact RowsA.none (Below.refl _ _)
  by_cases h3 : i < 0
  · go_wp2
    go_ret2
    exact RowsA.none (Below.refl _ _)
  · have h4 : n ≤ i := by omega
    go_wp2
    go_ret2
    exact RowsA.none (Below.refl _ _)
set_option maxHeartbeats 400000 in
set_option maxRecDepth 100000 in
theorem rpathnodes_any (i n : Nat) (w : World) (hi : i < n) (hn : n ≤ 1099511627776) : Calls Try.prog 13 #[.int .i64 (i : Int), .int .i64 (n : Int)] w (RowsA 48 27 w (wayN (Mt.way Mt.leafE i 0 n).1) 0) := by
  have PA := keep (rpath_any i (n - 0) 0 n rfl (Nat.zero_le _) hi hn (Nat.dvd_zero _) w)
  have h1 : ¬ (n : Int) < 1 := by omega
  have h2 : ¬ (1099511627776 : Int) < (n : Int) := by omega
  have h3 : ¬ (i : Int) < 0 := by omega
  have h4 : ¬ (n : Int) ≤ (i : Int) := by omega
  clear hi hn
  go_enter Try.func13, Try.ntmps13
  go_wp2_with fail
  refine PA.out.mono ?_
  rintro e w1 ⟨v, rfl, hr, hb⟩
  have R := keep hr
  have B := keep hb
  obtain ⟨p, c, _, e7, _, _, _⟩ := hr.src
  subst e7
  clear hr hb PA
  go_wp2
  go_ret2
  exact ⟨_, rfl, R.out, B.out⟩
set_option maxHeartbeats 400000 in
set_option maxRecDepth 100000 in
theorem rproofnodes_bad (m n : Int) (w : World) (h : m < 1 ∨ n < m ∨ 1099511627776 < n) : Calls Try.prog 15 #[.int .i64 m, .int .i64 n] w (RowsA 48 27 w [] 8) := by
  go_enter Try.func15, Try.ntmps15
  by_cases h1 : m < 1
  · go_wp2
    go_ret2
    exact RowsA.none (Below.refl _ _)
  by_cases h2 : n < m
  · go_wp2
    go_ret2
    exact RowsA.none (Below.refl _ _)
  · have h4 : 1099511627776 < n := by omega
    go_wp2
    go_ret2
    exact RowsA.none (Below.refl _ _)
set_option maxHeartbeats 400000 in
set_option maxRecDepth 100000 in
theorem rproofnodes_any (m n : Nat) (w : World) (h1 : 1 ≤ m) (hi : m ≤ n) (hn : n ≤ 1099511627776) : Calls Try.prog 15 #[.int .i64 (m : Int), .int .i64 (n : Int)] w (RowsA 48 27 w (subN m true 0 n) 0) := by
  have PA := keep (rproof_any m h1 (n - 0) 0 n rfl (Nat.zero_le _) hi hn (Nat.dvd_zero _) true w)
  have h1 : ¬ (m : Int) < 1 := by omega
  have h2 : ¬ (n : Int) < (m : Int) := by omega
  have h4 : ¬ (1099511627776 : Int) < (n : Int) := by omega
  clear hi hn
  go_enter Try.func15, Try.ntmps15
  go_wp2_with fail
  refine PA.out.mono ?_
  rintro e w1 ⟨v, rfl, hr, hb⟩
  have R := keep hr
  have B := keep hb
  obtain ⟨p, c, _, e7, _, _, _⟩ := hr.src
  subst e7
  clear hr hb PA
  go_wp2
  go_ret2
  exact ⟨_, rfl, R.out, B.out⟩
set_option maxHeartbeats 1000000 in
set_option maxRecDepth 100000 in
theorem row_any (ao : Option Addr) (n c : Nat) (ps : List Pos) (w : World) (hs : RSrc posKind w ao n c ps) (hn : n ≤ 1000) :
    Calls Try.prog 9 #[.slice ao n c] w (PosR 48 w ps) := by
  obtain ⟨i0, hi0, hz0, hz1, hz2⟩ := info_partsS infoQ
  have HS := keep hs
  have HSL := keep hs.len
  clear hs
  go_enter Try.func9, Try.ntmps9
  go_wp2
  go_loopw [3, 4] (fun v i wr => ∃ k : Nat, k ≤ n ∧ i = .int .i64 (k : Int) ∧ Hid (wr.ownsRow w.heap.size 48 2 v k (rv posKind (ps.take k)) ∧ Below w.heap.size w wr)) (fun _ i _ => n - (intOf i).toNat)
  case atStart => exact ⟨0, Nat.zero_le _, rfl, World.ownsRow_nil _ _ _ _, Below.refl _ _⟩
  case round =>
    obtain ⟨k, hk, rfl, hI⟩ := hrel
    obtain ⟨vp, vc, hv⟩ := own_is hI.out.1
    subst hv
    have O1 := keep hI.out.1
    have B1 := keep hI.out.2
    clear hI
    rcases Nat.lt_or_ge k n with hlt | hge
    · obtain ⟨b, off, rfl, hbw, hcell⟩ := pos_at HS.out (by omega)
      obtain ⟨p, hp⟩ : ∃ p, ps[k]? = some p := ⟨ps[k]'(by rw [HSL.out]; exact hlt), List.getElem?_eq_getElem _⟩
      have hc0 := below_cell B1.out (hcell k p hp).1
      have hc1 := below_cell B1.out (hcell k p hp).2
      have NXT : Hid (ps.take (k + 1) = ps.take k ++ [p]) := by show _ = _; rw [List.take_add_one, hp]; rfl
      have j0 : (0 : Int) ≤ (k : Int) := by omega
      have j1 : (k : Int) < (n : Int) := by omega
      obtain ⟨pl, px⟩ := p
      obtain ⟨Q, hQ⟩ : ∃ Q, ps.take k = Q := ⟨_, rfl⟩
      rw [hQ] at O1 NXT
      clear hcell hp hQ
      have b4 := keep ((B1.out.alloc B1.out.size (.cells #[.int .i64 (pl : Int), .int .i64 (px : Int)] 48)).drew)
      have O4 : Hid ((wr.alloc (.cells #[.int .i64 (pl : Int), .int .i64 (px : Int)] 48)).drew.ownsRow w.heap.size 48 2 (.slice vp k vc) k (rv posKind Q)) := own_next O1.out ((Below.refl wr.heap.size wr).alloc (Nat.le_refl _) _).drew
      have qa : ∀ {pp : Addr} {vv : Value}, wr.cell? pp = some vv → ((wr.alloc (.cells #[.int .i64 (pl : Int), .int .i64 (px : Int)] 48)).drew).cell? pp = some vv := fun hh => below_cell (((Below.refl wr.heap.size wr).alloc (Nat.le_refl _) _).drew) hh
      go_wp2_with fail
      go_region_held3 (fun w' => w'.cell? ⟨b, off + k * 2, none⟩ = some (.int .i64 (pl : Int)) ∧ w'.cell? ⟨b, off + k * 2 + 1, none⟩ = some (.int .i64 (px : Int)))
        (first | go_keep | exact ⟨qa hc0, qa hc1⟩ | exact ⟨hc0, hc1⟩ | exact ⟨rr1 (qa hc0), rr1 (qa hc1)⟩)
        (first | (refine step_append_recS posKind_ok (by rfl) _ _ 27 48 (by rfl) w.heap.size i0 _ 16 Try.underlying27 hi0 hz0 hz1 hz2 (by rfl) (.slice vp k vc) k Q (by rfl) O4.out _ 1 (⟨pl, px⟩ : Pos) (by rfl) (rec_cells (k := posKind) wr 48 (⟨pl, px⟩ : Pos)) (by unfold maxLen; omega) (by omega) b4.out.size ?_; intro v7 w7 ho7 hg7; have rr1 : ∀ {o : Nat} {vv : Value}, ((wr.alloc (.cells #[.int .i64 (pl : Int), .int .i64 (px : Int)] 48)).drew).cell? ⟨b, o, none⟩ = some vv → w7.cell? ⟨b, o, none⟩ = some vv := (fun hh => by rw [World.cell?_of_block (hg7.block b (World.block_lt_of_cell? _ _ hh) (fun e => by have := (O4.out.lt b e.symm).1; omega))]; exact hh); have O7 := keep ho7; have b7 := keep (b4.out.grown hg7 b4.out.size (fun j hj => (O4.out.lt j hj).1)); clear ho7 hg7) | skip)
      clear rr1 qa
      go_wp2
      go_roundw
      case rel => exact ⟨k + 1, by omega, by first | rfl | go_num, by rw [NXT.out]; exact O7.out, b7.out⟩
      case measure => simp [intOf]; omega
    · obtain rfl : k = n := by omega
      have E : Hid (ps.take k = ps) := List.take_of_length_le (by have := HSL.out; omega)
      go_wp2
      go_ret
      refine ⟨_, rfl, ?_, B1.out⟩
      rw [E.out] at O1
      rw [HSL.out]
      exact O1.out
end Go.Proofs.Ytdgfbbaddoghaaa
