/- The walk of block's Parse. -/
import Derived.Test.YtlhblbaingojaabJa
namespace Go.Proofs.Ytlhblbaingojaab.Bq
open Go.Proofs.Ytlhblbaingojaab
open Go.Proofs.Ytlhblbaingojaab.Sk (Ent)

theorem blk_len {l : List Ent} (h : okB l = true) : (blk l).length ≤ 9005 := by
  have := rawB_len h
  unfold blk
  rw [List.length_append, be_length]
  omega
theorem rdL_bound : ∀ (n : Nat) (a r : List UInt8) {e : Ent}, a.length + 64 * n ≤ 1000000 → e ∈ rdL n a r → e.key.length ≤ 9223372036854775807 ∧ e.val.length ≤ 9223372036854775807
  | 0, _, _, _, _, h => by cases h
  | n + 1, a, r, e, hb, h => by
    have hk := rdE_key a r
    have hv := rdE_val a r
    rcases List.mem_cons.1 h with rfl | h
    · omega
    · exact rdL_bound n _ _ (by omega) h
theorem rd_bound {b : List UInt8} {e : Ent} (h : e ∈ rd b) : e.key.length ≤ 9223372036854775807 ∧ e.val.length ≤ 9223372036854775807 := rdL_bound _ _ _ (by simp only [List.length_nil]; omega) h
theorem parse_long {b : List UInt8} (h : 9005 < b.length) : parse b = none := parse_none (fun l hl e => by
  have := blk_len hl
  rw [e] at this
  omega)
end Go.Proofs.Ytlhblbaingojaab.Bq
namespace Go.Proofs.Ytlhblbaingojaab
open Go.RowKit
open Sk (Ent)

/-- Parse's answer. -/
def Parsed (w : World) (b : List UInt8) (e : Ending) (w' : World) : Prop :=
  (∃ (L : List Ent) (ao : Option Addr) (c : Nat) (ys : List EV), Bq.parse b = some L ∧ e = .returned (.tuple #[.slice ao ys.length c, .int .i64 0]) ∧ RSrc entKind w' ao ys.length c ys ∧ ys.map (·.e) = L ∧ Below w.heap.size w w') ∨
  (Bq.parse b = none ∧ e = .returned (.tuple #[.slice none 0 0, .int .i64 2]) ∧ Below w.heap.size w w')
theorem parsed_no {w w' : World} {b : List UInt8} (h : Bq.parse b = none) (hb : Below w.heap.size w w') : Parsed w b (.returned (.tuple #[.slice none 0 0, .int .i64 2])) w' := .inr ⟨h, rfl, hb⟩
theorem parsed_yes {w w' : World} {b : List UInt8} {L : List Ent} {ao : Option Addr} {n c : Nat} {ys : List EV} (h : Bq.parse b = some L) (hs : RSrc entKind w' ao n c ys) (he : ys.map (·.e) = L) (hb : Below w.heap.size w w') : Parsed w b (.returned (.tuple #[.slice ao n c, .int .i64 0])) w' := by
  have := hs.len
  subst this
  exact .inl ⟨L, ao, c, ys, h, rfl, hs, he, hb⟩
set_option maxHeartbeats 2000000 in
set_option maxRecDepth 100000 in
theorem parse_any (ao : Option Addr) (m c : Nat) (b : List UInt8) (w : World) (hs : Src w ao m c b) :
    Calls Try.prog 14 #[.slice ao m c] w (Parsed w b) := by
  have hl := hs.len
  by_cases h9 : 9005 < m
  · have h9i : 9005 < (m : Int) := by omega
    have PN := keep (Bq.parse_long (b := b) (by omega))
    clear hs hl
    go_enter Try.func14, Try.ntmps14
    go_wp2
    go_ret2
    exact parsed_no PN.out (Below.refl _ _)
  · have h9i : ¬ 9005 < (m : Int) := by omega
    have HS := keep hs
    obtain ⟨W1, hW1⟩ : ∃ W1, w.alloc (.cells #[.slice ao m c] 51) = W1 := ⟨_, rfl⟩
    have b1 : Hid (Below w.heap.size w W1) := by rw [← hW1]; exact (Below.refl _ _).alloc (Nat.le_refl _) _
    have g1 : Hid (W1.heap[w.heap.size]? = some (.cells #[.slice ao m c] 51 (0, 0))) := by rw [← hW1]; exact heap_alloc_new w _
    have D1 : Hid (Rd w.heap.size W1 b) := ⟨ao, c, by rw [hl]; exact g1.out, by rw [hl]; exact hs.below b1.out⟩
    have TE := keep (takeEntries_any w.heap.size b W1 D1.out (by omega))
    clear hs hl
    go_enter Try.func14, Try.ntmps14
    go_wp2_with fail
    refine TE.out.mono ?_
    rintro e w2 ⟨ys, v, rfl, hr2, he2, hy8, hk2⟩
    obtain ⟨a2, c2, rfl, hs2⟩ := hr2.src
    have B2 := keep ((Kept.of_below (U := (· = w.heap.size)) b1.out).trans hk2 |>.below (Nat.le_refl _) (fun g hg => by rw [hg]; exact Nat.le_refl _))
    have S2 := keep hs2
    have HE := keep he2
    have BB := keep (build_any a2 ys.length c2 ys w2 hs2 (fun y hy => by
      have hm : y.e ∈ Bq.rd b := by rw [← he2]; exact List.mem_map_of_mem hy
      exact Bq.rd_bound hm))
    rw [he2] at BB
    clear hr2 hs2 he2 hk2 TE hW1
    obtain ⟨n, hn⟩ : ∃ n, ys.length = n := ⟨_, rfl⟩
    rw [hn] at BB S2 hy8 ⊢
    clear hn
    go_wp2_with fail
    refine BB.out.mono ?_
    rintro e w3 (⟨hok, a3, c3, rfl, ho3, hb3⟩ | ⟨hok, rfl, hb3⟩)
    · obtain ⟨_, _, e3, hs3, _⟩ := Src.of_own ho3
      cases e3
      have B3 := keep (B2.out.trans (hb3.mono B2.out.size))
      have S3 := keep (S2.out.below entKind_ok hb3)
      have EQ := keep (equal_any a3 _ c3 _ ao m c b w3 hs3 (HS.out.below B3.out))
      have OK := keep hok
      clear hs3 ho3 hb3 hok BB
      obtain ⟨nb, hnb⟩ : ∃ nb, (Bq.blk (Bq.rd b)).length = nb := ⟨_, rfl⟩
      rw [hnb] at EQ ⊢
      clear hnb
      by_cases hq : Bq.blk (Bq.rd b) = b
      · rw [decide_eq_true hq] at EQ
        have PS : Hid (Bq.parse b = some (Bq.rd b)) := if_pos ⟨OK.out, hq⟩
        clear hq
        go_wp2_with fail
        refine EQ.out.mono ?_
        rintro e w4 ⟨rfl, rfl⟩
        go_wp2
        go_ret2
        exact parsed_yes PS.out S3.out HE.out B3.out
      · rw [decide_eq_false hq] at EQ
        have PS : Hid (Bq.parse b = none) := if_neg (fun h => hq h.2)
        clear hq
        go_wp2_with fail
        refine EQ.out.mono ?_
        rintro e w4 ⟨rfl, rfl⟩
        go_wp2
        go_ret2
        exact parsed_no PS.out B3.out
    · have B3 := keep (B2.out.trans (hb3.mono B2.out.size))
      have PS : Hid (Bq.parse b = none) := if_neg (fun h => by rw [hok] at h; cases h.1)
      clear hb3 hok BB
      go_wp2
      go_ret2
      exact parsed_no PS.out B3.out
end Go.Proofs.Ytlhblbaingojaab
