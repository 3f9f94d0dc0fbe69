/- The walk of key.Make where there is a key. -/
/- The walk of key.Num. -/
import Derived.Test.YtogphpejdnhnjaaGreatDoorJoinEkc
namespace Go.Proofs.YtogphpejdnhnjaaGreatDoor
open Go.RowKit

set_option maxHeartbeats 1000000 in
set_option maxRecDepth 100000 in
theorem make_yes (T A : Nat) (ao : Option Addr) (m c : Nat) (l : List UInt8) (b : Addr) (w : World) (h1 : T ≤ 1099511627776) (h2 : A ≤ 255) (h3 : m ≤ 55) (hs : Src w ao m c l) (hg : ErrIs w b) :
    Calls Tryz.prog 62 #[.int .i64 (T : Int), .int .i64 (A : Int), .slice ao m c] w fun e w' => ∃ v, e = .returned (.tuple #[v, .int .i64 0]) ∧ New w w' v (9 + m) (mk T A l) := by
  obtain ⟨i0, hi, hz0, hz1, hz2⟩ := info_parts info5
  have HG := keep hg
  have HS := keep hs
  have KC := keep (check_yes (T : Int) (A : Int) m w.drew ⟨⟨by omega, by omega⟩, ⟨by omega, by omega⟩, h3⟩)
  obtain ⟨y, hy⟩ : ∃ y : UInt8, UInt8.ofNat A = y := ⟨_, rfl⟩
  have hyA0 : (A : Int) = (y.toNat : Int) := by rw [← hy, UInt8.toNat_ofNat']; omega
  have hyA := keep hyA0
  have hA : (A : Int) % 256 = (y.toNat : Int) := by rw [← hyA0]; omega
  have hmk : Hid (mk T A l = (be 8 T ++ [y]) ++ l) := by rw [← hy]; unfold mk; simp; trivial
  unfold ErrIs at hg
  clear hs hy hyA0
  go_enter Tryz.func62, Tryz.ntmps62
  go_wp2_with fail
  go_region_with (first
    | (go_at_call 125; go_fit KC.out; rintro e w1 ⟨rfl, hb1⟩; have G1 := keep (HG.out.drew.below hb1); have hg1 : w1.cell? ⟨1, 0, none⟩ = some (.iface 423 (.pointer (some b))) := G1.out; have b1 := keep ((Below.refl w.heap.size w).drew.trans hb1); have KI := keep (is_nil b w1); clear hb1)
    | (go_at_call 124; go_fit KI.out; rintro e w2 ⟨rfl, rfl⟩))
  all_goals go_wp2_with fail
  all_goals
    refine (putFix_nil (T : Int) w2 (by omega)).mono ?_
    rintro e w3 ⟨a3, c3, rfl, hn3⟩
    rw [Int.toNat_natCast] at hn3
    have O3 := keep hn3.1
    have B3 := keep hn3.2
    clear hn3
    go_wp2_with (first
      | (at_builtin; refine wpList_append_src rfl _ _ 47 rfl w2.heap.size i0 _ Tryz.underlying47 hi hz0 hz1 hz2 rfl _ (8 + 1) (be 8 T ++ [y]) rfl O4.out _ m c l rfl ((HS.out.below b1.out).below B4.out) (by omega) B4.out.size ?_; intro v5 w5 ho5 hg5; have B5 := keep (B4.out.grown hg5 B4.out.size (fun j hj => (O4.out.lt j hj).1)); have O5 := keep ho5; clear ho5 hg5)
      | (at_builtin; (refine wpList_append_src rfl _ _ 47 rfl w2.heap.size i0 _ Tryz.underlying47 hi hz0 hz1 hz2 rfl _ 8 (be 8 T) rfl (by exact O3.out.alloc _) _ 1 1 [y] rfl (by first | exact Src.built _ _ | exact Src.builtI _ _ _ hyA.out) (by omega) (le_alloc B3.out.size _) ?_; intro v4 w4 ho4 hg4; have B4 := keep ((B3.out.alloc B3.out.size _).grown hg4 (le_alloc B3.out.size _) (fun j hj => (O3.out.lt j hj).1)); have O4 := keep ho4; clear ho4 hg4)))
    go_ret2
    refine ⟨_, rfl, ?_⟩
    rw [hmk.out, show 9 + m = 8 + 1 + m by omega]
    exact New.after b1.out ⟨O5.out, B5.out⟩
end Go.Proofs.YtogphpejdnhnjaaGreatDoor
namespace Go.Proofs.YtogphpejdnhnjaaGreatDoor
open Go.RowKit


set_option maxHeartbeats 1000000 in
set_option maxRecDepth 100000 in
theorem num_no (t a n : Int) (b : Addr) (w : World) (hn : n < 9223372036854775808) (h : ¬ NumFit t a n) (hg : ErrIs w b) :
    Calls Tryz.prog 26 #[.int .i64 t, .int .i64 a, .int .i64 n] w fun e w' => e = .returned (.tuple #[.slice none 0 0, .int .i64 1]) ∧ Below w.heap.size w w' := by
  have HG := keep hg
  clear hg
  by_cases e1 : n < 0
  · clear h
    go_enter Tryz.func26, Tryz.ntmps26
    go_wp2
    go_ret2
    exact ⟨rfl, Below.refl _ _⟩
  by_cases e2 : 1099511627776 < n
  · clear h
    go_enter Tryz.func26, Tryz.ntmps26
    go_wp2
    go_ret2
    exact ⟨rfl, Below.refl _ _⟩
  have hf : ¬ Fit t a 8 := fun hf => h ⟨hf.1, hf.2.1, by omega, by omega⟩
  have HF := keep hf
  clear h hf
  go_enter Tryz.func26, Tryz.ntmps26
  go_wp2_with fail
  refine (putFix_nil n _ hn).mono ?_
  rintro e w1 ⟨a1, c1, rfl, hn1⟩
  have b1 := keep hn1.2
  clear hn1
  go_wp2_with fail
  refine (make_no t a a1 8 c1 b w1 HF.out (HG.out.below b1.out)).mono ?_
  rintro e w2 ⟨rfl, hb2⟩
  have b2 := keep (b1.out.trans (hb2.mono b1.out.size))
  clear hb2
  go_wp2
  go_ret2
  exact ⟨rfl, b2.out⟩

set_option maxHeartbeats 1000000 in
set_option maxRecDepth 100000 in
theorem num_yes (T A N : Nat) (b : Addr) (w : World) (h1 : T ≤ 1099511627776) (h2 : A ≤ 255) (h3 : N ≤ 1099511627776) (hg : ErrIs w b) :
    Calls Tryz.prog 26 #[.int .i64 (T : Int), .int .i64 (A : Int), .int .i64 (N : Int)] w fun e w' => ∃ v, e = .returned (.tuple #[v, .int .i64 0]) ∧ New w w' v 17 (mk T A (be 8 N)) := by
  have HG := keep hg
  have e1 : ¬ ((N : Int) < 0) := by omega
  have e2 : ¬ (1099511627776 < (N : Int)) := by omega
  clear hg
  go_enter Tryz.func26, Tryz.ntmps26
  go_wp2_with fail
  refine (putFix_nil (N : Int) _ (by omega)).mono ?_
  rintro e w1 ⟨a1, c1, rfl, hn1⟩
  rw [Int.toNat_natCast] at hn1
  have b1 := keep hn1.2
  obtain ⟨_, _, he, s1, _⟩ := hn1.src
  cases he
  have S1 := keep s1
  clear hn1 s1
  go_wp2_with fail
  refine (make_yes T A a1 8 c1 (be 8 N) b w1 h1 h2 (by omega) S1.out (HG.out.below b1.out)).mono ?_
  rintro e w2 ⟨v2, rfl, hn2⟩
  have HN2 := keep (hn2.after b1.out)
  clear hn2
  go_wp2
  go_ret2
  exact ⟨_, rfl, HN2.out⟩
end Go.Proofs.YtogphpejdnhnjaaGreatDoor
