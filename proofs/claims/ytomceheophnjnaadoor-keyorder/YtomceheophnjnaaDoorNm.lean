/- The walk of key.Num. -/
import Derived.Test.YtomceheophnjnaaDoorMy
namespace Go.Proofs.YtomceheophnjnaaDoor
open Go.RowKit


set_option maxHeartbeats 1000000 in
set_option maxRecDepth 100000 in
theorem num_no (t a n : Int) (b : Addr) (w : World) (hn : n < 9223372036854775808) (h : ¬ NumFit t a n) (hg : Own w b) :
    Calls Tryd.prog 9 #[.int .i64 t, .int .i64 a, .int .i64 n] w fun e w' => e = .returned (.tuple #[.slice none 0 0, .int .i64 1]) ∧ Below w.heap.size w w' := by
  have HG := keep hg
  clear hg
  by_cases e1 : n < 0
  · clear h
    go_enter Tryd.func9, Tryd.ntmps9
    go_wp2
    go_ret2
    exact ⟨rfl, Below.refl _ _⟩
  by_cases e2 : 1099511627776 < n
  · clear h
    go_enter Tryd.func9, Tryd.ntmps9
    go_wp2
    go_ret2
    exact ⟨rfl, Below.refl _ _⟩
  have hf : ¬ Fit t a 8 := fun hf => h ⟨hf.1, hf.2.1, by omega, by omega⟩
  have HF := keep hf
  clear h hf
  go_enter Tryd.func9, Tryd.ntmps9
  go_wp2_with fail
  refine (putFix_nil n _ hn).mono ?_
  rintro e w1 ⟨a1, c1, rfl, hn1⟩
  have b1 := keep hn1.2
  clear hn1
  go_wp2_with fail
  refine (make_no t a a1 8 c1 b w1 HF.out (HG.out.below b1.out)).mono ?_
  rintro e w2 ⟨rfl, hb2⟩
  have b2 := keep (b1.out.trans (hb2.mono b1.out.size))
  clear hb2
  go_wp2
  go_ret2
  exact ⟨rfl, b2.out⟩

set_option maxHeartbeats 1000000 in
set_option maxRecDepth 100000 in
theorem num_yes (T A N : Nat) (b : Addr) (w : World) (h1 : T ≤ 1099511627776) (h2 : A ≤ 255) (h3 : N ≤ 1099511627776) (hg : Own w b) :
    Calls Tryd.prog 9 #[.int .i64 (T : Int), .int .i64 (A : Int), .int .i64 (N : Int)] w fun e w' => ∃ v, e = .returned (.tuple #[v, .int .i64 0]) ∧ New w w' v 17 (mk T A (be 8 N)) := by
  have HG := keep hg
  have e1 : ¬ ((N : Int) < 0) := by omega
  have e2 : ¬ (1099511627776 < (N : Int)) := by omega
  clear hg
  go_enter Tryd.func9, Tryd.ntmps9
  go_wp2_with fail
  refine (putFix_nil (N : Int) _ (by omega)).mono ?_
  rintro e w1 ⟨a1, c1, rfl, hn1⟩
  rw [Int.toNat_natCast] at hn1
  have b1 := keep hn1.2
  obtain ⟨_, _, he, s1, _⟩ := hn1.src
  cases he
  have S1 := keep s1
  clear hn1 s1
  go_wp2_with fail
  refine (make_yes T A a1 8 c1 (be 8 N) b w1 h1 h2 (by omega) S1.out (HG.out.below b1.out)).mono ?_
  rintro e w2 ⟨v2, rfl, hn2⟩
  have HN2 := keep (hn2.after b1.out)
  clear hn2
  go_wp2
  go_ret2
  exact ⟨_, rfl, HN2.out⟩
end Go.Proofs.YtomceheophnjnaaDoor
