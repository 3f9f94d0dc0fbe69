/- The walk of code.groups. -/
import Derived.Test.YthaiodajfmbeaaaGreatLb
namespace Go.Proofs.YthaiodajfmbeaaaGreat
open Go.RowKit

/-- What a number counts as: from 0 to 2^62 - 1. -/
def cl (n : Int) : Nat := (min (max n 0) 4611686018427387903).toNat
theorem cl_le (n : Int) : cl n ≤ 4611686018427387903 := by unfold cl; omega
theorem num_cons {n : Nat} (h : 128 ≤ n) (p : List UInt8) : p ++ num n = (p ++ [UInt8.ofNat (128 + n % 128)]) ++ num (n / 128) := by rw [num_great h]; simp
theorem or128b : ∀ k : Nat, k < 256 → (k ||| 128) = 128 + k % 128 := by decide +kernel
theorem or128 (n : Nat) : bits .or .u8 ((n : Int) % 256) 128 = ((UInt8.ofNat (128 + n % 128)).toNat : Int) := by
  rw [ofNat_group]
  have h := u8_or_nat (n % 256) 128 (by omega) (by omega)
  rw [or128b _ (by omega)] at h
  have e : ((n % 256 : Nat) : Int) = (n : Int) % 256 := by omega
  rw [e] at h
  rw [show (128 : Int) = ((128 : Nat) : Int) from rfl, h]
  omega
theorem num9 (n : Int) : (num (cl n)).length ≤ 9 := len_le 8 _ (by have := cl_le n; have e : (128 : Nat) ^ (8 + 1) = 9223372036854775808 := rfl; omega)

set_option maxHeartbeats 1000000 in
set_option maxRecDepth 100000 in
theorem groups_any (n : Int) (w : World) :
    Calls Tryz.prog 87 #[.int .i64 n] w fun e w' => ∃ v, e = .returned v ∧ New w w' v (num (cl n)).length (num (cl n)) := by
  obtain ⟨i0, hi, hz0, hz1, hz2⟩ := info_parts info5
  have h9 := num9 n
  go_enter Tryz.func87, Tryz.ntmps87
  go_wp2
  all_goals
    go_loopw [0, 3] (fun i v wr => ∃ (p : List UInt8) (k N : Nat), N ≤ 4611686018427387903 ∧ i = .int .i64 (N : Int) ∧ p.length = k ∧ Hid (num (cl n) = p ++ num N) ∧ Hid (wr.ownsRow w.heap.size 5 1 v k (bv p)) ∧ Hid (Below w.heap.size w wr)) (fun i _ _ => (intOf i).toNat)
    case atStart =>
      exact ⟨[], 0, cl n, cl_le n, by unfold cl; congr 1; omega, rfl, rfl, World.ownsRow_nil _ _ _ _, Below.refl _ _⟩
    case round =>
      obtain ⟨p, k, N, hN, rfl, hpk, hp, ho, hb⟩ := hrel
      have hk9 : k < 9 := by
        have h1 := congrArg List.length hp.out
        have h2 := num_pos N
        rw [List.length_append, hpk] at h1
        omega
      by_cases hlt : 128 ≤ N
      · have hb1 := or128 N
        have hp' : Hid (num (cl n) = (p ++ [UInt8.ofNat (128 + N % 128)]) ++ num (N / 128)) := by rw [← num_cons hlt]; exact hp.out
        obtain ⟨y, hy⟩ : ∃ y : UInt8, UInt8.ofNat (128 + N % 128) = y := ⟨_, rfl⟩
        rw [hy] at hb1 hp'
        clear hy
        go_wp2_with (at_builtin; refine wpList_append_src rfl _ _ 22 rfl w.heap.size i0 _ Tryz.underlying22 hi hz0 hz1 hz2 rfl _ k p rfl (by exact ho.out.alloc _) _ 1 1 [y] rfl (Src.built _ _) (by omega) (le_alloc hb.out.size _) ?_; intro v2 w2 ho2 hg2; have hb3 := keep ((hb.out.alloc hb.out.size _).grown hg2 (le_alloc hb.out.size _) (fun j hj => (ho.out.lt j hj).1)); have ho3 := keep ho2; clear ho2 hg2)
        go_roundw
        case rel => exact ⟨_, k + 1, N / 128, by omega, by first | rfl | (congr 1; omega), by simp [hpk], hp', ho3, hb3⟩
        case measure => simp [intOf]; omega
      · have hl : (num (cl n)).length = k + 1 := by rw [hp.out, List.length_append, hpk, len_small (by omega)]
        have hq : Hid (num (cl n) = p ++ [UInt8.ofNat N]) := hp.out.trans (by rw [num_small (by omega)])
        have hx : Hid ((N : Int) = ((UInt8.ofNat N).toNat : Int)) := by rw [ofNat_last (by omega)]; exact rfl
        obtain ⟨y, hy⟩ : ∃ y : UInt8, UInt8.ofNat N = y := ⟨_, rfl⟩
        rw [hy] at hx hq
        clear hy
        go_wp2_with (at_builtin; refine wpList_append_src rfl _ _ 22 rfl w.heap.size i0 _ Tryz.underlying22 hi hz0 hz1 hz2 rfl _ k p rfl (by exact ho.out.alloc _) _ 1 1 [y] rfl (Src.builtI _ _ _ hx.out) (by omega) (le_alloc hb.out.size _) ?_; intro v2 w2 ho2 hg2; have hb3 := keep ((hb.out.alloc hb.out.size _).grown hg2 (le_alloc hb.out.size _) (fun j hj => (ho.out.lt j hj).1)); have ho3 := keep ho2; clear ho2 hg2)
        go_ret
        rw [hl, hq.out]
        exact ⟨_, rfl, ho3.out, hb3.out⟩
end Go.Proofs.YthaiodajfmbeaaaGreat
