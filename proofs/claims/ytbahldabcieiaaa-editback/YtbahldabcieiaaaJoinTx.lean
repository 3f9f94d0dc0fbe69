/- The walk of code.lay over bytes. -/
/- The walk of code.groups. -/
/- The walk of code.PutNum. -/
/- This cut has no Same over bytes; no walk. -/
/- The walks of code.lay over a text, code.PutText, and of the document's PutText. -/
import Derived.Test.YtbahldabcieiaaaF
import Derived.Test.YtbahldabcieiaaaL
import Derived.Lib.AppendStr
namespace Go.Proofs.Ytbahldabcieiaaa
open Go.RowKit

set_option maxHeartbeats 1000000 in
set_option maxRecDepth 100000 in
theorem layB_any (ao : Option Addr) (m c : Nat) (l : List UInt8) (ao2 : Option Addr) (m2 c2 : Nat) (l2 : List UInt8) (w : World) (hm : m + m2 ≤ 140737488355328) (hs : Src w ao m c l) (hs2 : Src w ao2 m2 c2 l2) :
    Calls Try.prog 80 #[.slice ao m c, .slice ao2 m2 c2] w fun e w' => ∃ v, e = .returned v ∧ New w w' v (m + m2) (l ++ l2) := by
  obtain ⟨i0, hi, hz0, hz1, hz2⟩ := info_parts info5
  have HS := keep hs
  have HS2 := keep hs2
  clear hs hs2
  go_enter Try.func80, Try.ntmps80
  go_wp2_with (first
    | (at_make; go_loud (refine wpList_make_own _ rfl _ _ 26 rfl w.heap.size 5 i0 (.int .u8 0) 1 Try.underlying26 hi hz0 hz1 .i64 .i64 _ (m + m2) rfl rfl (by omega) (by rw [hz2]; omega) (by unfold maxLen; omega) (Nat.le_refl _) ?_); intro w1 hown hgrow; have hb1 := keep ((Below.refl w.heap.size w).grown hgrow (Nat.le_refl _) (fun k h => by cases h)); have ho1 := keep hown; clear hown hgrow)
    | (at_builtin; (refine wpList_append_src rfl _ _ 26 rfl w.heap.size i0 _ Try.underlying26 hi hz0 hz1 hz2 rfl _ m l rfl ho2.out _ m2 c2 l2 rfl (HS2.out.below hb2.out) (by omega) hb2.out.size ?_); intro v3 w3 ho3 hg3; have hb3 := keep (hb2.out.grown hg3 hb2.out.size (fun j hj => (ho2.out.lt j hj).1)); have ho3' := keep ho3; clear ho3 hg3 ho2)
    | (at_builtin; (refine wpList_append_src rfl _ _ 26 rfl w.heap.size i0 _ Try.underlying26 hi hz0 hz1 hz2 rfl _ 0 [] rfl ho1.out _ m c l rfl (HS.out.below hb1.out) (by omega) hb1.out.size ?_); intro v2 w2 ho2' hg2; have hb2 := keep (hb1.out.grown hg2 hb1.out.size (fun j hj => (ho1.out.lt j hj).1)); have ho2 := keep ho2'; simp only [Nat.zero_add, List.nil_append] at ho2; clear ho2' hg2 ho1 hb1))
  go_ret
  exact ⟨_, rfl, ho3'.out, hb3.out⟩
end Go.Proofs.Ytbahldabcieiaaa
namespace Go.Proofs.Ytbahldabcieiaaa
open Go.RowKit

/-- What a number counts as: from 0 to 2^62 - 1. -/
def cl (n : Int) : Nat := (min (max n 0) 4611686018427387903).toNat
theorem cl_le (n : Int) : cl n ≤ 4611686018427387903 := by unfold cl; omega
theorem num_cons {n : Nat} (h : 128 ≤ n) (p : List UInt8) : p ++ num n = (p ++ [UInt8.ofNat (128 + n % 128)]) ++ num (n / 128) := by rw [num_great h]; simp
theorem or128b : ∀ k : Nat, k < 256 → (k ||| 128) = 128 + k % 128 := by decide +kernel
theorem or128 (n : Nat) : bits .or .u8 ((n : Int) % 256) 128 = ((UInt8.ofNat (128 + n % 128)).toNat : Int) := by
  rw [ofNat_group]
  have h := u8_or_nat (n % 256) 128 (by omega) (by omega)
  rw [or128b _ (by omega)] at h
  have e : ((n % 256 : Nat) : Int) = (n : Int) % 256 := by omega
  rw [e] at h
  rw [show (128 : Int) = ((128 : Nat) : Int) from rfl, h]
  omega
theorem num9 (n : Int) : (num (cl n)).length ≤ 9 := len_le 8 _ (by have := cl_le n; have e : (128 : Nat) ^ (8 + 1) = 9223372036854775808 := rfl; omega)

set_option maxHeartbeats 1000000 in
set_option maxRecDepth 100000 in
theorem groups_any (n : Int) (w : World) :
    Calls Try.prog 81 #[.int .i64 n] w fun e w' => ∃ v, e = .returned v ∧ New w w' v (num (cl n)).length (num (cl n)) := by
  obtain ⟨i0, hi, hz0, hz1, hz2⟩ := info_parts info5
  have h9 := num9 n
  go_enter Try.func81, Try.ntmps81
  go_wp2
  all_goals
    go_loopw [0, 3] (fun i v wr => ∃ (p : List UInt8) (k N : Nat), N ≤ 4611686018427387903 ∧ i = .int .i64 (N : Int) ∧ p.length = k ∧ Hid (num (cl n) = p ++ num N) ∧ Hid (wr.ownsRow w.heap.size 5 1 v k (bv p)) ∧ Hid (Below w.heap.size w wr)) (fun i _ _ => (intOf i).toNat)
    case atStart =>
      exact ⟨[], 0, cl n, cl_le n, by unfold cl; congr 1; omega, rfl, rfl, World.ownsRow_nil _ _ _ _, Below.refl _ _⟩
    case round =>
      obtain ⟨p, k, N, hN, rfl, hpk, hp, ho, hb⟩ := hrel
      have hk9 : k < 9 := by
        have h1 := congrArg List.length hp.out
        have h2 := num_pos N
        rw [List.length_append, hpk] at h1
        omega
      by_cases hlt : 128 ≤ N
      · have hb1 := or128 N
        have hp' : Hid (num (cl n) = (p ++ [UInt8.ofNat (128 + N % 128)]) ++ num (N / 128)) := by rw [← num_cons hlt]; exact hp.out
        obtain ⟨y, hy⟩ : ∃ y : UInt8, UInt8.ofNat (128 + N % 128) = y := ⟨_, rfl⟩
        rw [hy] at hb1 hp'
        clear hy
        go_wp2_with (at_builtin; refine wpList_append_src rfl _ _ 26 rfl w.heap.size i0 _ Try.underlying26 hi hz0 hz1 hz2 rfl _ k p rfl (by exact ho.out.alloc _) _ 1 1 [y] rfl (Src.built _ _) (by omega) (le_alloc hb.out.size _) ?_; intro v2 w2 ho2 hg2; have hb3 := keep ((hb.out.alloc hb.out.size _).grown hg2 (le_alloc hb.out.size _) (fun j hj => (ho.out.lt j hj).1)); have ho3 := keep ho2; clear ho2 hg2)
        go_roundw
        case rel => exact ⟨_, k + 1, N / 128, by omega, by first | rfl | (congr 1; omega), by simp [hpk], hp', ho3, hb3⟩
        case measure => simp [intOf]; omega
      · have hl : (num (cl n)).length = k + 1 := by rw [hp.out, List.length_append, hpk, len_small (by omega)]
        have hq : Hid (num (cl n) = p ++ [UInt8.ofNat N]) := hp.out.trans (by rw [num_small (by omega)])
        have hx : Hid ((N : Int) = ((UInt8.ofNat N).toNat : Int)) := by rw [ofNat_last (by omega)]; exact rfl
        obtain ⟨y, hy⟩ : ∃ y : UInt8, UInt8.ofNat N = y := ⟨_, rfl⟩
        rw [hy] at hx hq
        clear hy
        go_wp2_with (at_builtin; refine wpList_append_src rfl _ _ 26 rfl w.heap.size i0 _ Try.underlying26 hi hz0 hz1 hz2 rfl _ k p rfl (by exact ho.out.alloc _) _ 1 1 [y] rfl (Src.builtI _ _ _ hx.out) (by omega) (le_alloc hb.out.size _) ?_; intro v2 w2 ho2 hg2; have hb3 := keep ((hb.out.alloc hb.out.size _).grown hg2 (le_alloc hb.out.size _) (fun j hj => (ho.out.lt j hj).1)); have ho3 := keep ho2; clear ho2 hg2)
        go_ret
        rw [hl, hq.out]
        exact ⟨_, rfl, ho3.out, hb3.out⟩
end Go.Proofs.Ytbahldabcieiaaa
namespace Go.Proofs.Ytbahldabcieiaaa
open Go.RowKit

set_option maxHeartbeats 1000000 in
set_option maxRecDepth 100000 in
theorem putNum_any (ao : Option Addr) (m c : Nat) (l : List UInt8) (n : Int) (w : World) (hm : m + 9 ≤ 140737488355328) (hs : Src w ao m c l) :
    Calls Try.prog 54 #[.slice ao m c, .int .i64 n] w fun e w' => ∃ v, e = .returned v ∧ New w w' v (m + (num (cl n)).length) (l ++ num (cl n)) := by
  have h9 := num9 n
  have HS := keep hs
  clear hs
  go_enter Try.func54, Try.ntmps54
  go_wp2_with fail
  refine (groups_any n _).mono ?_
  rintro e w1 ⟨v1, rfl, hn1⟩
  have HN := keep hn1
  obtain ⟨a1, c1, rfl, hs1, _⟩ := hn1.src
  have HS1 := keep hs1
  clear hs1 hn1
  go_wp2_with fail
  refine (layB_any ao m c l a1 _ c1 _ w1 (by omega) (HS.out.below HN.out.2) HS1.out).mono ?_
  rintro e w2 ⟨v2, rfl, hn2⟩
  have HN2 := keep (hn2.after HN.out.2)
  clear hn2
  go_wp2
  go_ret
  exact ⟨_, rfl, HN2.out⟩

theorem putNum_nil (n : Int) (w : World) : Calls Try.prog 54 #[.slice none 0 0, .int .i64 n] w fun e w' => ∃ ao c, e = .returned (.slice ao (num (cl n)).length c) ∧ New w w' (.slice ao (num (cl n)).length c) (num (cl n)).length (num (cl n)) :=
  (putNum_any none 0 0 [] n w (by omega) (src_nil w)).mono fun e w' ⟨v, he, h⟩ => by
    simp only [Nat.zero_add, List.nil_append] at h
    obtain ⟨ao, c, rfl, _, _⟩ := h.src
    exact ⟨ao, c, he, h⟩
end Go.Proofs.Ytbahldabcieiaaa

namespace Go.Proofs.Ytbahldabcieiaaa
open Go.RowKit

theorem cl_of' (m : Nat) (h : m ≤ 140737488355328) : cl (m : Int) = m := by unfold cl; omega
theorem num_le' (n : Nat) (h : n ≤ 4611686018427387903) : (num n).length ≤ 9 := len_le 8 _ (by have e : (128 : Nat) ^ (8 + 1) = 9223372036854775808 := rfl; omega)
theorem str_list (s : ByteArray) : (⟨s.data.toList.toArray⟩ : ByteArray) = s := by cases s; simp

set_option maxHeartbeats 1000000 in
set_option maxRecDepth 100000 in
theorem layS_any (ao : Option Addr) (m c : Nat) (l : List UInt8) (s : ByteArray) (m2 : Nat) (l2 : List UInt8) (w : World) (hl2 : l2.length = m2) (hsl : s = ⟨l2.toArray⟩) (hm : m + m2 ≤ 140737488355328) (hs : Src w ao m c l) :
    Calls Try.prog 82 #[.slice ao m c, .string s] w fun e w' => ∃ v, e = .returned v ∧ New w w' v (m + m2) (l ++ l2) := by
  obtain ⟨i0, hi, hz0, hz1, hz2⟩ := info_parts info5
  have HS := keep hs
  have hsz : s.size = m2 := by rw [hsl]; exact hl2
  have HSL := keep hsl
  clear hs hsl
  go_enter Try.func82, Try.ntmps82
  go_wp2_with (first
    | (at_make; refine wpList_make_own _ rfl _ _ 26 rfl w.heap.size 5 i0 (.int .u8 0) 1 Try.underlying26 hi hz0 hz1 .i64 .i64 _ (m + m2) rfl rfl (by omega) (by rw [hz2]; omega) (by unfold maxLen; omega) (Nat.le_refl _) ?_; intro w1 hown hgrow; have hb1 := keep ((Below.refl w.heap.size w).grown hgrow (Nat.le_refl _) (fun k h => by cases h)); have ho1 := keep hown; clear hown hgrow)
    | (at_builtin; refine wpList_append_own_string_if (by rfl) _ _ 26 9 rfl w.heap.size i0 Try.underlying26 Try.underlying9 hi hz0 hz1 hz2 _ m l l2 m2 rfl ho2.out (by rw [HSL.out]; rfl) hl2 (by omega) hb2.out.size ?_; intro v3 w3 ho3 hg3; have hb3 := keep (hb2.out.grown hg3 hb2.out.size (fun j hj => (ho2.out.lt j hj).1)); have ho3' := keep ho3; clear ho3 hg3 ho2)
    | (at_builtin; refine wpList_append_src rfl _ _ 26 rfl w.heap.size i0 _ Try.underlying26 hi hz0 hz1 hz2 rfl _ 0 [] rfl ho1.out _ m c l rfl (HS.out.below hb1.out) (by omega) hb1.out.size ?_; intro v2 w2 ho2' hg2; have hb2 := keep (hb1.out.grown hg2 hb1.out.size (fun j hj => (ho1.out.lt j hj).1)); have ho2 := keep ho2'; simp only [Nat.zero_add, List.nil_append] at ho2; clear ho2' hg2 ho1 hb1))
  go_ret
  exact ⟨_, rfl, ho3'.out, hb3.out⟩

set_option maxHeartbeats 1000000 in
set_option maxRecDepth 100000 in
theorem putText_any (ao : Option Addr) (m c : Nat) (l : List UInt8) (s : ByteArray) (m2 : Nat) (l2 : List UInt8) (w : World) (hl2 : l2.length = m2) (hsl : s = ⟨l2.toArray⟩) (hm : m + m2 + 9 ≤ 140737488355328) (hs : Src w ao m c l) :
    Calls Try.prog 55 #[.slice ao m c, .string s] w fun e w' => ∃ v, e = .returned v ∧ New w w' v (m + ((num m2).length + m2)) (l ++ (num m2 ++ l2)) := by
  have h9 := num_le' m2 (by omega)
  have KP := keep (putNum_any ao m c l (m2 : Int) w (by omega) hs)
  rw [cl_of' m2 (by omega)] at KP
  have hsz : s.size = m2 := by rw [hsl]; exact hl2
  have HSL := keep hsl
  clear hs hsl
  go_enter Try.func55, Try.ntmps55
  go_wp2_with fail
  go_fit KP.out
  rintro e w1 ⟨v1, rfl, hn1⟩
  obtain ⟨a1, c1, rfl, hs1, _⟩ := hn1.src
  have b1 := keep hn1.2
  have S1 := keep hs1
  clear hn1 hs1 KP
  go_wp2_with fail
  refine (layS_any a1 _ c1 _ s m2 l2 w1 hl2 HSL.out (by omega) S1.out).mono ?_
  rintro e w2 ⟨v2, rfl, hn2⟩
  have N2 := keep (hn2.after b1.out)
  clear hn2 b1 S1
  go_wp2
  go_ret
  refine ⟨_, rfl, ?_⟩
  rw [← Nat.add_assoc, ← List.append_assoc]
  exact N2.out

end Go.Proofs.Ytbahldabcieiaaa
