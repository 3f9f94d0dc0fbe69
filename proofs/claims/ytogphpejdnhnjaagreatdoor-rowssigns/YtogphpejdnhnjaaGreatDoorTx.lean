/- The walks of code.lay over a text, code.PutText, and of the document's PutText. -/
import Derived.Test.YtogphpejdnhnjaaGreatDoorJoinEci
import Derived.Lib.AppendStr
namespace Go.Proofs.YtogphpejdnhnjaaGreatDoor
open Go.RowKit

theorem cl_of' (m : Nat) (h : m ≤ 140737488355328) : cl (m : Int) = m := by unfold cl; omega
theorem num_le' (n : Nat) (h : n ≤ 4611686018427387903) : (num n).length ≤ 9 := len_le 8 _ (by have e : (128 : Nat) ^ (8 + 1) = 9223372036854775808 := rfl; omega)
theorem str_list (s : ByteArray) : (⟨s.data.toList.toArray⟩ : ByteArray) = s := by cases s; simp

set_option maxHeartbeats 1000000 in
set_option maxRecDepth 100000 in
theorem layS_any (ao : Option Addr) (m c : Nat) (l : List UInt8) (s : ByteArray) (m2 : Nat) (l2 : List UInt8) (w : World) (hl2 : l2.length = m2) (hsl : s = ⟨l2.toArray⟩) (hm : m + m2 ≤ 140737488355328) (hs : Src w ao m c l) :
    Calls Tryz.prog 27 #[.slice ao m c, .string s] w fun e w' => ∃ v, e = .returned v ∧ New w w' v (m + m2) (l ++ l2) := by
  obtain ⟨i0, hi, hz0, hz1, hz2⟩ := info_parts info5
  have HS := keep hs
  have hsz : s.size = m2 := by rw [hsl]; exact hl2
  have HSL := keep hsl
  clear hs hsl
  go_enter Tryz.func27, Tryz.ntmps27
  go_wp2_with (first
    | (at_make; refine wpList_make_own _ rfl _ _ 47 rfl w.heap.size 5 i0 (.int .u8 0) 1 Tryz.underlying47 hi hz0 hz1 .i64 .i64 _ (m + m2) rfl rfl (by omega) (by rw [hz2]; omega) (by unfold maxLen; omega) (Nat.le_refl _) ?_; intro w1 hown hgrow; have hb1 := keep ((Below.refl w.heap.size w).grown hgrow (Nat.le_refl _) (fun k h => by cases h)); have ho1 := keep hown; clear hown hgrow)
    | (at_builtin; refine wpList_append_own_string_if (by rfl) _ _ 47 9 rfl w.heap.size i0 Tryz.underlying47 Tryz.underlying9 hi hz0 hz1 hz2 _ m l l2 m2 rfl ho2.out (by rw [HSL.out]; rfl) hl2 (by omega) hb2.out.size ?_; intro v3 w3 ho3 hg3; have hb3 := keep (hb2.out.grown hg3 hb2.out.size (fun j hj => (ho2.out.lt j hj).1)); have ho3' := keep ho3; clear ho3 hg3 ho2)
    | (at_builtin; refine wpList_append_src rfl _ _ 47 rfl w.heap.size i0 _ Tryz.underlying47 hi hz0 hz1 hz2 rfl _ 0 [] rfl ho1.out _ m c l rfl (HS.out.below hb1.out) (by omega) hb1.out.size ?_; intro v2 w2 ho2' hg2; have hb2 := keep (hb1.out.grown hg2 hb1.out.size (fun j hj => (ho1.out.lt j hj).1)); have ho2 := keep ho2'; simp only [Nat.zero_add, List.nil_append] at ho2; clear ho2' hg2 ho1 hb1))
  go_ret
  exact ⟨_, rfl, ho3'.out, hb3.out⟩

set_option maxHeartbeats 1000000 in
set_option maxRecDepth 100000 in
theorem putText_any (ao : Option Addr) (m c : Nat) (l : List UInt8) (s : ByteArray) (m2 : Nat) (l2 : List UInt8) (w : World) (hl2 : l2.length = m2) (hsl : s = ⟨l2.toArray⟩) (hm : m + m2 + 9 ≤ 140737488355328) (hs : Src w ao m c l) :
    Calls Tryz.prog 12 #[.slice ao m c, .string s] w fun e w' => ∃ v, e = .returned v ∧ New w w' v (m + ((num m2).length + m2)) (l ++ (num m2 ++ l2)) := by
  have h9 := num_le' m2 (by omega)
  have KP := keep (putNum_any ao m c l (m2 : Int) w (by omega) hs)
  rw [cl_of' m2 (by omega)] at KP
  have hsz : s.size = m2 := by rw [hsl]; exact hl2
  have HSL := keep hsl
  clear hs hsl
  go_enter Tryz.func12, Tryz.ntmps12
  go_wp2_with fail
  go_fit KP.out
  rintro e w1 ⟨v1, rfl, hn1⟩
  obtain ⟨a1, c1, rfl, hs1, _⟩ := hn1.src
  have b1 := keep hn1.2
  have S1 := keep hs1
  clear hn1 hs1 KP
  go_wp2_with fail
  refine (layS_any a1 _ c1 _ s m2 l2 w1 hl2 HSL.out (by omega) S1.out).mono ?_
  rintro e w2 ⟨v2, rfl, hn2⟩
  have N2 := keep (hn2.after b1.out)
  clear hn2 b1 S1
  go_wp2
  go_ret
  refine ⟨_, rfl, ?_⟩
  rw [← Nat.add_assoc, ← List.append_assoc]
  exact N2.out

end Go.Proofs.YtogphpejdnhnjaaGreatDoor
