/- The walk of code.PutFrame. -/
import Derived.Test.YtohnfogdalnilaaGreatDoorH
import Derived.Test.YtohnfogdalnilaaGreatDoorCr
namespace Go.Proofs.YtohnfogdalnilaaGreatDoor
open Go.RowKit

/-- The bytes of a frame. -/
def frame (body : List UInt8) : List UInt8 := num body.length ++ (be 4 (crc (num body.length ++ body)).toNat ++ body)
theorem num_le (n : Nat) (h : n ≤ 4611686018427387903) : (num n).length ≤ 9 := len_le 8 _ (by have e : (128 : Nat) ^ (8 + 1) = 9223372036854775808 := rfl; omega)
theorem frame_length (body : List UInt8) : (frame body).length = (num body.length).length + 4 + body.length := by
  unfold frame
  rw [List.length_append, List.length_append, be_length]
  omega
theorem cl_of (m : Nat) (h : m ≤ 140737488355328) : cl (m : Int) = m := by unfold cl; omega
theorem u64_U (x : UInt32) : IntKind.u64.wrap (U x) = U x := by
  have h1 := U_lo x
  have h2 := U_hi x
  rw [IntKind.wrap_u64]
  omega

set_option maxHeartbeats 1000000 in
set_option maxRecDepth 100000 in
theorem putFrame_any (ao : Option Addr) (m c : Nat) (l : List UInt8) (ao2 : Option Addr) (m2 c2 : Nat) (body : List UInt8) (w : World) (hm : m + m2 + 13 ≤ 140737488355328) (hs : Src w ao m c l) (hs2 : Src w ao2 m2 c2 body) :
    Calls Tryz.prog 51 #[.slice ao m c, .slice ao2 m2 c2] w fun e w' => ∃ v, e = .returned v ∧ New w w' v (m + (frame body).length) (l ++ frame body) := by
  have HS := keep hs
  have HS2 := keep hs2
  have hll := hs2.len
  clear hs hs2
  have hcl := cl_of m2 (by omega)
  have h9 := num_le m2 (by omega)
  obtain ⟨H, hH⟩ : ∃ H, num m2 = H := ⟨_, rfl⟩
  have HF : Hid (frame body = H ++ (be 4 (crc (H ++ body)).toNat ++ body)) := by rw [← hH, ← hll]; exact rfl
  have KG := keep (groups_any (m2 : Int) w)
  rw [hcl, hH] at KG
  rw [hH] at h9
  obtain ⟨X, hX⟩ : ∃ X, crc (H ++ body) = X := ⟨_, rfl⟩
  have HX := keep hX
  rw [hX] at HF
  have hu := u64_U X
  clear hH hX
  go_enter Tryz.func51, Tryz.ntmps51
  go_wp2_with fail
  refine KG.out.mono ?_
  rintro e w1 ⟨v1, rfl, hn1⟩
  obtain ⟨a1, c1, rfl, hs1, _⟩ := hn1.src
  have b1 := keep hn1.2
  have S1 := keep hs1
  clear hn1 hs1 KG
  go_wp2_with fail
  refine (crcOf_any a1 _ c1 H ao2 m2 c2 body w1 (by omega) (by omega) S1.out (HS2.out.below b1.out)).mono ?_
  rintro e w2 ⟨rfl, hb2⟩
  rw [HX.out]
  have b2 := keep (b1.out.trans (hb2.mono b1.out.size))
  have S2 := keep (S1.out.below hb2)
  clear hb2 b1 S1
  go_wp2_with fail
  refine (highFirst_any X.toNat 4 w2 (by omega) (by have := X.toNat_lt; omega)).mono ?_
  rintro e w3 ⟨v3, rfl, hn3⟩
  obtain ⟨a3, c3, rfl, hs3, _⟩ := hn3.src
  have b3 := keep (b2.out.trans (hn3.2.mono b2.out.size))
  have S3 := keep (S2.out.below hn3.2)
  have T3 := keep hs3
  clear hn3 hs3 b2 S2
  go_wp2_with fail
  refine (layB_any ao m c l a1 _ c1 H w3 (by omega) (HS.out.below b3.out) S3.out).mono ?_
  rintro e w4 ⟨v4, rfl, hn4⟩
  obtain ⟨a4, c4, rfl, hs4, _⟩ := hn4.src
  have b4 := keep (b3.out.trans (hn4.2.mono b3.out.size))
  have T4 := keep (T3.out.below hn4.2)
  have V4 := keep hs4
  clear hn4 hs4 b3 S3 T3
  go_wp2_with fail
  refine (layB_any a4 _ c4 (l ++ H) a3 4 c3 _ w4 (by omega) V4.out T4.out).mono ?_
  rintro e w5 ⟨v5, rfl, hn5⟩
  obtain ⟨a5, c5, rfl, hs5, _⟩ := hn5.src
  have b5 := keep (b4.out.trans (hn5.2.mono b4.out.size))
  have V5 := keep hs5
  clear hn5 hs5 b4 T4 V4
  go_wp2_with fail
  refine (layB_any a5 _ c5 (l ++ H ++ be 4 X.toNat) ao2 m2 c2 body w5 (by omega) V5.out (HS2.out.below b5.out)).mono ?_
  rintro e w6 ⟨v6, rfl, hn6⟩
  have N6 := keep (hn6.after b5.out)
  clear hn6 b5 V5
  go_wp2
  go_ret
  refine ⟨_, rfl, ?_⟩
  have hfl : m + (frame body).length = m + H.length + 4 + m2 := by
    rw [HF.out, List.length_append, List.length_append, be_length, hll]; omega
  rw [hfl, HF.out]
  have := N6.out
  rw [List.append_assoc, List.append_assoc] at this
  exact this
end Go.Proofs.YtohnfogdalnilaaGreatDoor
