/- The walk of the statement that what was put is taken as it was. -/
import Derived.Test.YticglckbjdchjaaXt
import Derived.Test.YticglckbjdchjaaSp
namespace Go.Proofs.Yticglckbjdchjaa
open Go.RowKit

theorem txt_put {s r : List UInt8} {most : Int} (h : s.length < 4611686018427387904) (h2 : (s.length : Int) ≤ most) : txt (num s.length ++ (s ++ r)) most = some (s, r) := by
  have hn := takeNum_put (r := s ++ r) h
  have := txt_yes (most := most) hn ⟨h2, by rw [List.length_append]; omega⟩
  rw [this, List.take_left, List.drop_left]

set_option maxHeartbeats 1000000 in
set_option maxRecDepth 100000 in
theorem back_nn (n : Int) (N : Nat) (s : ByteArray) (m2 : Nat) (l2 : List UInt8) (mm : Int) (M : Nat) (a3 : Option Addr) (m3 c3 : Nat) (body : List UInt8) (a4 : Option Addr) (m4 c4 : Nat) (rest : List UInt8) (w : World) (hb0 : m2 + m3 + m4 ≤ 1048576) (hl2 : l2.length = m2) (hsl : s = ⟨l2.toArray⟩) (hs3 : Src w a3 m3 c3 body) (hs4 : Src w a4 m4 c4 rest) (hM : M < 9223372036854775808) (hN : N ≤ 4611686018427387903) (hn : n < 0 ∧ N = 0) (hm : mm < 0 ∧ M = 0) :
    Calls Try.prog 8 #[.int .i64 n, .string s, .int .i64 mm, .slice a3 m3 c3, .slice a4 m4 c4] w fun e w' => e = .returned (.bool true) ∧ Below w.heap.size w w' := by
  obtain ⟨i0, hi, hz0, hz1, hz2⟩ := info_parts info5
  have hl3 := hs3.len
  have hl4 := hs4.len
  have KP := keep (putNum_nil n w)
  obtain ⟨hn0, hNe⟩ := hn
  have hcl : cl n = N := by unfold cl; omega
  have HNe : Hid ((N : Int) = 0) := by show _ = _; omega
  clear hNe
  obtain ⟨hm0, hMe⟩ := hm
  have hMm : mm.toNat = M := by omega
  have HMe : Hid ((M : Int) = 0) := by show _ = _; omega
  clear hMe
  rw [hcl] at KP
  have hn9 := num_le N hN
  have hm9 := num_le m2 (by omega)
  have hb9 := num_le m3 (by omega)
  have hfl := frame_length body
  rw [hl3] at hfl
  have T1 := keep (takeNum_put (n := N) (r := num m2 ++ l2 ++ (be 8 M ++ (frame body ++ rest))) (by omega))
  have T2 : Hid (txt (num m2 ++ l2 ++ (be 8 M ++ (frame body ++ rest))) (m2 : Int) = some (l2, be 8 M ++ (frame body ++ rest))) := by
    have := txt_put (s := l2) (r := be 8 M ++ (frame body ++ rest)) (most := (m2 : Int)) (by omega) (by omega)
    rw [hl2] at this
    rw [List.append_assoc]
    exact this
  have T4 := keep (tfr_frame (B := body) (R := rest) (most := (m3 : Int)) (by omega) (by omega))
  have h8 := be_length 8 M
  have D8 : Hid ((be 8 M ++ (frame body ++ rest)).drop 8 = frame body ++ rest) := List.drop_left' h8
  have B8 : Hid (big ((be 8 M ++ (frame body ++ rest)).take 8) = M) := by
    rw [List.take_left' h8]
    exact big_be 8 M (by have e : (256 : Nat) ^ 8 = 18446744073709551616 := rfl; omega)
  have z1 : Hid ((num m2 ++ l2 ++ (be 8 M ++ (frame body ++ rest))).length ≤ 140737488355328) := by
    simp only [List.length_append, hl2, hl4, h8]; show _ ≤ _; omega
  have z2 : Hid ((be 8 M ++ (frame body ++ rest)).length ≤ 140737488355328 ∧ 8 ≤ (be 8 M ++ (frame body ++ rest)).length ∧ (be 8 M ++ (frame body ++ rest)).length - 8 = (frame body ++ rest).length) := by
    simp only [List.length_append, hl4, h8]; show _ ∧ _; omega
  have z4 : Hid ((frame body ++ rest).length ≤ 140737488355328) := by
    simp only [List.length_append, hl4]; show _ ≤ _; omega
  have el : Hid (num N ++ (num m2 ++ l2) ++ be 8 M ++ frame body ++ rest = num N ++ (num m2 ++ l2 ++ (be 8 M ++ (frame body ++ rest)))) := by
    show _ = _; simp only [List.append_assoc]
  generalize (num m2 ++ l2 ++ (be 8 M ++ (frame body ++ rest))) = R1 at T1 T2 z1 el
  generalize (be 8 M ++ (frame body ++ rest)) = R2 at T2 D8 B8 z2
  generalize frame body ++ rest = R3 at D8 z2 z4 T4
  have KT := keep (fun a c w' (h : Src w' a (num N).length c (num N)) => putText_any a (num N).length c (num N) s m2 l2 w' hl2 hsl (by omega) h)
  have HSL := keep hsl
  have S3 := keep hs3
  have S4 := keep hs4
  have hsz : s.size = m2 := by rw [hsl]; exact hl2
  clear hs3 hs4 hsl
  go_enter Try.func8, Try.ntmps8
  go_wp2_with fail
  go_fit KP.out
  rintro e w1 ⟨a1, c1, rfl, hn1⟩
  have b1 := keep hn1.2
  obtain ⟨_, _, e1, hs1, _⟩ := hn1.src
  cases e1
  have S1 := keep hs1
  clear hn1 hs1 KP
  go_wp2_with fail
  go_fit (KT.out a1 c1 w1 S1.out)
  rintro e w2 ⟨v2, rfl, hn2⟩
  obtain ⟨x2, y2, rfl, hs2, _⟩ := hn2.src
  have b2 := keep (b1.out.trans (hn2.2.mono b1.out.size))
  have S2 := keep hs2
  clear hn2 hs2 KT b1 S1
  go_wp2_with fail
  refine (putFix_any x2 _ y2 _ mm w2 (by omega) (by omega) S2.out).mono ?_
  rw [hMm]
  rintro e w3 ⟨v3, rfl, hn3⟩
  obtain ⟨x3, y3, rfl, hs3, _⟩ := hn3.src
  have b3 := keep (b2.out.trans (hn3.2.mono b2.out.size))
  have Z3 := keep hs3
  clear hn3 hs3 b2 S2
  go_wp2_with fail
  refine (putFrame_any x3 _ y3 _ a3 m3 c3 body w3 (by omega) Z3.out (S3.out.below b3.out)).mono ?_
  rintro e w4 ⟨v4, rfl, hn4⟩
  have O4 := keep hn4.1
  have B4 := keep hn4.2
  clear hn4 Z3
  go_wp2_with (at_builtin; refine wpList_append_src rfl _ _ 22 rfl w3.heap.size i0 _ Try.underlying22 hi hz0 hz1 hz2 rfl _ ((num N).length + ((num m2).length + m2) + 8 + (frame body).length) (num N ++ (num m2 ++ l2) ++ be 8 M ++ frame body) rfl O4.out _ m4 c4 rest rfl (S4.out.below (b3.out.trans (B4.out.mono b3.out.size))) (by omega) B4.out.size ?_; intro v5 w5 ho5 hg5; have O5 := keep ho5; have b5 := keep (b3.out.trans ((B4.out.grown hg5 B4.out.size (fun j hj => (O4.out.lt j hj).1)).mono b3.out.size)); clear ho5 hg5)
  obtain ⟨x5, y5, rfl, hs5, _⟩ := Src.of_own O5.out
  rw [el.out] at hs5
  have K5 := keep (takeNum_yes (by omega) hs5 T1.out)
  clear hs5 el O5 O4 B4 b3 T1
  go_fit K5.out
  rintro e w6 ⟨x6, y6, rfl, hs6, hb6⟩
  have b6 := keep (b5.out.trans (hb6.mono b5.out.size))
  have K6 := keep (took_yesT (takeText_any x6 _ y6 _ (m2 : Int) w6 z1.out hs6) T2.out)
  clear hs6 hb6 b5 K5 T2
  go_wp2_with fail
  go_fit K6.out
  rintro e w7 ⟨x7, y7, rfl, hs7, hb7⟩
  have b7 := keep (b6.out.trans (hb7.mono b6.out.size))
  have K7 := keep (takeFix_yes z2.out.1 hs7 z2.out.2.1 B8.out hM D8.out z2.out.2.2)
  clear hs7 hb7 b6 K6
  go_wp2_with fail
  go_fit K7.out
  rintro e w8 ⟨x8, y8, rfl, hs8, hb8⟩
  have b8 := keep (b7.out.trans (hb8.mono b7.out.size))
  have K8 := keep (takeFrame_yes z4.out hs8 T4.out)
  clear hs8 hb8 b7 K7
  go_wp2_with fail
  go_fit K8.out
  rintro e w9 ⟨x9, y9, p9, q9, rfl, hs9, ht9, hb9⟩
  have b9 := keep (b8.out.trans (hb9.mono b8.out.size))
  rw [hl3] at hs9
  rw [hl4] at ht9
  have Z9 := keep hs9
  have R9 := keep ht9
  clear hs9 ht9 hb9 b8 K8
  have hbs : Hid ((⟨l2.toArray⟩ : ByteArray) = s) := HSL.out.symm
  rw [hbs.out]
  clear HSL hbs
  have hNi := HNe.out
  have hMi := HMe.out
  go_wp2_with fail
  refine (same_any x9 _ y9 body a3 m3 c3 body w9 Z9.out (S3.out.below b9.out)).mono ?_
  rintro e w10 ⟨rfl, hb10⟩
  have b10 := keep (b9.out.trans (hb10.mono b9.out.size))
  have R10 := keep (R9.out.below hb10)
  clear hb10 b9 Z9 R9
  rw [decide_eq_true rfl]
  go_wp2_with fail
  refine (same_any p9 _ q9 rest a4 m4 c4 rest w10 R10.out (S4.out.below b10.out)).mono ?_
  rintro e w11 ⟨rfl, hb11⟩
  have b11 := keep (b10.out.trans (hb11.mono b10.out.size))
  clear hb11 b10 R10
  rw [decide_eq_true rfl]
  go_wp2
  go_ret
  exact ⟨rfl, b11.out⟩

set_option maxHeartbeats 1000000 in
set_option maxRecDepth 100000 in
theorem back_np (n : Int) (N : Nat) (s : ByteArray) (m2 : Nat) (l2 : List UInt8) (mm : Int) (M : Nat) (a3 : Option Addr) (m3 c3 : Nat) (body : List UInt8) (a4 : Option Addr) (m4 c4 : Nat) (rest : List UInt8) (w : World) (hb0 : m2 + m3 + m4 ≤ 1048576) (hl2 : l2.length = m2) (hsl : s = ⟨l2.toArray⟩) (hs3 : Src w a3 m3 c3 body) (hs4 : Src w a4 m4 c4 rest) (hM : M < 9223372036854775808) (hN : N ≤ 4611686018427387903) (hn : n < 0 ∧ N = 0) (hm : mm = (M : Int)) :
    Calls Try.prog 8 #[.int .i64 n, .string s, .int .i64 mm, .slice a3 m3 c3, .slice a4 m4 c4] w fun e w' => e = .returned (.bool true) ∧ Below w.heap.size w w' := by
  obtain ⟨i0, hi, hz0, hz1, hz2⟩ := info_parts info5
  have hl3 := hs3.len
  have hl4 := hs4.len
  have KP := keep (putNum_nil n w)
  obtain ⟨hn0, hNe⟩ := hn
  have hcl : cl n = N := by unfold cl; omega
  have HNe : Hid ((N : Int) = 0) := by show _ = _; omega
  clear hNe
  subst hm
  have hMm : (M : Int).toNat = M := by omega
  have hm0 : ¬ ((M : Int) < 0) := by omega
  rw [hcl] at KP
  have hn9 := num_le N hN
  have hm9 := num_le m2 (by omega)
  have hb9 := num_le m3 (by omega)
  have hfl := frame_length body
  rw [hl3] at hfl
  have T1 := keep (takeNum_put (n := N) (r := num m2 ++ l2 ++ (be 8 M ++ (frame body ++ rest))) (by omega))
  have T2 : Hid (txt (num m2 ++ l2 ++ (be 8 M ++ (frame body ++ rest))) (m2 : Int) = some (l2, be 8 M ++ (frame body ++ rest))) := by
    have := txt_put (s := l2) (r := be 8 M ++ (frame body ++ rest)) (most := (m2 : Int)) (by omega) (by omega)
    rw [hl2] at this
    rw [List.append_assoc]
    exact this
  have T4 := keep (tfr_frame (B := body) (R := rest) (most := (m3 : Int)) (by omega) (by omega))
  have h8 := be_length 8 M
  have D8 : Hid ((be 8 M ++ (frame body ++ rest)).drop 8 = frame body ++ rest) := List.drop_left' h8
  have B8 : Hid (big ((be 8 M ++ (frame body ++ rest)).take 8) = M) := by
    rw [List.take_left' h8]
    exact big_be 8 M (by have e : (256 : Nat) ^ 8 = 18446744073709551616 := rfl; omega)
  have z1 : Hid ((num m2 ++ l2 ++ (be 8 M ++ (frame body ++ rest))).length ≤ 140737488355328) := by
    simp only [List.length_append, hl2, hl4, h8]; show _ ≤ _; omega
  have z2 : Hid ((be 8 M ++ (frame body ++ rest)).length ≤ 140737488355328 ∧ 8 ≤ (be 8 M ++ (frame body ++ rest)).length ∧ (be 8 M ++ (frame body ++ rest)).length - 8 = (frame body ++ rest).length) := by
    simp only [List.length_append, hl4, h8]; show _ ∧ _; omega
  have z4 : Hid ((frame body ++ rest).length ≤ 140737488355328) := by
    simp only [List.length_append, hl4]; show _ ≤ _; omega
  have el : Hid (num N ++ (num m2 ++ l2) ++ be 8 M ++ frame body ++ rest = num N ++ (num m2 ++ l2 ++ (be 8 M ++ (frame body ++ rest)))) := by
    show _ = _; simp only [List.append_assoc]
  generalize (num m2 ++ l2 ++ (be 8 M ++ (frame body ++ rest))) = R1 at T1 T2 z1 el
  generalize (be 8 M ++ (frame body ++ rest)) = R2 at T2 D8 B8 z2
  generalize frame body ++ rest = R3 at D8 z2 z4 T4
  have KT := keep (fun a c w' (h : Src w' a (num N).length c (num N)) => putText_any a (num N).length c (num N) s m2 l2 w' hl2 hsl (by omega) h)
  have HSL := keep hsl
  have S3 := keep hs3
  have S4 := keep hs4
  have hsz : s.size = m2 := by rw [hsl]; exact hl2
  clear hs3 hs4 hsl
  go_enter Try.func8, Try.ntmps8
  go_wp2_with fail
  go_fit KP.out
  rintro e w1 ⟨a1, c1, rfl, hn1⟩
  have b1 := keep hn1.2
  obtain ⟨_, _, e1, hs1, _⟩ := hn1.src
  cases e1
  have S1 := keep hs1
  clear hn1 hs1 KP
  go_wp2_with fail
  go_fit (KT.out a1 c1 w1 S1.out)
  rintro e w2 ⟨v2, rfl, hn2⟩
  obtain ⟨x2, y2, rfl, hs2, _⟩ := hn2.src
  have b2 := keep (b1.out.trans (hn2.2.mono b1.out.size))
  have S2 := keep hs2
  clear hn2 hs2 KT b1 S1
  go_wp2_with fail
  refine (putFix_any x2 _ y2 _ (M : Int) w2 (by omega) (by omega) S2.out).mono ?_
  rw [hMm]
  rintro e w3 ⟨v3, rfl, hn3⟩
  obtain ⟨x3, y3, rfl, hs3, _⟩ := hn3.src
  have b3 := keep (b2.out.trans (hn3.2.mono b2.out.size))
  have Z3 := keep hs3
  clear hn3 hs3 b2 S2
  go_wp2_with fail
  refine (putFrame_any x3 _ y3 _ a3 m3 c3 body w3 (by omega) Z3.out (S3.out.below b3.out)).mono ?_
  rintro e w4 ⟨v4, rfl, hn4⟩
  have O4 := keep hn4.1
  have B4 := keep hn4.2
  clear hn4 Z3
  go_wp2_with (at_builtin; refine wpList_append_src rfl _ _ 22 rfl w3.heap.size i0 _ Try.underlying22 hi hz0 hz1 hz2 rfl _ ((num N).length + ((num m2).length + m2) + 8 + (frame body).length) (num N ++ (num m2 ++ l2) ++ be 8 M ++ frame body) rfl O4.out _ m4 c4 rest rfl (S4.out.below (b3.out.trans (B4.out.mono b3.out.size))) (by omega) B4.out.size ?_; intro v5 w5 ho5 hg5; have O5 := keep ho5; have b5 := keep (b3.out.trans ((B4.out.grown hg5 B4.out.size (fun j hj => (O4.out.lt j hj).1)).mono b3.out.size)); clear ho5 hg5)
  obtain ⟨x5, y5, rfl, hs5, _⟩ := Src.of_own O5.out
  rw [el.out] at hs5
  have K5 := keep (takeNum_yes (by omega) hs5 T1.out)
  clear hs5 el O5 O4 B4 b3 T1
  go_fit K5.out
  rintro e w6 ⟨x6, y6, rfl, hs6, hb6⟩
  have b6 := keep (b5.out.trans (hb6.mono b5.out.size))
  have K6 := keep (took_yesT (takeText_any x6 _ y6 _ (m2 : Int) w6 z1.out hs6) T2.out)
  clear hs6 hb6 b5 K5 T2
  go_wp2_with fail
  go_fit K6.out
  rintro e w7 ⟨x7, y7, rfl, hs7, hb7⟩
  have b7 := keep (b6.out.trans (hb7.mono b6.out.size))
  have K7 := keep (takeFix_yes z2.out.1 hs7 z2.out.2.1 B8.out hM D8.out z2.out.2.2)
  clear hs7 hb7 b6 K6
  go_wp2_with fail
  go_fit K7.out
  rintro e w8 ⟨x8, y8, rfl, hs8, hb8⟩
  have b8 := keep (b7.out.trans (hb8.mono b7.out.size))
  have K8 := keep (takeFrame_yes z4.out hs8 T4.out)
  clear hs8 hb8 b7 K7
  go_wp2_with fail
  go_fit K8.out
  rintro e w9 ⟨x9, y9, p9, q9, rfl, hs9, ht9, hb9⟩
  have b9 := keep (b8.out.trans (hb9.mono b8.out.size))
  rw [hl3] at hs9
  rw [hl4] at ht9
  have Z9 := keep hs9
  have R9 := keep ht9
  clear hs9 ht9 hb9 b8 K8
  have hbs : Hid ((⟨l2.toArray⟩ : ByteArray) = s) := HSL.out.symm
  rw [hbs.out]
  clear HSL hbs
  have hNi := HNe.out
  go_wp2_with fail
  refine (same_any x9 _ y9 body a3 m3 c3 body w9 Z9.out (S3.out.below b9.out)).mono ?_
  rintro e w10 ⟨rfl, hb10⟩
  have b10 := keep (b9.out.trans (hb10.mono b9.out.size))
  have R10 := keep (R9.out.below hb10)
  clear hb10 b9 Z9 R9
  rw [decide_eq_true rfl]
  go_wp2_with fail
  refine (same_any p9 _ q9 rest a4 m4 c4 rest w10 R10.out (S4.out.below b10.out)).mono ?_
  rintro e w11 ⟨rfl, hb11⟩
  have b11 := keep (b10.out.trans (hb11.mono b10.out.size))
  clear hb11 b10 R10
  rw [decide_eq_true rfl]
  go_wp2
  go_ret
  exact ⟨rfl, b11.out⟩

set_option maxHeartbeats 1000000 in
set_option maxRecDepth 100000 in
theorem back_pn (n : Int) (N : Nat) (s : ByteArray) (m2 : Nat) (l2 : List UInt8) (mm : Int) (M : Nat) (a3 : Option Addr) (m3 c3 : Nat) (body : List UInt8) (a4 : Option Addr) (m4 c4 : Nat) (rest : List UInt8) (w : World) (hb0 : m2 + m3 + m4 ≤ 1048576) (hl2 : l2.length = m2) (hsl : s = ⟨l2.toArray⟩) (hs3 : Src w a3 m3 c3 body) (hs4 : Src w a4 m4 c4 rest) (hM : M < 9223372036854775808) (hN : N ≤ 4611686018427387903) (hn : n = (N : Int)) (hm : mm < 0 ∧ M = 0) :
    Calls Try.prog 8 #[.int .i64 n, .string s, .int .i64 mm, .slice a3 m3 c3, .slice a4 m4 c4] w fun e w' => e = .returned (.bool true) ∧ Below w.heap.size w w' := by
  obtain ⟨i0, hi, hz0, hz1, hz2⟩ := info_parts info5
  have hl3 := hs3.len
  have hl4 := hs4.len
  have KP := keep (putNum_nil n w)
  subst hn
  have hcl : cl (N : Int) = N := by unfold cl; omega
  have hn0 : ¬ ((N : Int) < 0) := by omega
  have hn1 : (N : Int) ≤ 4611686018427387903 := by omega
  obtain ⟨hm0, hMe⟩ := hm
  have hMm : mm.toNat = M := by omega
  have HMe : Hid ((M : Int) = 0) := by show _ = _; omega
  clear hMe
  rw [hcl] at KP
  have hn9 := num_le N hN
  have hm9 := num_le m2 (by omega)
  have hb9 := num_le m3 (by omega)
  have hfl := frame_length body
  rw [hl3] at hfl
  have T1 := keep (takeNum_put (n := N) (r := num m2 ++ l2 ++ (be 8 M ++ (frame body ++ rest))) (by omega))
  have T2 : Hid (txt (num m2 ++ l2 ++ (be 8 M ++ (frame body ++ rest))) (m2 : Int) = some (l2, be 8 M ++ (frame body ++ rest))) := by
    have := txt_put (s := l2) (r := be 8 M ++ (frame body ++ rest)) (most := (m2 : Int)) (by omega) (by omega)
    rw [hl2] at this
    rw [List.append_assoc]
    exact this
  have T4 := keep (tfr_frame (B := body) (R := rest) (most := (m3 : Int)) (by omega) (by omega))
  have h8 := be_length 8 M
  have D8 : Hid ((be 8 M ++ (frame body ++ rest)).drop 8 = frame body ++ rest) := List.drop_left' h8
  have B8 : Hid (big ((be 8 M ++ (frame body ++ rest)).take 8) = M) := by
    rw [List.take_left' h8]
    exact big_be 8 M (by have e : (256 : Nat) ^ 8 = 18446744073709551616 := rfl; omega)
  have z1 : Hid ((num m2 ++ l2 ++ (be 8 M ++ (frame body ++ rest))).length ≤ 140737488355328) := by
    simp only [List.length_append, hl2, hl4, h8]; show _ ≤ _; omega
  have z2 : Hid ((be 8 M ++ (frame body ++ rest)).length ≤ 140737488355328 ∧ 8 ≤ (be 8 M ++ (frame body ++ rest)).length ∧ (be 8 M ++ (frame body ++ rest)).length - 8 = (frame body ++ rest).length) := by
    simp only [List.length_append, hl4, h8]; show _ ∧ _; omega
  have z4 : Hid ((frame body ++ rest).length ≤ 140737488355328) := by
    simp only [List.length_append, hl4]; show _ ≤ _; omega
  have el : Hid (num N ++ (num m2 ++ l2) ++ be 8 M ++ frame body ++ rest = num N ++ (num m2 ++ l2 ++ (be 8 M ++ (frame body ++ rest)))) := by
    show _ = _; simp only [List.append_assoc]
  generalize (num m2 ++ l2 ++ (be 8 M ++ (frame body ++ rest))) = R1 at T1 T2 z1 el
  generalize (be 8 M ++ (frame body ++ rest)) = R2 at T2 D8 B8 z2
  generalize frame body ++ rest = R3 at D8 z2 z4 T4
  have KT := keep (fun a c w' (h : Src w' a (num N).length c (num N)) => putText_any a (num N).length c (num N) s m2 l2 w' hl2 hsl (by omega) h)
  have HSL := keep hsl
  have S3 := keep hs3
  have S4 := keep hs4
  have hsz : s.size = m2 := by rw [hsl]; exact hl2
  clear hs3 hs4 hsl
  go_enter Try.func8, Try.ntmps8
  go_wp2_with fail
  go_fit KP.out
  rintro e w1 ⟨a1, c1, rfl, hn1⟩
  have b1 := keep hn1.2
  obtain ⟨_, _, e1, hs1, _⟩ := hn1.src
  cases e1
  have S1 := keep hs1
  clear hn1 hs1 KP
  go_wp2_with fail
  go_fit (KT.out a1 c1 w1 S1.out)
  rintro e w2 ⟨v2, rfl, hn2⟩
  obtain ⟨x2, y2, rfl, hs2, _⟩ := hn2.src
  have b2 := keep (b1.out.trans (hn2.2.mono b1.out.size))
  have S2 := keep hs2
  clear hn2 hs2 KT b1 S1
  go_wp2_with fail
  refine (putFix_any x2 _ y2 _ mm w2 (by omega) (by omega) S2.out).mono ?_
  rw [hMm]
  rintro e w3 ⟨v3, rfl, hn3⟩
  obtain ⟨x3, y3, rfl, hs3, _⟩ := hn3.src
  have b3 := keep (b2.out.trans (hn3.2.mono b2.out.size))
  have Z3 := keep hs3
  clear hn3 hs3 b2 S2
  go_wp2_with fail
  refine (putFrame_any x3 _ y3 _ a3 m3 c3 body w3 (by omega) Z3.out (S3.out.below b3.out)).mono ?_
  rintro e w4 ⟨v4, rfl, hn4⟩
  have O4 := keep hn4.1
  have B4 := keep hn4.2
  clear hn4 Z3
  go_wp2_with (at_builtin; refine wpList_append_src rfl _ _ 22 rfl w3.heap.size i0 _ Try.underlying22 hi hz0 hz1 hz2 rfl _ ((num N).length + ((num m2).length + m2) + 8 + (frame body).length) (num N ++ (num m2 ++ l2) ++ be 8 M ++ frame body) rfl O4.out _ m4 c4 rest rfl (S4.out.below (b3.out.trans (B4.out.mono b3.out.size))) (by omega) B4.out.size ?_; intro v5 w5 ho5 hg5; have O5 := keep ho5; have b5 := keep (b3.out.trans ((B4.out.grown hg5 B4.out.size (fun j hj => (O4.out.lt j hj).1)).mono b3.out.size)); clear ho5 hg5)
  obtain ⟨x5, y5, rfl, hs5, _⟩ := Src.of_own O5.out
  rw [el.out] at hs5
  have K5 := keep (takeNum_yes (by omega) hs5 T1.out)
  clear hs5 el O5 O4 B4 b3 T1
  go_fit K5.out
  rintro e w6 ⟨x6, y6, rfl, hs6, hb6⟩
  have b6 := keep (b5.out.trans (hb6.mono b5.out.size))
  have K6 := keep (took_yesT (takeText_any x6 _ y6 _ (m2 : Int) w6 z1.out hs6) T2.out)
  clear hs6 hb6 b5 K5 T2
  go_wp2_with fail
  go_fit K6.out
  rintro e w7 ⟨x7, y7, rfl, hs7, hb7⟩
  have b7 := keep (b6.out.trans (hb7.mono b6.out.size))
  have K7 := keep (takeFix_yes z2.out.1 hs7 z2.out.2.1 B8.out hM D8.out z2.out.2.2)
  clear hs7 hb7 b6 K6
  go_wp2_with fail
  go_fit K7.out
  rintro e w8 ⟨x8, y8, rfl, hs8, hb8⟩
  have b8 := keep (b7.out.trans (hb8.mono b7.out.size))
  have K8 := keep (takeFrame_yes z4.out hs8 T4.out)
  clear hs8 hb8 b7 K7
  go_wp2_with fail
  go_fit K8.out
  rintro e w9 ⟨x9, y9, p9, q9, rfl, hs9, ht9, hb9⟩
  have b9 := keep (b8.out.trans (hb9.mono b8.out.size))
  rw [hl3] at hs9
  rw [hl4] at ht9
  have Z9 := keep hs9
  have R9 := keep ht9
  clear hs9 ht9 hb9 b8 K8
  have hbs : Hid ((⟨l2.toArray⟩ : ByteArray) = s) := HSL.out.symm
  rw [hbs.out]
  clear HSL hbs
  have hMi := HMe.out
  go_wp2_with fail
  refine (same_any x9 _ y9 body a3 m3 c3 body w9 Z9.out (S3.out.below b9.out)).mono ?_
  rintro e w10 ⟨rfl, hb10⟩
  have b10 := keep (b9.out.trans (hb10.mono b9.out.size))
  have R10 := keep (R9.out.below hb10)
  clear hb10 b9 Z9 R9
  rw [decide_eq_true rfl]
  go_wp2_with fail
  refine (same_any p9 _ q9 rest a4 m4 c4 rest w10 R10.out (S4.out.below b10.out)).mono ?_
  rintro e w11 ⟨rfl, hb11⟩
  have b11 := keep (b10.out.trans (hb11.mono b10.out.size))
  clear hb11 b10 R10
  rw [decide_eq_true rfl]
  go_wp2
  go_ret
  exact ⟨rfl, b11.out⟩

set_option maxHeartbeats 1000000 in
set_option maxRecDepth 100000 in
theorem back_pp (n : Int) (N : Nat) (s : ByteArray) (m2 : Nat) (l2 : List UInt8) (mm : Int) (M : Nat) (a3 : Option Addr) (m3 c3 : Nat) (body : List UInt8) (a4 : Option Addr) (m4 c4 : Nat) (rest : List UInt8) (w : World) (hb0 : m2 + m3 + m4 ≤ 1048576) (hl2 : l2.length = m2) (hsl : s = ⟨l2.toArray⟩) (hs3 : Src w a3 m3 c3 body) (hs4 : Src w a4 m4 c4 rest) (hM : M < 9223372036854775808) (hN : N ≤ 4611686018427387903) (hn : n = (N : Int)) (hm : mm = (M : Int)) :
    Calls Try.prog 8 #[.int .i64 n, .string s, .int .i64 mm, .slice a3 m3 c3, .slice a4 m4 c4] w fun e w' => e = .returned (.bool true) ∧ Below w.heap.size w w' := by
  obtain ⟨i0, hi, hz0, hz1, hz2⟩ := info_parts info5
  have hl3 := hs3.len
  have hl4 := hs4.len
  have KP := keep (putNum_nil n w)
  subst hn
  have hcl : cl (N : Int) = N := by unfold cl; omega
  have hn0 : ¬ ((N : Int) < 0) := by omega
  have hn1 : (N : Int) ≤ 4611686018427387903 := by omega
  subst hm
  have hMm : (M : Int).toNat = M := by omega
  have hm0 : ¬ ((M : Int) < 0) := by omega
  rw [hcl] at KP
  have hn9 := num_le N hN
  have hm9 := num_le m2 (by omega)
  have hb9 := num_le m3 (by omega)
  have hfl := frame_length body
  rw [hl3] at hfl
  have T1 := keep (takeNum_put (n := N) (r := num m2 ++ l2 ++ (be 8 M ++ (frame body ++ rest))) (by omega))
  have T2 : Hid (txt (num m2 ++ l2 ++ (be 8 M ++ (frame body ++ rest))) (m2 : Int) = some (l2, be 8 M ++ (frame body ++ rest))) := by
    have := txt_put (s := l2) (r := be 8 M ++ (frame body ++ rest)) (most := (m2 : Int)) (by omega) (by omega)
    rw [hl2] at this
    rw [List.append_assoc]
    exact this
  have T4 := keep (tfr_frame (B := body) (R := rest) (most := (m3 : Int)) (by omega) (by omega))
  have h8 := be_length 8 M
  have D8 : Hid ((be 8 M ++ (frame body ++ rest)).drop 8 = frame body ++ rest) := List.drop_left' h8
  have B8 : Hid (big ((be 8 M ++ (frame body ++ rest)).take 8) = M) := by
    rw [List.take_left' h8]
    exact big_be 8 M (by have e : (256 : Nat) ^ 8 = 18446744073709551616 := rfl; omega)
  have z1 : Hid ((num m2 ++ l2 ++ (be 8 M ++ (frame body ++ rest))).length ≤ 140737488355328) := by
    simp only [List.length_append, hl2, hl4, h8]; show _ ≤ _; omega
  have z2 : Hid ((be 8 M ++ (frame body ++ rest)).length ≤ 140737488355328 ∧ 8 ≤ (be 8 M ++ (frame body ++ rest)).length ∧ (be 8 M ++ (frame body ++ rest)).length - 8 = (frame body ++ rest).length) := by
    simp only [List.length_append, hl4, h8]; show _ ∧ _; omega
  have z4 : Hid ((frame body ++ rest).length ≤ 140737488355328) := by
    simp only [List.length_append, hl4]; show _ ≤ _; omega
  have el : Hid (num N ++ (num m2 ++ l2) ++ be 8 M ++ frame body ++ rest = num N ++ (num m2 ++ l2 ++ (be 8 M ++ (frame body ++ rest)))) := by
    show _ = _; simp only [List.append_assoc]
  generalize (num m2 ++ l2 ++ (be 8 M ++ (frame body ++ rest))) = R1 at T1 T2 z1 el
  generalize (be 8 M ++ (frame body ++ rest)) = R2 at T2 D8 B8 z2
  generalize frame body ++ rest = R3 at D8 z2 z4 T4
  have KT := keep (fun a c w' (h : Src w' a (num N).length c (num N)) => putText_any a (num N).length c (num N) s m2 l2 w' hl2 hsl (by omega) h)
  have HSL := keep hsl
  have S3 := keep hs3
  have S4 := keep hs4
  have hsz : s.size = m2 := by rw [hsl]; exact hl2
  clear hs3 hs4 hsl
  go_enter Try.func8, Try.ntmps8
  go_wp2_with fail
  go_fit KP.out
  rintro e w1 ⟨a1, c1, rfl, hn1⟩
  have b1 := keep hn1.2
  obtain ⟨_, _, e1, hs1, _⟩ := hn1.src
  cases e1
  have S1 := keep hs1
  clear hn1 hs1 KP
  go_wp2_with fail
  go_fit (KT.out a1 c1 w1 S1.out)
  rintro e w2 ⟨v2, rfl, hn2⟩
  obtain ⟨x2, y2, rfl, hs2, _⟩ := hn2.src
  have b2 := keep (b1.out.trans (hn2.2.mono b1.out.size))
  have S2 := keep hs2
  clear hn2 hs2 KT b1 S1
  go_wp2_with fail
  refine (putFix_any x2 _ y2 _ (M : Int) w2 (by omega) (by omega) S2.out).mono ?_
  rw [hMm]
  rintro e w3 ⟨v3, rfl, hn3⟩
  obtain ⟨x3, y3, rfl, hs3, _⟩ := hn3.src
  have b3 := keep (b2.out.trans (hn3.2.mono b2.out.size))
  have Z3 := keep hs3
  clear hn3 hs3 b2 S2
  go_wp2_with fail
  refine (putFrame_any x3 _ y3 _ a3 m3 c3 body w3 (by omega) Z3.out (S3.out.below b3.out)).mono ?_
  rintro e w4 ⟨v4, rfl, hn4⟩
  have O4 := keep hn4.1
  have B4 := keep hn4.2
  clear hn4 Z3
  go_wp2_with (at_builtin; refine wpList_append_src rfl _ _ 22 rfl w3.heap.size i0 _ Try.underlying22 hi hz0 hz1 hz2 rfl _ ((num N).length + ((num m2).length + m2) + 8 + (frame body).length) (num N ++ (num m2 ++ l2) ++ be 8 M ++ frame body) rfl O4.out _ m4 c4 rest rfl (S4.out.below (b3.out.trans (B4.out.mono b3.out.size))) (by omega) B4.out.size ?_; intro v5 w5 ho5 hg5; have O5 := keep ho5; have b5 := keep (b3.out.trans ((B4.out.grown hg5 B4.out.size (fun j hj => (O4.out.lt j hj).1)).mono b3.out.size)); clear ho5 hg5)
  obtain ⟨x5, y5, rfl, hs5, _⟩ := Src.of_own O5.out
  rw [el.out] at hs5
  have K5 := keep (takeNum_yes (by omega) hs5 T1.out)
  clear hs5 el O5 O4 B4 b3 T1
  go_fit K5.out
  rintro e w6 ⟨x6, y6, rfl, hs6, hb6⟩
  have b6 := keep (b5.out.trans (hb6.mono b5.out.size))
  have K6 := keep (took_yesT (takeText_any x6 _ y6 _ (m2 : Int) w6 z1.out hs6) T2.out)
  clear hs6 hb6 b5 K5 T2
  go_wp2_with fail
  go_fit K6.out
  rintro e w7 ⟨x7, y7, rfl, hs7, hb7⟩
  have b7 := keep (b6.out.trans (hb7.mono b6.out.size))
  have K7 := keep (takeFix_yes z2.out.1 hs7 z2.out.2.1 B8.out hM D8.out z2.out.2.2)
  clear hs7 hb7 b6 K6
  go_wp2_with fail
  go_fit K7.out
  rintro e w8 ⟨x8, y8, rfl, hs8, hb8⟩
  have b8 := keep (b7.out.trans (hb8.mono b7.out.size))
  have K8 := keep (takeFrame_yes z4.out hs8 T4.out)
  clear hs8 hb8 b7 K7
  go_wp2_with fail
  go_fit K8.out
  rintro e w9 ⟨x9, y9, p9, q9, rfl, hs9, ht9, hb9⟩
  have b9 := keep (b8.out.trans (hb9.mono b8.out.size))
  rw [hl3] at hs9
  rw [hl4] at ht9
  have Z9 := keep hs9
  have R9 := keep ht9
  clear hs9 ht9 hb9 b8 K8
  have hbs : Hid ((⟨l2.toArray⟩ : ByteArray) = s) := HSL.out.symm
  rw [hbs.out]
  clear HSL hbs
  go_wp2_with fail
  refine (same_any x9 _ y9 body a3 m3 c3 body w9 Z9.out (S3.out.below b9.out)).mono ?_
  rintro e w10 ⟨rfl, hb10⟩
  have b10 := keep (b9.out.trans (hb10.mono b9.out.size))
  have R10 := keep (R9.out.below hb10)
  clear hb10 b9 Z9 R9
  rw [decide_eq_true rfl]
  go_wp2_with fail
  refine (same_any p9 _ q9 rest a4 m4 c4 rest w10 R10.out (S4.out.below b10.out)).mono ?_
  rintro e w11 ⟨rfl, hb11⟩
  have b11 := keep (b10.out.trans (hb11.mono b10.out.size))
  clear hb11 b10 R10
  rw [decide_eq_true rfl]
  go_wp2
  go_ret
  exact ⟨rfl, b11.out⟩

set_option maxHeartbeats 1000000 in
set_option maxRecDepth 100000 in
theorem back_gn (n : Int) (N : Nat) (s : ByteArray) (m2 : Nat) (l2 : List UInt8) (mm : Int) (M : Nat) (a3 : Option Addr) (m3 c3 : Nat) (body : List UInt8) (a4 : Option Addr) (m4 c4 : Nat) (rest : List UInt8) (w : World) (hb0 : m2 + m3 + m4 ≤ 1048576) (hl2 : l2.length = m2) (hsl : s = ⟨l2.toArray⟩) (hs3 : Src w a3 m3 c3 body) (hs4 : Src w a4 m4 c4 rest) (hM : M < 9223372036854775808) (hN : N ≤ 4611686018427387903) (hn : 4611686018427387903 < n ∧ N = 4611686018427387903) (hm : mm < 0 ∧ M = 0) :
    Calls Try.prog 8 #[.int .i64 n, .string s, .int .i64 mm, .slice a3 m3 c3, .slice a4 m4 c4] w fun e w' => e = .returned (.bool true) ∧ Below w.heap.size w w' := by
  obtain ⟨i0, hi, hz0, hz1, hz2⟩ := info_parts info5
  have hl3 := hs3.len
  have hl4 := hs4.len
  have KP := keep (putNum_nil n w)
  obtain ⟨hn0, hNe⟩ := hn
  have hcl : cl n = N := by unfold cl; omega
  have HNe : Hid ((N : Int) = 4611686018427387903) := by show _ = _; omega
  clear hNe
  have hn1 : ¬ (n < 0) := by omega
  have hn2 : ¬ (n ≤ 4611686018427387903) := by omega
  obtain ⟨hm0, hMe⟩ := hm
  have hMm : mm.toNat = M := by omega
  have HMe : Hid ((M : Int) = 0) := by show _ = _; omega
  clear hMe
  rw [hcl] at KP
  have hn9 := num_le N hN
  have hm9 := num_le m2 (by omega)
  have hb9 := num_le m3 (by omega)
  have hfl := frame_length body
  rw [hl3] at hfl
  have T1 := keep (takeNum_put (n := N) (r := num m2 ++ l2 ++ (be 8 M ++ (frame body ++ rest))) (by omega))
  have T2 : Hid (txt (num m2 ++ l2 ++ (be 8 M ++ (frame body ++ rest))) (m2 : Int) = some (l2, be 8 M ++ (frame body ++ rest))) := by
    have := txt_put (s := l2) (r := be 8 M ++ (frame body ++ rest)) (most := (m2 : Int)) (by omega) (by omega)
    rw [hl2] at this
    rw [List.append_assoc]
    exact this
  have T4 := keep (tfr_frame (B := body) (R := rest) (most := (m3 : Int)) (by omega) (by omega))
  have h8 := be_length 8 M
  have D8 : Hid ((be 8 M ++ (frame body ++ rest)).drop 8 = frame body ++ rest) := List.drop_left' h8
  have B8 : Hid (big ((be 8 M ++ (frame body ++ rest)).take 8) = M) := by
    rw [List.take_left' h8]
    exact big_be 8 M (by have e : (256 : Nat) ^ 8 = 18446744073709551616 := rfl; omega)
  have z1 : Hid ((num m2 ++ l2 ++ (be 8 M ++ (frame body ++ rest))).length ≤ 140737488355328) := by
    simp only [List.length_append, hl2, hl4, h8]; show _ ≤ _; omega
  have z2 : Hid ((be 8 M ++ (frame body ++ rest)).length ≤ 140737488355328 ∧ 8 ≤ (be 8 M ++ (frame body ++ rest)).length ∧ (be 8 M ++ (frame body ++ rest)).length - 8 = (frame body ++ rest).length) := by
    simp only [List.length_append, hl4, h8]; show _ ∧ _; omega
  have z4 : Hid ((frame body ++ rest).length ≤ 140737488355328) := by
    simp only [List.length_append, hl4]; show _ ≤ _; omega
  have el : Hid (num N ++ (num m2 ++ l2) ++ be 8 M ++ frame body ++ rest = num N ++ (num m2 ++ l2 ++ (be 8 M ++ (frame body ++ rest)))) := by
    show _ = _; simp only [List.append_assoc]
  generalize (num m2 ++ l2 ++ (be 8 M ++ (frame body ++ rest))) = R1 at T1 T2 z1 el
  generalize (be 8 M ++ (frame body ++ rest)) = R2 at T2 D8 B8 z2
  generalize frame body ++ rest = R3 at D8 z2 z4 T4
  have KT := keep (fun a c w' (h : Src w' a (num N).length c (num N)) => putText_any a (num N).length c (num N) s m2 l2 w' hl2 hsl (by omega) h)
  have HSL := keep hsl
  have S3 := keep hs3
  have S4 := keep hs4
  have hsz : s.size = m2 := by rw [hsl]; exact hl2
  clear hs3 hs4 hsl
  go_enter Try.func8, Try.ntmps8
  go_wp2_with fail
  go_fit KP.out
  rintro e w1 ⟨a1, c1, rfl, hn1⟩
  have b1 := keep hn1.2
  obtain ⟨_, _, e1, hs1, _⟩ := hn1.src
  cases e1
  have S1 := keep hs1
  clear hn1 hs1 KP
  go_wp2_with fail
  go_fit (KT.out a1 c1 w1 S1.out)
  rintro e w2 ⟨v2, rfl, hn2⟩
  obtain ⟨x2, y2, rfl, hs2, _⟩ := hn2.src
  have b2 := keep (b1.out.trans (hn2.2.mono b1.out.size))
  have S2 := keep hs2
  clear hn2 hs2 KT b1 S1
  go_wp2_with fail
  refine (putFix_any x2 _ y2 _ mm w2 (by omega) (by omega) S2.out).mono ?_
  rw [hMm]
  rintro e w3 ⟨v3, rfl, hn3⟩
  obtain ⟨x3, y3, rfl, hs3, _⟩ := hn3.src
  have b3 := keep (b2.out.trans (hn3.2.mono b2.out.size))
  have Z3 := keep hs3
  clear hn3 hs3 b2 S2
  go_wp2_with fail
  refine (putFrame_any x3 _ y3 _ a3 m3 c3 body w3 (by omega) Z3.out (S3.out.below b3.out)).mono ?_
  rintro e w4 ⟨v4, rfl, hn4⟩
  have O4 := keep hn4.1
  have B4 := keep hn4.2
  clear hn4 Z3
  go_wp2_with (at_builtin; refine wpList_append_src rfl _ _ 22 rfl w3.heap.size i0 _ Try.underlying22 hi hz0 hz1 hz2 rfl _ ((num N).length + ((num m2).length + m2) + 8 + (frame body).length) (num N ++ (num m2 ++ l2) ++ be 8 M ++ frame body) rfl O4.out _ m4 c4 rest rfl (S4.out.below (b3.out.trans (B4.out.mono b3.out.size))) (by omega) B4.out.size ?_; intro v5 w5 ho5 hg5; have O5 := keep ho5; have b5 := keep (b3.out.trans ((B4.out.grown hg5 B4.out.size (fun j hj => (O4.out.lt j hj).1)).mono b3.out.size)); clear ho5 hg5)
  obtain ⟨x5, y5, rfl, hs5, _⟩ := Src.of_own O5.out
  rw [el.out] at hs5
  have K5 := keep (takeNum_yes (by omega) hs5 T1.out)
  clear hs5 el O5 O4 B4 b3 T1
  go_fit K5.out
  rintro e w6 ⟨x6, y6, rfl, hs6, hb6⟩
  have b6 := keep (b5.out.trans (hb6.mono b5.out.size))
  have K6 := keep (took_yesT (takeText_any x6 _ y6 _ (m2 : Int) w6 z1.out hs6) T2.out)
  clear hs6 hb6 b5 K5 T2
  go_wp2_with fail
  go_fit K6.out
  rintro e w7 ⟨x7, y7, rfl, hs7, hb7⟩
  have b7 := keep (b6.out.trans (hb7.mono b6.out.size))
  have K7 := keep (takeFix_yes z2.out.1 hs7 z2.out.2.1 B8.out hM D8.out z2.out.2.2)
  clear hs7 hb7 b6 K6
  go_wp2_with fail
  go_fit K7.out
  rintro e w8 ⟨x8, y8, rfl, hs8, hb8⟩
  have b8 := keep (b7.out.trans (hb8.mono b7.out.size))
  have K8 := keep (takeFrame_yes z4.out hs8 T4.out)
  clear hs8 hb8 b7 K7
  go_wp2_with fail
  go_fit K8.out
  rintro e w9 ⟨x9, y9, p9, q9, rfl, hs9, ht9, hb9⟩
  have b9 := keep (b8.out.trans (hb9.mono b8.out.size))
  rw [hl3] at hs9
  rw [hl4] at ht9
  have Z9 := keep hs9
  have R9 := keep ht9
  clear hs9 ht9 hb9 b8 K8
  have hbs : Hid ((⟨l2.toArray⟩ : ByteArray) = s) := HSL.out.symm
  rw [hbs.out]
  clear HSL hbs
  have hNi := HNe.out
  have hMi := HMe.out
  go_wp2_with fail
  refine (same_any x9 _ y9 body a3 m3 c3 body w9 Z9.out (S3.out.below b9.out)).mono ?_
  rintro e w10 ⟨rfl, hb10⟩
  have b10 := keep (b9.out.trans (hb10.mono b9.out.size))
  have R10 := keep (R9.out.below hb10)
  clear hb10 b9 Z9 R9
  rw [decide_eq_true rfl]
  go_wp2_with fail
  refine (same_any p9 _ q9 rest a4 m4 c4 rest w10 R10.out (S4.out.below b10.out)).mono ?_
  rintro e w11 ⟨rfl, hb11⟩
  have b11 := keep (b10.out.trans (hb11.mono b10.out.size))
  clear hb11 b10 R10
  rw [decide_eq_true rfl]
  go_wp2
  go_ret
  exact ⟨rfl, b11.out⟩

set_option maxHeartbeats 1000000 in
set_option maxRecDepth 100000 in
theorem back_gp (n : Int) (N : Nat) (s : ByteArray) (m2 : Nat) (l2 : List UInt8) (mm : Int) (M : Nat) (a3 : Option Addr) (m3 c3 : Nat) (body : List UInt8) (a4 : Option Addr) (m4 c4 : Nat) (rest : List UInt8) (w : World) (hb0 : m2 + m3 + m4 ≤ 1048576) (hl2 : l2.length = m2) (hsl : s = ⟨l2.toArray⟩) (hs3 : Src w a3 m3 c3 body) (hs4 : Src w a4 m4 c4 rest) (hM : M < 9223372036854775808) (hN : N ≤ 4611686018427387903) (hn : 4611686018427387903 < n ∧ N = 4611686018427387903) (hm : mm = (M : Int)) :
    Calls Try.prog 8 #[.int .i64 n, .string s, .int .i64 mm, .slice a3 m3 c3, .slice a4 m4 c4] w fun e w' => e = .returned (.bool true) ∧ Below w.heap.size w w' := by
  obtain ⟨i0, hi, hz0, hz1, hz2⟩ := info_parts info5
  have hl3 := hs3.len
  have hl4 := hs4.len
  have KP := keep (putNum_nil n w)
  obtain ⟨hn0, hNe⟩ := hn
  have hcl : cl n = N := by unfold cl; omega
  have HNe : Hid ((N : Int) = 4611686018427387903) := by show _ = _; omega
  clear hNe
  have hn1 : ¬ (n < 0) := by omega
  have hn2 : ¬ (n ≤ 4611686018427387903) := by omega
  subst hm
  have hMm : (M : Int).toNat = M := by omega
  have hm0 : ¬ ((M : Int) < 0) := by omega
  rw [hcl] at KP
  have hn9 := num_le N hN
  have hm9 := num_le m2 (by omega)
  have hb9 := num_le m3 (by omega)
  have hfl := frame_length body
  rw [hl3] at hfl
  have T1 := keep (takeNum_put (n := N) (r := num m2 ++ l2 ++ (be 8 M ++ (frame body ++ rest))) (by omega))
  have T2 : Hid (txt (num m2 ++ l2 ++ (be 8 M ++ (frame body ++ rest))) (m2 : Int) = some (l2, be 8 M ++ (frame body ++ rest))) := by
    have := txt_put (s := l2) (r := be 8 M ++ (frame body ++ rest)) (most := (m2 : Int)) (by omega) (by omega)
    rw [hl2] at this
    rw [List.append_assoc]
    exact this
  have T4 := keep (tfr_frame (B := body) (R := rest) (most := (m3 : Int)) (by omega) (by omega))
  have h8 := be_length 8 M
  have D8 : Hid ((be 8 M ++ (frame body ++ rest)).drop 8 = frame body ++ rest) := List.drop_left' h8
  have B8 : Hid (big ((be 8 M ++ (frame body ++ rest)).take 8) = M) := by
    rw [List.take_left' h8]
    exact big_be 8 M (by have e : (256 : Nat) ^ 8 = 18446744073709551616 := rfl; omega)
  have z1 : Hid ((num m2 ++ l2 ++ (be 8 M ++ (frame body ++ rest))).length ≤ 140737488355328) := by
    simp only [List.length_append, hl2, hl4, h8]; show _ ≤ _; omega
  have z2 : Hid ((be 8 M ++ (frame body ++ rest)).length ≤ 140737488355328 ∧ 8 ≤ (be 8 M ++ (frame body ++ rest)).length ∧ (be 8 M ++ (frame body ++ rest)).length - 8 = (frame body ++ rest).length) := by
    simp only [List.length_append, hl4, h8]; show _ ∧ _; omega
  have z4 : Hid ((frame body ++ rest).length ≤ 140737488355328) := by
    simp only [List.length_append, hl4]; show _ ≤ _; omega
  have el : Hid (num N ++ (num m2 ++ l2) ++ be 8 M ++ frame body ++ rest = num N ++ (num m2 ++ l2 ++ (be 8 M ++ (frame body ++ rest)))) := by
    show _ = _; simp only [List.append_assoc]
  generalize (num m2 ++ l2 ++ (be 8 M ++ (frame body ++ rest))) = R1 at T1 T2 z1 el
  generalize (be 8 M ++ (frame body ++ rest)) = R2 at T2 D8 B8 z2
  generalize frame body ++ rest = R3 at D8 z2 z4 T4
  have KT := keep (fun a c w' (h : Src w' a (num N).length c (num N)) => putText_any a (num N).length c (num N) s m2 l2 w' hl2 hsl (by omega) h)
  have HSL := keep hsl
  have S3 := keep hs3
  have S4 := keep hs4
  have hsz : s.size = m2 := by rw [hsl]; exact hl2
  clear hs3 hs4 hsl
  go_enter Try.func8, Try.ntmps8
  go_wp2_with fail
  go_fit KP.out
  rintro e w1 ⟨a1, c1, rfl, hn1⟩
  have b1 := keep hn1.2
  obtain ⟨_, _, e1, hs1, _⟩ := hn1.src
  cases e1
  have S1 := keep hs1
  clear hn1 hs1 KP
  go_wp2_with fail
  go_fit (KT.out a1 c1 w1 S1.out)
  rintro e w2 ⟨v2, rfl, hn2⟩
  obtain ⟨x2, y2, rfl, hs2, _⟩ := hn2.src
  have b2 := keep (b1.out.trans (hn2.2.mono b1.out.size))
  have S2 := keep hs2
  clear hn2 hs2 KT b1 S1
  go_wp2_with fail
  refine (putFix_any x2 _ y2 _ (M : Int) w2 (by omega) (by omega) S2.out).mono ?_
  rw [hMm]
  rintro e w3 ⟨v3, rfl, hn3⟩
  obtain ⟨x3, y3, rfl, hs3, _⟩ := hn3.src
  have b3 := keep (b2.out.trans (hn3.2.mono b2.out.size))
  have Z3 := keep hs3
  clear hn3 hs3 b2 S2
  go_wp2_with fail
  refine (putFrame_any x3 _ y3 _ a3 m3 c3 body w3 (by omega) Z3.out (S3.out.below b3.out)).mono ?_
  rintro e w4 ⟨v4, rfl, hn4⟩
  have O4 := keep hn4.1
  have B4 := keep hn4.2
  clear hn4 Z3
  go_wp2_with (at_builtin; refine wpList_append_src rfl _ _ 22 rfl w3.heap.size i0 _ Try.underlying22 hi hz0 hz1 hz2 rfl _ ((num N).length + ((num m2).length + m2) + 8 + (frame body).length) (num N ++ (num m2 ++ l2) ++ be 8 M ++ frame body) rfl O4.out _ m4 c4 rest rfl (S4.out.below (b3.out.trans (B4.out.mono b3.out.size))) (by omega) B4.out.size ?_; intro v5 w5 ho5 hg5; have O5 := keep ho5; have b5 := keep (b3.out.trans ((B4.out.grown hg5 B4.out.size (fun j hj => (O4.out.lt j hj).1)).mono b3.out.size)); clear ho5 hg5)
  obtain ⟨x5, y5, rfl, hs5, _⟩ := Src.of_own O5.out
  rw [el.out] at hs5
  have K5 := keep (takeNum_yes (by omega) hs5 T1.out)
  clear hs5 el O5 O4 B4 b3 T1
  go_fit K5.out
  rintro e w6 ⟨x6, y6, rfl, hs6, hb6⟩
  have b6 := keep (b5.out.trans (hb6.mono b5.out.size))
  have K6 := keep (took_yesT (takeText_any x6 _ y6 _ (m2 : Int) w6 z1.out hs6) T2.out)
  clear hs6 hb6 b5 K5 T2
  go_wp2_with fail
  go_fit K6.out
  rintro e w7 ⟨x7, y7, rfl, hs7, hb7⟩
  have b7 := keep (b6.out.trans (hb7.mono b6.out.size))
  have K7 := keep (takeFix_yes z2.out.1 hs7 z2.out.2.1 B8.out hM D8.out z2.out.2.2)
  clear hs7 hb7 b6 K6
  go_wp2_with fail
  go_fit K7.out
  rintro e w8 ⟨x8, y8, rfl, hs8, hb8⟩
  have b8 := keep (b7.out.trans (hb8.mono b7.out.size))
  have K8 := keep (takeFrame_yes z4.out hs8 T4.out)
  clear hs8 hb8 b7 K7
  go_wp2_with fail
  go_fit K8.out
  rintro e w9 ⟨x9, y9, p9, q9, rfl, hs9, ht9, hb9⟩
  have b9 := keep (b8.out.trans (hb9.mono b8.out.size))
  rw [hl3] at hs9
  rw [hl4] at ht9
  have Z9 := keep hs9
  have R9 := keep ht9
  clear hs9 ht9 hb9 b8 K8
  have hbs : Hid ((⟨l2.toArray⟩ : ByteArray) = s) := HSL.out.symm
  rw [hbs.out]
  clear HSL hbs
  have hNi := HNe.out
  go_wp2_with fail
  refine (same_any x9 _ y9 body a3 m3 c3 body w9 Z9.out (S3.out.below b9.out)).mono ?_
  rintro e w10 ⟨rfl, hb10⟩
  have b10 := keep (b9.out.trans (hb10.mono b9.out.size))
  have R10 := keep (R9.out.below hb10)
  clear hb10 b9 Z9 R9
  rw [decide_eq_true rfl]
  go_wp2_with fail
  refine (same_any p9 _ q9 rest a4 m4 c4 rest w10 R10.out (S4.out.below b10.out)).mono ?_
  rintro e w11 ⟨rfl, hb11⟩
  have b11 := keep (b10.out.trans (hb11.mono b10.out.size))
  clear hb11 b10 R10
  rw [decide_eq_true rfl]
  go_wp2
  go_ret
  exact ⟨rfl, b11.out⟩

theorem back_walk (n : Int) (s : ByteArray) (mm : Int) (a3 : Option Addr) (m3 c3 : Nat) (body : List UInt8) (a4 : Option Addr) (m4 c4 : Nat) (rest : List UInt8) (w : World) (hb0 : s.size + m3 + m4 ≤ 1048576) (hn : -9223372036854775808 ≤ n ∧ n < 9223372036854775808) (hm : -9223372036854775808 ≤ mm ∧ mm < 9223372036854775808) (hs3 : Src w a3 m3 c3 body) (hs4 : Src w a4 m4 c4 rest) :
    Calls Try.prog 8 #[.int .i64 n, .string s, .int .i64 mm, .slice a3 m3 c3, .slice a4 m4 c4] w fun e w' => e = .returned (.bool true) ∧ Below w.heap.size w w' := by
  have hl2 : s.data.toList.length = s.size := by rw [Array.length_toList]; rfl
  have hsl := (str_list s).symm
  by_cases h1 : n < 0
  · by_cases h2 : mm < 0
    · exact back_nn n 0 s _ _ mm 0 a3 m3 c3 body a4 m4 c4 rest w hb0 hl2 hsl hs3 hs4 (by omega) (by omega) ⟨h1, rfl⟩ ⟨h2, rfl⟩
    · exact back_np n 0 s _ _ mm mm.toNat a3 m3 c3 body a4 m4 c4 rest w hb0 hl2 hsl hs3 hs4 (by omega) (by omega) ⟨h1, rfl⟩ (by omega)
  · by_cases h3 : 4611686018427387903 < n
    · by_cases h2 : mm < 0
      · exact back_gn n 4611686018427387903 s _ _ mm 0 a3 m3 c3 body a4 m4 c4 rest w hb0 hl2 hsl hs3 hs4 (by omega) (by omega) ⟨h3, rfl⟩ ⟨h2, rfl⟩
      · exact back_gp n 4611686018427387903 s _ _ mm mm.toNat a3 m3 c3 body a4 m4 c4 rest w hb0 hl2 hsl hs3 hs4 (by omega) (by omega) ⟨h3, rfl⟩ (by omega)
    · by_cases h2 : mm < 0
      · exact back_pn n n.toNat s _ _ mm 0 a3 m3 c3 body a4 m4 c4 rest w hb0 hl2 hsl hs3 hs4 (by omega) (by omega) (by omega) ⟨h2, rfl⟩
      · exact back_pp n n.toNat s _ _ mm mm.toNat a3 m3 c3 body a4 m4 c4 rest w hb0 hl2 hsl hs3 hs4 (by omega) (by omega) (by omega) (by omega)
end Go.Proofs.Yticglckbjdchjaa
